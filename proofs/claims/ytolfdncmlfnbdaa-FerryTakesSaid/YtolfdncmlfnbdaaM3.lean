/- A ferry takes no piece of its own crossing that lies behind what it has. -/
import Derived.Test.YtolfdncmlfnbdaaLa
namespace Go.Proofs.Ytolfdncmlfnbdaa
open Go.RowKit
theorem laid_gap (xs ys : List B8) (a : Nat) (h : xs.length < a) : laid xs ys a = xs := by
  unfold laid
  rw [if_neg (fun q => by omega)]

set_option maxRecDepth 100000 in
set_option maxHeartbeats 8000000 in
theorem takeGap_f (x : Lt) (r : LR) (p : Nat) (tm i t : Int) (s : S4) (cf : Cfg) (L a m d : Nat) (B : Option Addr) (A : Option Addr) (n c : Nat) (xs ys : List B8) (W : World) (h : FAt p tm i t (L : Int) true A n c xs W)
    (hm : m = ys.length) (h1 : L ≤ 131072) (h2 : a ≤ L) (h3 : m ≤ L - a) (ha : n < a) (hnL : n ≤ L) (HX : ∀ w', Fr p A n c W w' → CfgAt w' s cf ∧ BytesIn w' (.slice B m d) ys) :
    Calls Try.prog 77 #[.pointer (some ⟨p, 0, none⟩), .agg #[.int .u8 5, .int .i64 x.group, .int .i64 x.from_, .int .i64 x.to_, .int .i64 tm, .int .i64 x.index, .int .i64 x.logterm, .int .i64 x.commit, .bool x.ok, .slice r.eA x.es.length r.ec, .int .i64 i, .int .i64 t, .slice s.A0 s.n0 s.c0, .slice s.A1 s.n1 s.c1, .slice s.A2 s.n2 s.c2, .slice s.A3 s.n3 s.c3, .int .i64 (L : Int), .int .i64 (a : Int), .int .i64 x.tag, .slice B m d]] W (TakeYes p tm i t L cf A n c W (laid xs ys a)) := by
  have HNX := Lib.hid h.len
  have HXX := Lib.hid HX
  have HM := Lib.hid hm
  clear HX hm
  have HO : Hid (Ok W ((W.alloc (.cells #[.int .u8 5, .int .i64 x.group, .int .i64 x.from_, .int .i64 x.to_, .int .i64 tm, .int .i64 x.index, .int .i64 x.logterm, .int .i64 x.commit, .bool x.ok, .slice r.eA x.es.length r.ec, .int .i64 i, .int .i64 t, .slice s.A0 s.n0 s.c0, .slice s.A1 s.n1 s.c1, .slice s.A2 s.n2 s.c2, .slice s.A3 s.n3 s.c3, .int .i64 (L : Int), .int .i64 (a : Int), .int .i64 x.tag, .slice B m d] 95)).alloc (.cells #[.int .i64 0, .int .i64 0, .slice none 0 0, .slice none 0 0, .slice none 0 0, .slice none 0 0, .slice none 0 0] 97))) := Lib.hid (((Ok.refl W).alloc _).alloc _)
  have HF : Hid (FAt p tm i t (L : Int) true A n c xs ((W.alloc (.cells #[.int .u8 5, .int .i64 x.group, .int .i64 x.from_, .int .i64 x.to_, .int .i64 tm, .int .i64 x.index, .int .i64 x.logterm, .int .i64 x.commit, .bool x.ok, .slice r.eA x.es.length r.ec, .int .i64 i, .int .i64 t, .slice s.A0 s.n0 s.c0, .slice s.A1 s.n1 s.c1, .slice s.A2 s.n2 s.c2, .slice s.A3 s.n3 s.c3, .int .i64 (L : Int), .int .i64 (a : Int), .int .i64 x.tag, .slice B m d] 95)).alloc (.cells #[.int .i64 0, .int .i64 0, .slice none 0 0, .slice none 0 0, .slice none 0 0, .slice none 0 0, .slice none 0 0] 97))) := Lib.hid (h.ok HO.out)
  have HRX : Hid (((W.alloc (.cells #[.int .u8 5, .int .i64 x.group, .int .i64 x.from_, .int .i64 x.to_, .int .i64 tm, .int .i64 x.index, .int .i64 x.logterm, .int .i64 x.commit, .bool x.ok, .slice r.eA x.es.length r.ec, .int .i64 i, .int .i64 t, .slice s.A0 s.n0 s.c0, .slice s.A1 s.n1 s.c1, .slice s.A2 s.n2 s.c2, .slice s.A3 s.n3 s.c3, .int .i64 (L : Int), .int .i64 (a : Int), .int .i64 x.tag, .slice B m d] 95)).alloc (.cells #[.int .i64 0, .int .i64 0, .slice none 0 0, .slice none 0 0, .slice none 0 0, .slice none 0 0, .slice none 0 0] 97)).rangeAt W.heap.size 0 [.int .u8 5, .int .i64 x.group, .int .i64 x.from_, .int .i64 x.to_, .int .i64 tm, .int .i64 x.index, .int .i64 x.logterm, .int .i64 x.commit, .bool x.ok, .slice r.eA x.es.length r.ec, .int .i64 i, .int .i64 t, .slice s.A0 s.n0 s.c0, .slice s.A1 s.n1 s.c1, .slice s.A2 s.n2 s.c2, .slice s.A3 s.n3 s.c3, .int .i64 (L : Int), .int .i64 (a : Int), .int .i64 x.tag, .slice B m d]) := Lib.hid (World.rangeAt_alloc (range_new W [.int .u8 5, .int .i64 x.group, .int .i64 x.from_, .int .i64 x.to_, .int .i64 tm, .int .i64 x.index, .int .i64 x.logterm, .int .i64 x.commit, .bool x.ok, .slice r.eA x.es.length r.ec, .int .i64 i, .int .i64 t, .slice s.A0 s.n0 s.c0, .slice s.A1 s.n1 s.c1, .slice s.A2 s.n2 s.c2, .slice s.A3 s.n3 s.c3, .int .i64 (L : Int), .int .i64 (a : Int), .int .i64 x.tag, .slice B m d] 95) _)
  have HS7 : Hid (Seven (W.heap.size + 1) (.int .i64 0) (.int .i64 0) (.slice none 0 0) (.slice none 0 0) (.slice none 0 0) (.slice none 0 0) (.slice none 0 0) ((W.alloc (.cells #[.int .u8 5, .int .i64 x.group, .int .i64 x.from_, .int .i64 x.to_, .int .i64 tm, .int .i64 x.index, .int .i64 x.logterm, .int .i64 x.commit, .bool x.ok, .slice r.eA x.es.length r.ec, .int .i64 i, .int .i64 t, .slice s.A0 s.n0 s.c0, .slice s.A1 s.n1 s.c1, .slice s.A2 s.n2 s.c2, .slice s.A3 s.n3 s.c3, .int .i64 (L : Int), .int .i64 (a : Int), .int .i64 x.tag, .slice B m d] 95)).alloc (.cells #[.int .i64 0, .int .i64 0, .slice none 0 0, .slice none 0 0, .slice none 0 0, .slice none 0 0, .slice none 0 0] 97))) := Lib.hid (by have := Seven.new (W.alloc (.cells #[.int .u8 5, .int .i64 x.group, .int .i64 x.from_, .int .i64 x.to_, .int .i64 tm, .int .i64 x.index, .int .i64 x.logterm, .int .i64 x.commit, .bool x.ok, .slice r.eA x.es.length r.ec, .int .i64 i, .int .i64 t, .slice s.A0 s.n0 s.c0, .slice s.A1 s.n1 s.c1, .slice s.A2 s.n2 s.c2, .slice s.A3 s.n3 s.c3, .int .i64 (L : Int), .int .i64 (a : Int), .int .i64 x.tag, .slice B m d] 95)) (.int .i64 0) (.int .i64 0) (.slice none 0 0) (.slice none 0 0) (.slice none 0 0) (.slice none 0 0) (.slice none 0 0) 97; rwa [World.size_alloc] at this)
  have HZZ : Hid (W.heap.size + 2 ≤ ((W.alloc (.cells #[.int .u8 5, .int .i64 x.group, .int .i64 x.from_, .int .i64 x.to_, .int .i64 tm, .int .i64 x.index, .int .i64 x.logterm, .int .i64 x.commit, .bool x.ok, .slice r.eA x.es.length r.ec, .int .i64 i, .int .i64 t, .slice s.A0 s.n0 s.c0, .slice s.A1 s.n1 s.c1, .slice s.A2 s.n2 s.c2, .slice s.A3 s.n3 s.c3, .int .i64 (L : Int), .int .i64 (a : Int), .int .i64 x.tag, .slice B m d] 95)).alloc (.cells #[.int .i64 0, .int .i64 0, .slice none 0 0, .slice none 0 0, .slice none 0 0, .slice none 0 0, .slice none 0 0] 97)).heap.size) := Lib.hid (by rw [World.size_alloc, World.size_alloc]; omega)
  obtain ⟨d80, hd80, hrow⟩ : ∃ d, Try.prog.underlying 95 = some d ∧ d.isRow = true := ⟨_, Try.underlying95, rfl⟩
  have HD := Lib.hid (And.intro hd80 hrow)
  have HOB := Lib.hid h.ownGe
  have HPL := Lib.hid h.lt
  clear hd80 hrow h
  go_enter Try.func77, Try.ntmps77
  go_upto_region 1 with fail
  rename_i K0 hK0
  have HK0 := Lib.hid hK0
  clear hK0
  generalize ((W.alloc (.cells #[.int .u8 5, .int .i64 x.group, .int .i64 x.from_, .int .i64 x.to_, .int .i64 tm, .int .i64 x.index, .int .i64 x.logterm, .int .i64 x.commit, .bool x.ok, .slice r.eA x.es.length r.ec, .int .i64 i, .int .i64 t, .slice s.A0 s.n0 s.c0, .slice s.A1 s.n1 s.c1, .slice s.A2 s.n2 s.c2, .slice s.A3 s.n3 s.c3, .int .i64 (L : Int), .int .i64 (a : Int), .int .i64 x.tag, .slice B m d] 95)).alloc (.cells #[.int .i64 0, .int .i64 0, .slice none 0 0, .slice none 0 0, .slice none 0 0, .slice none 0 0, .slice none 0 0] 97)) = w0 at *
  obtain ⟨g, hg⟩ : ∃ g, W.heap.size = g := ⟨_, rfl⟩
  have HG := Lib.hid hg
  rw [hg] at HRX HS7 HZZ HOB HPL ⊢
  clear hg
  refine wp_region_lit ?_
  refine wpList_step (fun K hK => ?_)
  rw [if_pos (by rfl)]
  go_simp
  refine hK _ _ ?_
  clear hK K
  try go_frame
  refine wpList_step (fun K hK => ?_)
  rw [if_pos (by rfl)]
  go_simp
  (with_reducible refine (fnone_f p w0 HF.out.c6).mono ?_)
  rintro _ w1 ⟨rfl, rfl⟩
  refine hK _ _ ?_
  clear hK K
  try go_frame
  refine wpList_step (fun K hK => ?_)
  rw [if_pos (by rfl)]
  go_simp
  refine hK _ _ ?_
  clear hK K
  try go_frame
  refine wpList_load_w (by rfl) 95 (.tmp 3) rfl g 0 rfl [.int .u8 5, .int .i64 x.group, .int .i64 x.from_, .int .i64 x.to_, .int .i64 tm, .int .i64 x.index, .int .i64 x.logterm, .int .i64 x.commit, .bool x.ok, .slice r.eA x.es.length r.ec, .int .i64 i, .int .i64 t, .slice s.A0 s.n0 s.c0, .slice s.A1 s.n1 s.c1, .slice s.A2 s.n2 s.c2, .slice s.A3 s.n3 s.c3, .int .i64 (L : Int), .int .i64 (a : Int), .int .i64 x.tag, .slice B m d] d80 HRX.out HD.out.1 HD.out.2 info80 ?_
  try go_frame
  refine wpList_step (fun K hK => ?_)
  rw [if_pos (by rfl)]
  go_simp
  (with_reducible refine (may_y x r _ i t s L a m d B w0 (by omega) h2 h3).mono ?_)
  rintro _ w1 ⟨rfl, o1⟩
  have HO1 := Lib.hid o1
  clear o1
  refine hK _ _ ?_
  clear hK K
  try go_frame
  refine wpList_step (fun K hK => ?_)
  rw [if_pos (by rfl)]
  go_simp
  refine hK _ _ ?_
  clear hK K
  try go_frame
  refine wpList_step (fun K hK => ?_)
  rw [if_pos (by rfl)]
  go_simp
  refine hK _ _ ?_
  clear hK K
  try go_frame
  refine wpList_nil ?_
  refine HK0.out _ _ ?_
  clear HK0
  go_upto_region 3 with fail
  rename_i K1 hK1
  have HK1 := Lib.hid hK1
  clear hK1
  refine wp_region_lit ?_
  refine wpList_load_w (by rfl) 95 (.tmp 3) rfl g 0 rfl [.int .u8 5, .int .i64 x.group, .int .i64 x.from_, .int .i64 x.to_, .int .i64 tm, .int .i64 x.index, .int .i64 x.logterm, .int .i64 x.commit, .bool x.ok, .slice r.eA x.es.length r.ec, .int .i64 i, .int .i64 t, .slice s.A0 s.n0 s.c0, .slice s.A1 s.n1 s.c1, .slice s.A2 s.n2 s.c2, .slice s.A3 s.n3 s.c3, .int .i64 (L : Int), .int .i64 (a : Int), .int .i64 x.tag, .slice B m d] d80 (fun j v hv => HO1.out.cell (HRX.out j v hv)) HD.out.1 HD.out.2 info80 ?_
  try go_frame
  refine wpList_step (fun K hK => ?_)
  rw [if_pos (by rfl)]
  go_simp
  (with_reducible refine (crossing_y x r _ i t s (L : Int) (a : Int) m d B w1).mono ?_)
  rintro _ w2 ⟨rfl, o2⟩
  have HO2 := Lib.hid (HO1.out.trans o2)
  clear o2
  refine hK _ _ ?_
  clear hK K
  try go_frame
  refine wpList_step (fun K hK => ?_)
  rw [if_pos (by rfl)]
  go_simp
  refine hK _ _ ?_
  clear hK K
  try go_frame
  refine wpList_step (fun K hK => ?_)
  rw [if_pos (by rfl)]
  go_simp
  refine hK _ _ ?_
  clear hK K
  try go_frame
  refine wpList_nil ?_
  refine HK1.out _ _ ?_
  clear HK1
  have HF3 : Hid (FAt p tm i t (L : Int) true A n c xs (w2.alloc (.cells #[.int .i64 tm, .int .i64 i, .int .i64 t, .int .i64 (L : Int), .bool true] 117))) := Lib.hid ((HF.out.ok HO2.out).ok ((Ok.refl w2).alloc _))
  have HS3 : Hid (Seven (g + 1) (.int .i64 0) (.int .i64 0) (.slice none 0 0) (.slice none 0 0) (.slice none 0 0) (.slice none 0 0) (.slice none 0 0) (w2.alloc (.cells #[.int .i64 tm, .int .i64 i, .int .i64 t, .int .i64 (L : Int), .bool true] 117))) := Lib.hid ((HS7.out.ok HO2.out).ok ((Ok.refl w2).alloc _))
  have HRX3 : Hid ((w2.alloc (.cells #[.int .i64 tm, .int .i64 i, .int .i64 t, .int .i64 (L : Int), .bool true] 117)).rangeAt g 0 [.int .u8 5, .int .i64 x.group, .int .i64 x.from_, .int .i64 x.to_, .int .i64 tm, .int .i64 x.index, .int .i64 x.logterm, .int .i64 x.commit, .bool x.ok, .slice r.eA x.es.length r.ec, .int .i64 i, .int .i64 t, .slice s.A0 s.n0 s.c0, .slice s.A1 s.n1 s.c1, .slice s.A2 s.n2 s.c2, .slice s.A3 s.n3 s.c3, .int .i64 (L : Int), .int .i64 (a : Int), .int .i64 x.tag, .slice B m d]) := Lib.hid (fun j v hv => ((Ok.refl w2).alloc _).cell (HO2.out.cell (HRX.out j v hv)))
  have HCR : Hid ((w2.alloc (.cells #[.int .i64 tm, .int .i64 i, .int .i64 t, .int .i64 (L : Int), .bool true] 117)).rangeAt w2.heap.size 0 [.int .i64 tm, .int .i64 i, .int .i64 t, .int .i64 (L : Int), .bool true]) := Lib.hid (range_new w2 [.int .i64 tm, .int .i64 i, .int .i64 t, .int .i64 (L : Int), .bool true] 117)
  have HO3 : Hid (Ok W (w2.alloc (.cells #[.int .i64 tm, .int .i64 i, .int .i64 t, .int .i64 (L : Int), .bool true] 117))) := Lib.hid ((HO.out.trans HO2.out).trans ((Ok.refl w2).alloc _))
  have HSZ3 : Hid (w2.heap.size + 1 = (w2.alloc (.cells #[.int .i64 tm, .int .i64 i, .int .i64 t, .int .i64 (L : Int), .bool true] 117)).heap.size ∧ g + 2 ≤ w2.heap.size) := Lib.hid ⟨by rw [World.size_alloc], by have := HO2.out.size; have := HZZ.out; omega⟩
  generalize w2.alloc (.cells #[.int .i64 tm, .int .i64 i, .int .i64 t, .int .i64 (L : Int), .bool true] 117) = w3 at *
  obtain ⟨q, hq⟩ : ∃ q, w2.heap.size = q := ⟨_, rfl⟩
  rw [hq] at HCR HSZ3 ⊢
  clear hq HF HS7 HRX
  go_upto_region 4 with fail
  rename_i K2 hK2
  have HK2 := Lib.hid hK2
  clear hK2
  refine wp_region_held_drew (S := fun w => (w.cell? ⟨q, 0, none⟩ = some (.int .i64 tm) ∧ w.cell? ⟨q, 1, none⟩ = some (.int .i64 i) ∧ w.cell? ⟨q, 2, none⟩ = some (.int .i64 t) ∧ w.cell? ⟨q, 3, none⟩ = some (.int .i64 (L : Int)) ∧ w.cell? ⟨q, 4, none⟩ = some (.bool true)) ∧ (w.cell? ⟨p, 0, none⟩ = some (.int .i64 tm) ∧ w.cell? ⟨p, 1, none⟩ = some (.int .i64 i) ∧ w.cell? ⟨p, 2, none⟩ = some (.int .i64 t) ∧ w.cell? ⟨p, 3, none⟩ = some (.int .i64 (L : Int)) ∧ w.cell? ⟨p, 4, none⟩ = some (.bool true))) (by kernel_rfl) ?_ ?_
  · have k := HF3.out.ok ((Ok.refl w3).drew)
    have r : ∀ j v, [.int .i64 tm, .int .i64 i, .int .i64 t, .int .i64 (L : Int), .bool true][j]? = some v → w3.drew.cell? ⟨q, j, none⟩ = some v := fun j v hv => ((Ok.refl w3).drew).cell (by have := HCR.out j v hv; rwa [Nat.zero_add] at this)
    exact ⟨⟨r 0 _ rfl, r 1 _ rfl, r 2 _ rfl, r 3 _ rfl, r 4 _ rfl⟩, k.c0, k.c1, k.c2, k.c3, k.c4⟩
  intro hS
  have HO4 : Hid (Ok w3 w3.drew) := Lib.hid ((Ok.refl w3).drew)
  generalize w3.drew = w4 at *
  refine wpAnyH_take (i := 0) (v := ?v0u1) rfl (by kernel_rfl) (by kernel_rfl) (by kernel_rfl) (fun _ _ _ h => h) (Or.inl ⟨by rfl, ?hy0u1⟩) hS ?rest0u1
  case hy0u1 => ((intro w hSw; (try dsimp only at hSw)); go_simp; (try with_reducible rfl))
  try go_frame
  refine wpAnyH_take (i := 1) (v := ?v1u2) rfl (by kernel_rfl) (by kernel_rfl) (by kernel_rfl) (fun _ _ _ h => h) (Or.inl ⟨by rfl, ?hy1u2⟩) hS ?rest1u2
  case hy1u2 => ((intro w hSw; (try dsimp only at hSw)); go_simp; (try with_reducible rfl))
  try go_frame
  refine wpAnyH_take (i := 2) (v := ?v2u3) rfl (by kernel_rfl) (by kernel_rfl) (by kernel_rfl) (fun _ _ _ h => h) (Or.inl ⟨by rfl, ?hy2u3⟩) hS ?rest2u3
  case hy2u3 => ((intro w hSw; (try dsimp only at hSw)); go_simp; (try with_reducible rfl))
  try go_frame
  refine wpAnyH_take (i := 3) (v := ?v3u4) rfl (by kernel_rfl) (by kernel_rfl) (by kernel_rfl) (fun _ _ _ h => h) (Or.inl ⟨by rfl, ?hy3u4⟩) hS ?rest3u4
  case hy3u4 => ((intro w hSw; (try dsimp only at hSw)); go_simp; (try with_reducible rfl))
  try go_frame
  refine wpAnyH_take (i := 4) (v := ?v4u5) rfl (by kernel_rfl) (by kernel_rfl) (by kernel_rfl) (fun _ _ _ h => h) (Or.inl ⟨by rfl, ?hy4u5⟩) hS ?rest4u5
  case hy4u5 => ((intro w hSw; (try dsimp only at hSw)); go_simp; (try with_reducible rfl))
  try go_frame
  refine wpAnyH_take (i := 5) (v := ?v5u6) rfl (by kernel_rfl) (by kernel_rfl) (by kernel_rfl) (fun _ _ _ h => h) (Or.inl ⟨by rfl, ?hy5u6⟩) hS ?rest5u6
  case hy5u6 => ((intro w hSw; (try dsimp only at hSw)); go_simp; (try with_reducible rfl))
  try go_frame
  refine wpAnyH_done (by kernel_rfl) ?_ _
  clear hS
  refine HK2.out _ _ ?_
  clear HK2
  have HF5 := Lib.hid (HF3.out.ok HO4.out)
  have HS5 := Lib.hid (HS3.out.ok HO4.out)
  have HRX5 : Hid (w4.rangeAt g 0 [.int .u8 5, .int .i64 x.group, .int .i64 x.from_, .int .i64 x.to_, .int .i64 tm, .int .i64 x.index, .int .i64 x.logterm, .int .i64 x.commit, .bool x.ok, .slice r.eA x.es.length r.ec, .int .i64 i, .int .i64 t, .slice s.A0 s.n0 s.c0, .slice s.A1 s.n1 s.c1, .slice s.A2 s.n2 s.c2, .slice s.A3 s.n3 s.c3, .int .i64 (L : Int), .int .i64 (a : Int), .int .i64 x.tag, .slice B m d]) := Lib.hid (fun j v hv => HO4.out.cell (HRX3.out j v hv))
  have HOBQ := HOB
  have HOQ : Hid (∀ j, j < W.heap.size → (Value.slice A n c).ownBlock = some j → (Value.slice A n c).ownBlock = some j) := Lib.hid (fun _ _ e => e)
  have HFR5 : Hid (Fr p A n c W w4) := Lib.hid ((Fr.refl p A n c W).ok (HO3.out.trans HO4.out))
  have HSZ5 : Hid (g + 2 ≤ w4.heap.size) := Lib.hid (by have := HSZ3.out; have := HO4.out.size; omega)
  clear HF3 HS3 HRX3 HO3 HO4 HCR HSZ3
  have hx17 : w4.cell? ⟨g, 17, none⟩ = some (.int .i64 (a : Int)) := by have := HRX5.out 17 _ rfl; rwa [Nat.zero_add] at this
  have hx19 : w4.cell? ⟨g, 19, none⟩ = some (.slice B m d) := by have := HRX5.out 19 _ rfl; rwa [Nat.zero_add] at this
  have HX17 := Lib.hid hx17
  have HX19 := Lib.hid hx19
  clear hx17 hx19
  obtain ⟨z, h8⟩ : ∃ z : Int, (n : Int) - (a : Int) = z := ⟨_, rfl⟩
  have hzn : z < 0 := by omega
  have hkb : -140000 ≤ z := by omega
  have hnlt : n < L := by omega
  have HK := Lib.hid ha
  have HNLT := Lib.hid hnlt
  have hw8 : IntKind.i64.wrap z = z := by simp only [IntKind.wrap_i64]; omega
  clear hnlt
  go_upto_region 8 with fail
  rename_i K4 hK4
  have HK4 := Lib.hid hK4
  clear hK4
  refine wp_region_held_drew (S := fun w => w.cell? ⟨p, 5, none⟩ = some (.slice A n c) ∧ w.cell? ⟨g, 17, none⟩ = some (.int .i64 (a : Int))) (by kernel_rfl) ?_ ?_
  · exact ⟨((Ok.refl w4).drew).cell HF5.out.c5, ((Ok.refl w4).drew).cell HX17.out⟩
  intro hS
  have HOD : Hid (Ok w4 w4.drew) := Lib.hid ((Ok.refl w4).drew)
  generalize w4.drew = w5 at *
  refine wpAnyH_take (i := 0) (v := ?v0u52) rfl (by kernel_rfl) (by kernel_rfl) (by kernel_rfl) (fun _ _ _ h => h) (Or.inl ⟨by rfl, ?hy0u52⟩) hS ?rest0u52
  case hy0u52 => ((intro w hSw; (try dsimp only at hSw)); go_simp; (try with_reducible rfl))
  try go_frame
  refine wpAnyH_take (i := 1) (v := ?v1u53) rfl (by kernel_rfl) (by kernel_rfl) (by kernel_rfl) (fun _ _ _ h => h) (Or.inl ⟨by rfl, ?hy1u53⟩) hS ?rest1u53
  case hy1u53 => ((intro w hSw; (try dsimp only at hSw)); go_simp; (try with_reducible rfl))
  try go_frame
  refine wpAnyH_take (i := 2) (v := ?v2u54) rfl (by kernel_rfl) (by kernel_rfl) (by kernel_rfl) (fun _ _ _ h => h) (Or.inl ⟨by rfl, ?hy2u54⟩) hS ?rest2u54
  case hy2u54 => ((intro w hSw; (try dsimp only at hSw)); go_simp; (try with_reducible rfl))
  try go_frame
  refine wpAnyH_take (i := 3) (v := ?v3u55) rfl (by kernel_rfl) (by kernel_rfl) (by kernel_rfl) (fun _ _ _ h => h) (Or.inl ⟨by rfl, ?hy3u55⟩) hS ?rest3u55
  case hy3u55 => ((intro w hSw; (try dsimp only at hSw)); go_simp; (try with_reducible rfl))
  try go_frame
  refine wpAnyH_take (i := 4) (v := ?v4u56) rfl (by kernel_rfl) (by kernel_rfl) (by kernel_rfl) (fun _ _ _ h => h) (Or.inl ⟨by rfl, ?hy4u56⟩) hS ?rest4u56
  case hy4u56 => ((intro w hSw; (try dsimp only at hSw)); go_simp; (try with_reducible rfl))
  try go_frame
  refine wpAnyH_take (i := 5) (v := ?v5u57) rfl (by kernel_rfl) (by kernel_rfl) (by kernel_rfl) (fun _ _ _ h => h) (Or.inl ⟨by rfl, ?hy5u57⟩) hS ?rest5u57
  case hy5u57 => ((intro w hSw; (try dsimp only at hSw)); go_simp; (try with_reducible rfl))
  try go_frame
  refine wpAnyH_take (i := 6) (v := ?v6u58) rfl (by kernel_rfl) (by kernel_rfl) (by kernel_rfl) (fun _ _ _ h => h) (Or.inl ⟨by rfl, ?hy6u58⟩) hS ?rest6u58
  case hy6u58 => ((intro w hSw; (try dsimp only at hSw)); go_simp; (try with_reducible rfl))
  try go_frame
  refine wpAnyH_take (i := 7) (v := ?v7u59) rfl (by kernel_rfl) (by kernel_rfl) (by kernel_rfl) (fun _ _ _ h => h) (Or.inl ⟨by rfl, ?hy7u59⟩) hS ?rest7u59
  case hy7u59 => ((intro w hSw; (try dsimp only at hSw)); go_simp; (try with_reducible rfl))
  try go_frame
  refine wpAnyH_take (i := 8) (v := ?v8u60) rfl (by kernel_rfl) (by kernel_rfl) (by kernel_rfl) (fun _ _ _ h => h) (Or.inl ⟨by rfl, ?hy8u60⟩) hS ?rest8u60
  case hy8u60 => ((intro w hSw; (try dsimp only at hSw)); go_simp; (try with_reducible rfl))
  try go_frame
  refine wpAnyH_done (by kernel_rfl) ?_ _
  clear hS
  refine HK4.out _ _ ?_
  clear HK4 h8
  have HF6 := Lib.hid (HF5.out.ok HOD.out)
  have HS6 := Lib.hid (HS5.out.ok HOD.out)
  have HRX6 : Hid (w5.rangeAt g 0 [.int .u8 5, .int .i64 x.group, .int .i64 x.from_, .int .i64 x.to_, .int .i64 tm, .int .i64 x.index, .int .i64 x.logterm, .int .i64 x.commit, .bool x.ok, .slice r.eA x.es.length r.ec, .int .i64 i, .int .i64 t, .slice s.A0 s.n0 s.c0, .slice s.A1 s.n1 s.c1, .slice s.A2 s.n2 s.c2, .slice s.A3 s.n3 s.c3, .int .i64 (L : Int), .int .i64 (a : Int), .int .i64 x.tag, .slice B m d]) := Lib.hid (fun j v hv => HOD.out.cell (HRX5.out j v hv))
  have HFR6 := Lib.hid (HFR5.out.ok HOD.out)
  have HX6 : Hid (w5.cell? ⟨g, 19, none⟩ = some (.slice B m d)) := Lib.hid (HOD.out.cell HX19.out)
  have HSZ6 : Hid (g + 2 ≤ w5.heap.size) := Lib.hid (by have := HSZ5.out; have := HOD.out.size; omega)
  clear HF5 HS5 HRX5 HFR5 HX17 HX19 HOD HSZ5
  have HL0 : Hid (xs.length = n) := Lib.hid HF6.out.len.symm
  clear hw8
  have dk : decide ((0 : Int) ≤ z) = false := decide_eq_false (by omega)
  have HNL : Hid (¬ n = L) := Lib.hid (by have := HNLT.out; omega)
  have HLAID : Hid (laid xs ys a = xs) := Lib.hid (laid_gap xs ys a (Nat.lt_of_le_of_lt (Nat.le_of_eq HL0.out) HK.out))
  have HFF := HF6
  have HOWN : Hid (∀ j, j < w5.heap.size → (Value.slice A n c).ownBlock = some j → (Value.slice A n c).ownBlock = some j) := Lib.hid (fun _ _ e => e)
  have HFR : Hid (Fr p A n c w5 w5) := Lib.hid (Fr.refl _ _ _ _ _)
  have HZL := HL0
  have hNb : n ≤ 300000 := by omega
  clear hkb hzn
  go_upto_region 11 with fail
  rename_i K7 hK7
  have HK7 := Lib.hid hK7
  clear hK7
  refine wp_region_lit ?_
  have hf5 := HFF.out.c5
  have hf0 := HFF.out.c0
  have hf1 := HFF.out.c1
  have hf2 := HFF.out.c2
  have hf3 := HFF.out.c3
  have hf4 := HFF.out.c4
  refine wpList_step (fun K hK => ?_)
  rw [if_pos (by rfl)]
  go_simp
  refine hK _ _ ?_
  clear hK K
  try go_frame
  refine wpList_step (fun K hK => ?_)
  rw [if_pos (by rfl)]
  go_simp
  refine hK _ _ ?_
  clear hK K
  try go_frame
  refine wpList_step (fun K hK => ?_)
  rw [if_pos (by rfl)]
  go_simp
  refine hK _ _ ?_
  clear hK K
  try go_frame
  refine wpList_step (fun K hK => ?_)
  rw [if_pos (by rfl)]
  go_simp
  refine hK _ _ ?_
  clear hK K
  try go_frame
  refine wpList_step (fun K hK => ?_)
  rw [if_pos (by rfl)]
  go_simp
  refine hK _ _ ?_
  clear hK K
  try go_frame
  refine wpList_step (fun K hK => ?_)
  rw [if_pos (by rfl)]
  go_simp
  refine hK _ _ ?_
  clear hK K
  try go_frame
  refine wpList_nil ?_
  refine HK7.out _ _ ?_
  clear HK7
  go_upto_region 12 with fail
  rename_i K8 hK8
  have HK8 := Lib.hid hK8
  clear hK8
  refine wp_region_lit ?_
  refine wpList_step (fun K hK => ?_)
  rw [if_pos (by rfl)]
  go_simp
  refine hK _ _ ?_
  clear hK K
  try go_frame
  refine wpList_step (fun K hK => ?_)
  rw [if_pos (by rfl)]
  go_simp
  refine hK _ _ ?_
  clear hK K
  try go_frame
  refine wpList_step (fun K hK => ?_)
  rw [if_pos (by rfl)]
  go_simp
  refine hK _ _ ?_
  clear hK K
  try go_frame
  refine wpList_step (fun K hK => ?_)
  rw [if_pos (by rfl)]
  go_simp
  refine hK _ _ ?_
  clear hK K
  try go_frame
  refine wpList_step (fun K hK => ?_)
  rw [if_pos (by rfl)]
  go_simp
  refine hK _ _ ?_
  clear hK K
  try go_frame
  refine wpList_step (fun K hK => ?_)
  rw [if_pos (by rfl)]
  go_simp
  (with_reducible refine (whole_n tm i t L n w5 HNL.out).mono ?_)
  rintro _ w7 ⟨rfl, o7⟩
  have HO7 := Lib.hid o7
  clear o7
  refine hK _ _ ?_
  clear hK K
  try go_frame
  refine wpList_nil ?_
  refine HK8.out _ _ ?_
  clear HK8
  clear hf0 hf1 hf2 hf3 hf4 hf5
  have HS7 : Hid (Seven (g + 1) (.int .i64 0) (.int .i64 0) (.slice none 0 0) (.slice none 0 0) (.slice none 0 0) (.slice none 0 0) (.slice none 0 0) w7) := Lib.hid ((Seven.fr HS6.out HFR.out (by have := HPL.out; omega) (fun e => by have := HOBQ.out _ e; omega)).ok HO7.out)
  have HF7 := Lib.hid (HFF.out.ok HO7.out)
  have HFR7 : Hid (Fr p A n c W w7) := Lib.hid ((Fr.trans HFR6.out HFR.out HOQ.out).ok HO7.out)
  have hn1 : g + 1 ≠ p := by have := HPL.out; omega
  have hn2 : (Value.slice A n c).ownBlock ≠ some (g + 1) := fun e => by have := HOBQ.out _ (HOWN.out _ (by have := HSZ6.out; omega) e); omega
  have hown : ∀ j, j < W.heap.size → (Value.slice A n c).ownBlock = some j → (Value.slice A n c).ownBlock = some j := fun j hj e => HOQ.out j hj (HOWN.out j (by have := HSZ6.out; have := HG.out; omega) e)
  have HN1 := Lib.hid hn1
  have HN2 := Lib.hid hn2
  have HOWN2 := Lib.hid hown
  clear hn1 hn2 hown
  go_upto_region 15 with fail
  rename_i K9 hK9
  have HK9 := Lib.hid hK9
  clear hK9
  refine wp_region_held_drew (S := fun w => w.cell? ⟨g + 1, 0, none⟩ = some (.int .i64 0) ∧ w.cell? ⟨g + 1, 1, none⟩ = some (.int .i64 0) ∧ w.cell? ⟨g + 1, 2, none⟩ = some (.slice none 0 0) ∧ w.cell? ⟨g + 1, 3, none⟩ = some (.slice none 0 0) ∧ w.cell? ⟨g + 1, 4, none⟩ = some (.slice none 0 0) ∧ w.cell? ⟨g + 1, 5, none⟩ = some (.slice none 0 0) ∧ w.cell? ⟨g + 1, 6, none⟩ = some (.slice none 0 0)) (by kernel_rfl) ?_ ?_
  · have k7 := HS7.out.ok ((Ok.refl w7).drew)
    exact ⟨k7.c0, k7.c1, k7.c2, k7.c3, k7.c4, k7.c5, k7.c6⟩
  intro hS
  have HOE : Hid (Ok w7 w7.drew) := Lib.hid ((Ok.refl w7).drew)
  have HSE := Lib.hid (HS7.out.ok HOE.out)
  generalize w7.drew = we at *
  refine wpAnyH_take (i := 0) (v := ?v0u61) rfl (by kernel_rfl) (by kernel_rfl) (by kernel_rfl) (fun _ _ _ h => h) (Or.inl ⟨by rfl, ?hy0u61⟩) hS ?rest0u61
  case hy0u61 => ((intro w hSw; (try dsimp only at hSw)); go_simp; (try with_reducible rfl))
  try go_frame
  refine wpAnyH_take (i := 1) (v := ?v1u62) rfl (by kernel_rfl) (by kernel_rfl) (by kernel_rfl) (fun _ _ _ h => h) (Or.inl ⟨by rfl, ?hy1u62⟩) hS ?rest1u62
  case hy1u62 => ((intro w hSw; (try dsimp only at hSw)); go_simp; (try with_reducible rfl))
  try go_frame
  refine wpAnyH_take (i := 2) (v := ?v2u63) rfl (by kernel_rfl) (by kernel_rfl) (by kernel_rfl) (fun _ _ _ h => h) (Or.inl ⟨by rfl, ?hy2u63⟩) hS ?rest2u63
  case hy2u63 => ((intro w hSw; (try dsimp only at hSw)); go_simp; (try with_reducible rfl))
  try go_frame
  refine wpAnyH_take (i := 3) (v := ?v3u64) rfl (by kernel_rfl) (by kernel_rfl) (by kernel_rfl) (fun _ _ _ h => h) (Or.inl ⟨by rfl, ?hy3u64⟩) hS ?rest3u64
  case hy3u64 => ((intro w hSw; (try dsimp only at hSw)); go_simp; (try with_reducible rfl))
  try go_frame
  refine wpAnyH_take (i := 4) (v := ?v4u65) rfl (by kernel_rfl) (by kernel_rfl) (by kernel_rfl) (fun _ _ _ h => h) (Or.inl ⟨by rfl, ?hy4u65⟩) hS ?rest4u65
  case hy4u65 => ((intro w hSw; (try dsimp only at hSw)); go_simp; (try with_reducible rfl))
  try go_frame
  clear hS
  have z0 := HSE.out.c0
  have z1 := HSE.out.c1
  have z2 := HSE.out.c2
  have z3 := HSE.out.c3
  have z4 := HSE.out.c4
  have z5 := HSE.out.c5
  have z6 := HSE.out.c6
  have y0 := HSE.out.f 0
  have y1 := HSE.out.f 1
  have y2 := HSE.out.f 2
  have y3 := HSE.out.f 3
  have y4 := HSE.out.f 4
  have y5 := HSE.out.f 5
  have y6 := HSE.out.f 6
  refine wpAnyH_ready (rs := [5]) (by kernel_rfl) (by simp) (AllReadyH.cons rfl (fun K hK => ?_) AllReadyH.nil)
  have HK := Lib.hid hK
  clear hK
  go_simp
  have HSP := Lib.hid (Seven.put (.int .i64 0) (.int .i64 0) (.slice none 0 0) (.slice none 0 0) (.slice none 0 0) (.slice none 0 0) (.slice none 0 0) HSE.out)
  refine HK.out.out _ _ ⟨HSP.out.c0, HSP.out.c1, HSP.out.c2, HSP.out.c3, HSP.out.c4, HSP.out.c5, HSP.out.c6⟩ (fun hJ => ?_)
  clear hJ
  clear HK K
  try go_frame
  refine wpAnyH_done (by kernel_rfl) ?_ _
  refine HK9.out _ _ ?_
  clear HK9
  go_wp2_with fail
  refine bodyPost_ret (v := .tuple #[.int .i64 (n : Int), .bool false, .agg #[.int .i64 0, .int .i64 0, .slice none 0 0, .slice none 0 0, .slice none 0 0, .slice none 0 0, .slice none 0 0]]) (by simp [results, Try.results77, go_sem, z0, z1, z2, z3, z4, z5, z6]; try rfl) rfl ?_
  clear z0 z1 z2 z3 z4 z5 z6 y0 y1 y2 y3 y4 y5 y6
  rw [HLAID.out]
  refine .inl ⟨by rw [HZL.out]; exact HNL.out, by rw [HZL.out], ⟨A, c, ?_, ?_⟩, ?_⟩
  · rw [HZL.out]
    (repeat (refine FAt.far ?_ (g + 1) _ _ HN1.out HN2.out)); exact HF7.out.ok HOE.out
  · rw [HZL.out]; exact HOWN2.out
  · (repeat (refine Fr.far ?_ (q := g + 1) (by have := HG.out; omega) _ _)); exact HFR7.out.ok HOE.out
end Go.Proofs.Ytolfdncmlfnbdaa
