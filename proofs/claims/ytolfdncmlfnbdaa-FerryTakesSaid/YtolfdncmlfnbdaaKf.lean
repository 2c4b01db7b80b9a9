/- A ferry takes a piece: a beginning. -/
import Derived.Test.YtolfdncmlfnbdaaKe
namespace Go.Proofs.Ytolfdncmlfnbdaa
open Go.RowKit

set_option maxRecDepth 100000 in
set_option maxHeartbeats 8000000 in
theorem takeBegin_f (x : Lt) (r : LR) (p : Nat) (tm i t : Int) (s : S4) (cf : Cfg) (L a m d : Nat) (B : Option Addr) (tm0 i0 t0 sz0 : Int) (u0 : Bool) (A : Option Addr) (n c : Nat) (xs : List B8) (AZ : Option Addr) (nZ cZ : Nat) (xZ ys : List B8) (W : World) (h : FAt p tm0 i0 t0 sz0 u0 A n c xs W) (hne : crossB tm0 i0 t0 sz0 u0 tm i t (L : Int) = false) (he : AZ = none ∧ nZ = 0 ∧ cZ = 0 ∧ xZ = []) (ha0 : a = 0)
    (hm : m = ys.length) (h1 : L ≤ 131072) (h2 : a ≤ L) (h3 : m ≤ L - a) (HX : ∀ w', Fr p A n c W w' → CfgAt w' s cf ∧ BytesIn w' (.slice B m d) ys)
    (l0 : cf.vs.length ≤ 100000) (l1 : cf.os.length ≤ 100000) (l2 : cf.ls.length ≤ 100000) (l3 : cf.ws.length ≤ 100000) :
    Calls Try.prog 77 #[.pointer (some ⟨p, 0, none⟩), .agg #[.int .u8 5, .int .i64 x.group, .int .i64 x.from_, .int .i64 x.to_, .int .i64 tm, .int .i64 x.index, .int .i64 x.logterm, .int .i64 x.commit, .bool x.ok, .slice r.eA x.es.length r.ec, .int .i64 i, .int .i64 t, .slice s.A0 s.n0 s.c0, .slice s.A1 s.n1 s.c1, .slice s.A2 s.n2 s.c2, .slice s.A3 s.n3 s.c3, .int .i64 (L : Int), .int .i64 (a : Int), .int .i64 x.tag, .slice B m d]] W (TakeYes p tm i t L cf A n c W (laid xZ ys a)) := by
  have HNE : Hid (∀ w, (binOp .neq 117 (.agg #[.int .i64 tm, .int .i64 i, .int .i64 t, .int .i64 (L : Int), .bool true]) (.agg #[.int .i64 tm0, .int .i64 i0, .int .i64 t0, .int .i64 sz0, .bool u0])).run Try.prog w = .ok (.bool true) w) := Lib.hid (fun w => by rw [cross_ne, hne]; rfl)
  clear hne
  have ha : a ≤ nZ := by omega
  have hnL : nZ ≤ L := by have := he.2.1; omega
  have HNX : Hid (nZ = xZ.length) := Lib.hid (by rw [he.2.1, he.2.2.2]; rfl)
  have HXX := Lib.hid HX
  have HM := Lib.hid hm
  clear HX hm
  have HE := Lib.hid he
  have HA0 := Lib.hid ha0
  clear he ha0
  have HO : Hid (Ok W ((W.alloc (.cells #[.int .u8 5, .int .i64 x.group, .int .i64 x.from_, .int .i64 x.to_, .int .i64 tm, .int .i64 x.index, .int .i64 x.logterm, .int .i64 x.commit, .bool x.ok, .slice r.eA x.es.length r.ec, .int .i64 i, .int .i64 t, .slice s.A0 s.n0 s.c0, .slice s.A1 s.n1 s.c1, .slice s.A2 s.n2 s.c2, .slice s.A3 s.n3 s.c3, .int .i64 (L : Int), .int .i64 (a : Int), .int .i64 x.tag, .slice B m d] 95)).alloc (.cells #[.int .i64 0, .int .i64 0, .slice none 0 0, .slice none 0 0, .slice none 0 0, .slice none 0 0, .slice none 0 0] 97))) := Lib.hid (((Ok.refl W).alloc _).alloc _)
  have HF : Hid (FAt p tm0 i0 t0 sz0 u0 A n c xs ((W.alloc (.cells #[.int .u8 5, .int .i64 x.group, .int .i64 x.from_, .int .i64 x.to_, .int .i64 tm, .int .i64 x.index, .int .i64 x.logterm, .int .i64 x.commit, .bool x.ok, .slice r.eA x.es.length r.ec, .int .i64 i, .int .i64 t, .slice s.A0 s.n0 s.c0, .slice s.A1 s.n1 s.c1, .slice s.A2 s.n2 s.c2, .slice s.A3 s.n3 s.c3, .int .i64 (L : Int), .int .i64 (a : Int), .int .i64 x.tag, .slice B m d] 95)).alloc (.cells #[.int .i64 0, .int .i64 0, .slice none 0 0, .slice none 0 0, .slice none 0 0, .slice none 0 0, .slice none 0 0] 97))) := Lib.hid (h.ok HO.out)
  have HRX : Hid (((W.alloc (.cells #[.int .u8 5, .int .i64 x.group, .int .i64 x.from_, .int .i64 x.to_, .int .i64 tm, .int .i64 x.index, .int .i64 x.logterm, .int .i64 x.commit, .bool x.ok, .slice r.eA x.es.length r.ec, .int .i64 i, .int .i64 t, .slice s.A0 s.n0 s.c0, .slice s.A1 s.n1 s.c1, .slice s.A2 s.n2 s.c2, .slice s.A3 s.n3 s.c3, .int .i64 (L : Int), .int .i64 (a : Int), .int .i64 x.tag, .slice B m d] 95)).alloc (.cells #[.int .i64 0, .int .i64 0, .slice none 0 0, .slice none 0 0, .slice none 0 0, .slice none 0 0, .slice none 0 0] 97)).rangeAt W.heap.size 0 [.int .u8 5, .int .i64 x.group, .int .i64 x.from_, .int .i64 x.to_, .int .i64 tm, .int .i64 x.index, .int .i64 x.logterm, .int .i64 x.commit, .bool x.ok, .slice r.eA x.es.length r.ec, .int .i64 i, .int .i64 t, .slice s.A0 s.n0 s.c0, .slice s.A1 s.n1 s.c1, .slice s.A2 s.n2 s.c2, .slice s.A3 s.n3 s.c3, .int .i64 (L : Int), .int .i64 (a : Int), .int .i64 x.tag, .slice B m d]) := Lib.hid (World.rangeAt_alloc (range_new W [.int .u8 5, .int .i64 x.group, .int .i64 x.from_, .int .i64 x.to_, .int .i64 tm, .int .i64 x.index, .int .i64 x.logterm, .int .i64 x.commit, .bool x.ok, .slice r.eA x.es.length r.ec, .int .i64 i, .int .i64 t, .slice s.A0 s.n0 s.c0, .slice s.A1 s.n1 s.c1, .slice s.A2 s.n2 s.c2, .slice s.A3 s.n3 s.c3, .int .i64 (L : Int), .int .i64 (a : Int), .int .i64 x.tag, .slice B m d] 95) _)
  have HS7 : Hid (Seven (W.heap.size + 1) (.int .i64 0) (.int .i64 0) (.slice none 0 0) (.slice none 0 0) (.slice none 0 0) (.slice none 0 0) (.slice none 0 0) ((W.alloc (.cells #[.int .u8 5, .int .i64 x.group, .int .i64 x.from_, .int .i64 x.to_, .int .i64 tm, .int .i64 x.index, .int .i64 x.logterm, .int .i64 x.commit, .bool x.ok, .slice r.eA x.es.length r.ec, .int .i64 i, .int .i64 t, .slice s.A0 s.n0 s.c0, .slice s.A1 s.n1 s.c1, .slice s.A2 s.n2 s.c2, .slice s.A3 s.n3 s.c3, .int .i64 (L : Int), .int .i64 (a : Int), .int .i64 x.tag, .slice B m d] 95)).alloc (.cells #[.int .i64 0, .int .i64 0, .slice none 0 0, .slice none 0 0, .slice none 0 0, .slice none 0 0, .slice none 0 0] 97))) := Lib.hid (by have := Seven.new (W.alloc (.cells #[.int .u8 5, .int .i64 x.group, .int .i64 x.from_, .int .i64 x.to_, .int .i64 tm, .int .i64 x.index, .int .i64 x.logterm, .int .i64 x.commit, .bool x.ok, .slice r.eA x.es.length r.ec, .int .i64 i, .int .i64 t, .slice s.A0 s.n0 s.c0, .slice s.A1 s.n1 s.c1, .slice s.A2 s.n2 s.c2, .slice s.A3 s.n3 s.c3, .int .i64 (L : Int), .int .i64 (a : Int), .int .i64 x.tag, .slice B m d] 95)) (.int .i64 0) (.int .i64 0) (.slice none 0 0) (.slice none 0 0) (.slice none 0 0) (.slice none 0 0) (.slice none 0 0) 97; rwa [World.size_alloc] at this)
  have HZZ : Hid (W.heap.size + 2 ≤ ((W.alloc (.cells #[.int .u8 5, .int .i64 x.group, .int .i64 x.from_, .int .i64 x.to_, .int .i64 tm, .int .i64 x.index, .int .i64 x.logterm, .int .i64 x.commit, .bool x.ok, .slice r.eA x.es.length r.ec, .int .i64 i, .int .i64 t, .slice s.A0 s.n0 s.c0, .slice s.A1 s.n1 s.c1, .slice s.A2 s.n2 s.c2, .slice s.A3 s.n3 s.c3, .int .i64 (L : Int), .int .i64 (a : Int), .int .i64 x.tag, .slice B m d] 95)).alloc (.cells #[.int .i64 0, .int .i64 0, .slice none 0 0, .slice none 0 0, .slice none 0 0, .slice none 0 0, .slice none 0 0] 97)).heap.size) := Lib.hid (by rw [World.size_alloc, World.size_alloc]; omega)
  obtain ⟨d80, hd80, hrow⟩ : ∃ d, Try.prog.underlying 95 = some d ∧ d.isRow = true := ⟨_, Try.underlying95, rfl⟩
  have HD := Lib.hid (And.intro hd80 hrow)
  have HOB := Lib.hid h.ownGe
  have HPL := Lib.hid h.lt
  clear hd80 hrow h
  go_enter Try.func77, Try.ntmps77
  go_upto_region 1 with fail
  rename_i K0 hK0
  have HK0 := Lib.hid hK0
  clear hK0
  generalize ((W.alloc (.cells #[.int .u8 5, .int .i64 x.group, .int .i64 x.from_, .int .i64 x.to_, .int .i64 tm, .int .i64 x.index, .int .i64 x.logterm, .int .i64 x.commit, .bool x.ok, .slice r.eA x.es.length r.ec, .int .i64 i, .int .i64 t, .slice s.A0 s.n0 s.c0, .slice s.A1 s.n1 s.c1, .slice s.A2 s.n2 s.c2, .slice s.A3 s.n3 s.c3, .int .i64 (L : Int), .int .i64 (a : Int), .int .i64 x.tag, .slice B m d] 95)).alloc (.cells #[.int .i64 0, .int .i64 0, .slice none 0 0, .slice none 0 0, .slice none 0 0, .slice none 0 0, .slice none 0 0] 97)) = w0 at *
  obtain ⟨g, hg⟩ : ∃ g, W.heap.size = g := ⟨_, rfl⟩
  have HG := Lib.hid hg
  rw [hg] at HRX HS7 HZZ HOB HPL ⊢
  clear hg
  refine wp_region_lit ?_
  refine wpList_step (fun K hK => ?_)
  rw [if_pos (by rfl)]
  go_simp
  refine hK _ _ ?_
  clear hK K
  try go_frame
  refine wpList_step (fun K hK => ?_)
  rw [if_pos (by rfl)]
  go_simp
  (with_reducible refine (fnone_f p w0 HF.out.c6).mono ?_)
  rintro _ w1 ⟨rfl, rfl⟩
  refine hK _ _ ?_
  clear hK K
  try go_frame
  refine wpList_step (fun K hK => ?_)
  rw [if_pos (by rfl)]
  go_simp
  refine hK _ _ ?_
  clear hK K
  try go_frame
  refine wpList_load_w (by rfl) 95 (.tmp 3) rfl g 0 rfl [.int .u8 5, .int .i64 x.group, .int .i64 x.from_, .int .i64 x.to_, .int .i64 tm, .int .i64 x.index, .int .i64 x.logterm, .int .i64 x.commit, .bool x.ok, .slice r.eA x.es.length r.ec, .int .i64 i, .int .i64 t, .slice s.A0 s.n0 s.c0, .slice s.A1 s.n1 s.c1, .slice s.A2 s.n2 s.c2, .slice s.A3 s.n3 s.c3, .int .i64 (L : Int), .int .i64 (a : Int), .int .i64 x.tag, .slice B m d] d80 HRX.out HD.out.1 HD.out.2 info80 ?_
  try go_frame
  refine wpList_step (fun K hK => ?_)
  rw [if_pos (by rfl)]
  go_simp
  (with_reducible refine (may_y x r _ i t s L a m d B w0 (by omega) h2 h3).mono ?_)
  rintro _ w1 ⟨rfl, o1⟩
  have HO1 := Lib.hid o1
  clear o1
  refine hK _ _ ?_
  clear hK K
  try go_frame
  refine wpList_step (fun K hK => ?_)
  rw [if_pos (by rfl)]
  go_simp
  refine hK _ _ ?_
  clear hK K
  try go_frame
  refine wpList_step (fun K hK => ?_)
  rw [if_pos (by rfl)]
  go_simp
  refine hK _ _ ?_
  clear hK K
  try go_frame
  refine wpList_nil ?_
  refine HK0.out _ _ ?_
  clear HK0
  go_upto_region 3 with fail
  rename_i K1 hK1
  have HK1 := Lib.hid hK1
  clear hK1
  refine wp_region_lit ?_
  refine wpList_load_w (by rfl) 95 (.tmp 3) rfl g 0 rfl [.int .u8 5, .int .i64 x.group, .int .i64 x.from_, .int .i64 x.to_, .int .i64 tm, .int .i64 x.index, .int .i64 x.logterm, .int .i64 x.commit, .bool x.ok, .slice r.eA x.es.length r.ec, .int .i64 i, .int .i64 t, .slice s.A0 s.n0 s.c0, .slice s.A1 s.n1 s.c1, .slice s.A2 s.n2 s.c2, .slice s.A3 s.n3 s.c3, .int .i64 (L : Int), .int .i64 (a : Int), .int .i64 x.tag, .slice B m d] d80 (fun j v hv => HO1.out.cell (HRX.out j v hv)) HD.out.1 HD.out.2 info80 ?_
  try go_frame
  refine wpList_step (fun K hK => ?_)
  rw [if_pos (by rfl)]
  go_simp
  (with_reducible refine (crossing_y x r _ i t s (L : Int) (a : Int) m d B w1).mono ?_)
  rintro _ w2 ⟨rfl, o2⟩
  have HO2 := Lib.hid (HO1.out.trans o2)
  clear o2
  refine hK _ _ ?_
  clear hK K
  try go_frame
  refine wpList_step (fun K hK => ?_)
  rw [if_pos (by rfl)]
  go_simp
  refine hK _ _ ?_
  clear hK K
  try go_frame
  refine wpList_step (fun K hK => ?_)
  rw [if_pos (by rfl)]
  go_simp
  refine hK _ _ ?_
  clear hK K
  try go_frame
  refine wpList_nil ?_
  refine HK1.out _ _ ?_
  clear HK1
  have HF3 : Hid (FAt p tm0 i0 t0 sz0 u0 A n c xs (w2.alloc (.cells #[.int .i64 tm, .int .i64 i, .int .i64 t, .int .i64 (L : Int), .bool true] 117))) := Lib.hid ((HF.out.ok HO2.out).ok ((Ok.refl w2).alloc _))
  have HS3 : Hid (Seven (g + 1) (.int .i64 0) (.int .i64 0) (.slice none 0 0) (.slice none 0 0) (.slice none 0 0) (.slice none 0 0) (.slice none 0 0) (w2.alloc (.cells #[.int .i64 tm, .int .i64 i, .int .i64 t, .int .i64 (L : Int), .bool true] 117))) := Lib.hid ((HS7.out.ok HO2.out).ok ((Ok.refl w2).alloc _))
  have HRX3 : Hid ((w2.alloc (.cells #[.int .i64 tm, .int .i64 i, .int .i64 t, .int .i64 (L : Int), .bool true] 117)).rangeAt g 0 [.int .u8 5, .int .i64 x.group, .int .i64 x.from_, .int .i64 x.to_, .int .i64 tm, .int .i64 x.index, .int .i64 x.logterm, .int .i64 x.commit, .bool x.ok, .slice r.eA x.es.length r.ec, .int .i64 i, .int .i64 t, .slice s.A0 s.n0 s.c0, .slice s.A1 s.n1 s.c1, .slice s.A2 s.n2 s.c2, .slice s.A3 s.n3 s.c3, .int .i64 (L : Int), .int .i64 (a : Int), .int .i64 x.tag, .slice B m d]) := Lib.hid (fun j v hv => ((Ok.refl w2).alloc _).cell (HO2.out.cell (HRX.out j v hv)))
  have HCR : Hid ((w2.alloc (.cells #[.int .i64 tm, .int .i64 i, .int .i64 t, .int .i64 (L : Int), .bool true] 117)).rangeAt w2.heap.size 0 [.int .i64 tm, .int .i64 i, .int .i64 t, .int .i64 (L : Int), .bool true]) := Lib.hid (range_new w2 [.int .i64 tm, .int .i64 i, .int .i64 t, .int .i64 (L : Int), .bool true] 117)
  have HO3 : Hid (Ok W (w2.alloc (.cells #[.int .i64 tm, .int .i64 i, .int .i64 t, .int .i64 (L : Int), .bool true] 117))) := Lib.hid ((HO.out.trans HO2.out).trans ((Ok.refl w2).alloc _))
  have HSZ3 : Hid (w2.heap.size + 1 = (w2.alloc (.cells #[.int .i64 tm, .int .i64 i, .int .i64 t, .int .i64 (L : Int), .bool true] 117)).heap.size ∧ g + 2 ≤ w2.heap.size) := Lib.hid ⟨by rw [World.size_alloc], by have := HO2.out.size; have := HZZ.out; omega⟩
  generalize w2.alloc (.cells #[.int .i64 tm, .int .i64 i, .int .i64 t, .int .i64 (L : Int), .bool true] 117) = w3 at *
  obtain ⟨q, hq⟩ : ∃ q, w2.heap.size = q := ⟨_, rfl⟩
  rw [hq] at HCR HSZ3 ⊢
  clear hq HF HS7 HRX
  go_upto_region 4 with fail
  rename_i K2 hK2
  have HK2 := Lib.hid hK2
  clear hK2
  refine wp_region_held_drew (S := fun w => (w.cell? ⟨q, 0, none⟩ = some (.int .i64 tm) ∧ w.cell? ⟨q, 1, none⟩ = some (.int .i64 i) ∧ w.cell? ⟨q, 2, none⟩ = some (.int .i64 t) ∧ w.cell? ⟨q, 3, none⟩ = some (.int .i64 (L : Int)) ∧ w.cell? ⟨q, 4, none⟩ = some (.bool true)) ∧ (w.cell? ⟨p, 0, none⟩ = some (.int .i64 tm0) ∧ w.cell? ⟨p, 1, none⟩ = some (.int .i64 i0) ∧ w.cell? ⟨p, 2, none⟩ = some (.int .i64 t0) ∧ w.cell? ⟨p, 3, none⟩ = some (.int .i64 sz0) ∧ w.cell? ⟨p, 4, none⟩ = some (.bool u0))) (by kernel_rfl) ?_ ?_
  · have k := HF3.out.ok ((Ok.refl w3).drew)
    have r : ∀ j v, [.int .i64 tm, .int .i64 i, .int .i64 t, .int .i64 (L : Int), .bool true][j]? = some v → w3.drew.cell? ⟨q, j, none⟩ = some v := fun j v hv => ((Ok.refl w3).drew).cell (by have := HCR.out j v hv; rwa [Nat.zero_add] at this)
    exact ⟨⟨r 0 _ rfl, r 1 _ rfl, r 2 _ rfl, r 3 _ rfl, r 4 _ rfl⟩, k.c0, k.c1, k.c2, k.c3, k.c4⟩
  intro hS
  have hcr := HNE.out
  have HO4 : Hid (Ok w3 w3.drew) := Lib.hid ((Ok.refl w3).drew)
  generalize w3.drew = wb at *
  refine wpAnyH_take (i := 0) (v := ?v0u1) rfl (by kernel_rfl) (by kernel_rfl) (by kernel_rfl) (fun _ _ _ h => h) (Or.inl ⟨by rfl, ?hy0u1⟩) hS ?rest0u1
  case hy0u1 => ((intro w hSw; (try dsimp only at hSw)); go_simp; (try with_reducible rfl))
  try go_frame
  refine wpAnyH_take (i := 1) (v := ?v1u2) rfl (by kernel_rfl) (by kernel_rfl) (by kernel_rfl) (fun _ _ _ h => h) (Or.inl ⟨by rfl, ?hy1u2⟩) hS ?rest1u2
  case hy1u2 => ((intro w hSw; (try dsimp only at hSw)); go_simp; (try with_reducible rfl))
  try go_frame
  refine wpAnyH_take (i := 2) (v := ?v2u3) rfl (by kernel_rfl) (by kernel_rfl) (by kernel_rfl) (fun _ _ _ h => h) (Or.inl ⟨by rfl, ?hy2u3⟩) hS ?rest2u3
  case hy2u3 => ((intro w hSw; (try dsimp only at hSw)); go_simp; (try with_reducible rfl))
  try go_frame
  refine wpAnyH_take (i := 3) (v := ?v3u4) rfl (by kernel_rfl) (by kernel_rfl) (by kernel_rfl) (fun _ _ _ h => h) (Or.inl ⟨by rfl, ?hy3u4⟩) hS ?rest3u4
  case hy3u4 => ((intro w hSw; (try dsimp only at hSw)); go_simp; (try with_reducible rfl))
  try go_frame
  refine wpAnyH_take (i := 4) (v := ?v4u5) rfl (by kernel_rfl) (by kernel_rfl) (by kernel_rfl) (fun _ _ _ h => h) (Or.inl ⟨by rfl, ?hy4u5⟩) hS ?rest4u5
  case hy4u5 => ((intro w hSw; (try dsimp only at hSw)); go_simp; (try with_reducible rfl))
  try go_frame
  refine wpAnyH_take (i := 5) (v := ?v5u6) rfl (by kernel_rfl) (by kernel_rfl) (by kernel_rfl) (fun _ _ _ h => h) (Or.inl ⟨by rfl, ?hy5u6⟩) hS ?rest5u6
  case hy5u6 => ((intro w hSw; (try dsimp only at hSw)); go_simp; (try with_reducible rfl))
  try go_frame
  refine wpAnyH_done (by kernel_rfl) ?_ _
  clear hS
  refine HK2.out _ _ ?_
  clear HK2
  have HF4 := Lib.hid (HF3.out.ok HO4.out)
  have hx17 : wb.cell? ⟨g, 17, none⟩ = some (.int .i64 (a : Int)) := HO4.out.cell (by have := HRX3.out 17 _ rfl; rwa [Nat.zero_add] at this)
  have d2 : decide ((0 : Int) < (a : Int)) = false := decide_eq_false (by have := HA0.out; omega)
  have d3 : decide (0 < a) = false := decide_eq_false (by have := HA0.out; omega)
  have r : ∀ j v, [.int .i64 tm, .int .i64 i, .int .i64 t, .int .i64 (L : Int), .bool true][j]? = some v → wb.cell? ⟨q, j, none⟩ = some v := fun j v hv => HO4.out.cell (by have := HCR.out j v hv; rwa [Nat.zero_add] at this)
  have r0 := r 0 _ rfl
  have r1 := r 1 _ rfl
  have r2 := r 2 _ rfl
  have r3 := r 3 _ rfl
  have r4 := r 4 _ rfl
  clear r
  go_upto_region 5 with fail
  rename_i K3 hK3
  have HK3 := Lib.hid hK3
  clear hK3
  refine wp_region_lit ?_
  refine wpList_step (fun K hK => ?_)
  rw [if_pos (by rfl)]
  go_simp
  refine hK _ _ ?_
  clear hK K
  try go_frame
  refine wpList_step (fun K hK => ?_)
  rw [if_pos (by rfl)]
  go_simp
  refine hK _ _ ?_
  clear hK K
  try go_frame
  refine wpList_step (fun K hK => ?_)
  rw [if_pos (by rfl)]
  go_simp
  refine hK _ _ ?_
  clear hK K
  try go_frame
  refine wpList_nil ?_
  refine HK3.out _ _ ?_
  clear HK3
  go_upto_region 7 with fail
  rename_i K12 hK12 hT
  have HK12 := Lib.hid hK12
  clear hK12
  clear hT
  refine wp_region_lit ?_
  refine wpList_step (fun K hK => ?_)
  rw [if_pos (by rfl)]
  go_simp
  refine hK _ _ ?_
  clear hK K
  try go_frame
  refine wpList_step (fun K hK => ?_)
  rw [if_pos (by rfl)]
  go_simp
  refine hK _ _ ?_
  clear hK K
  try go_frame
  refine wpList_step (fun K hK => ?_)
  rw [if_pos (by rfl)]
  go_simp
  (with_reducible refine (begin_f p tm0 i0 t0 sz0 tm i t (L : Int) u0 true A n c xs wb HF4.out).mono ?_)
  rintro _ w4 ⟨rfl, hf, hr⟩
  have HFB := Lib.hid hf
  have HRB := Lib.hid hr
  clear hf hr
  refine hK _ _ ?_
  clear hK K
  try go_frame
  refine wpList_nil ?_
  refine HK12.out _ _ ?_
  clear HK12
  clear hcr hx17 d2 d3 r0 r1 r2 r3 r4
  have HF5 : Hid (FAt p tm i t (L : Int) true AZ nZ cZ xZ w4) := Lib.hid (by have e := HE.out; rw [e.1, e.2.1, e.2.2.1, e.2.2.2]; exact HFB.out)
  have HOBQ : Hid (∀ k, (Value.slice AZ nZ cZ).ownBlock = some k → p + 1 ≤ k ∧ k < g) := Lib.hid (fun k e => by rw [HE.out.1] at e; cases e)
  have HOQ : Hid (∀ j, j < W.heap.size → (Value.slice AZ nZ cZ).ownBlock = some j → (Value.slice A n c).ownBlock = some j) := Lib.hid (fun j _ e => by rw [HE.out.1] at e; cases e)
  have HS5 : Hid (Seven (g + 1) (.int .i64 0) (.int .i64 0) (.slice none 0 0) (.slice none 0 0) (.slice none 0 0) (.slice none 0 0) (.slice none 0 0) w4) := Lib.hid (Seven.fr (HS3.out.ok HO4.out) HRB.out (by have := HPL.out; omega) (fun e => by have := HOB.out _ e; omega))
  have HRX5 : Hid (w4.rangeAt g 0 [.int .u8 5, .int .i64 x.group, .int .i64 x.from_, .int .i64 x.to_, .int .i64 tm, .int .i64 x.index, .int .i64 x.logterm, .int .i64 x.commit, .bool x.ok, .slice r.eA x.es.length r.ec, .int .i64 i, .int .i64 t, .slice s.A0 s.n0 s.c0, .slice s.A1 s.n1 s.c1, .slice s.A2 s.n2 s.c2, .slice s.A3 s.n3 s.c3, .int .i64 (L : Int), .int .i64 (a : Int), .int .i64 x.tag, .slice B m d]) := Lib.hid (Fr.range (fun j v hv => HO4.out.cell (HRX3.out j v hv)) HRB.out (by have := HPL.out; omega) (fun e => by have := HOB.out _ e; omega))
  have HFR5 : Hid (Fr p A n c W w4) := Lib.hid (Fr.of (HO3.out.trans HO4.out) HRB.out)
  have HSZ5 : Hid (g + 2 ≤ w4.heap.size) := Lib.hid (by have := HSZ3.out; have := HO4.out.size; have := HRB.out.size; omega)
  clear HF3 HS3 HRX3 HO3 HO4 HCR HSZ3 HF4 HFB HRB
  have hx17 : w4.cell? ⟨g, 17, none⟩ = some (.int .i64 (a : Int)) := by have := HRX5.out 17 _ rfl; rwa [Nat.zero_add] at this
  have hx19 : w4.cell? ⟨g, 19, none⟩ = some (.slice B m d) := by have := HRX5.out 19 _ rfl; rwa [Nat.zero_add] at this
  have HX17 := Lib.hid hx17
  have HX19 := Lib.hid hx19
  clear hx17 hx19
  obtain ⟨k, hk⟩ : ∃ k, nZ - a = k := ⟨_, rfl⟩
  have hka : nZ = a + k := by omega
  have h8 : (nZ : Int) - (a : Int) = (k : Int) := by omega
  have HK := Lib.hid hka
  have hkb : k ≤ 140000 := by omega
  have hw8 : IntKind.i64.wrap (k : Int) = (k : Int) := by simp only [IntKind.wrap_i64]; omega
  clear hk hka
  go_upto_region 8 with fail
  rename_i K4 hK4
  have HK4 := Lib.hid hK4
  clear hK4
  refine wp_region_held_drew (S := fun w => w.cell? ⟨p, 5, none⟩ = some (.slice AZ nZ cZ) ∧ w.cell? ⟨g, 17, none⟩ = some (.int .i64 (a : Int))) (by kernel_rfl) ?_ ?_
  · exact ⟨((Ok.refl w4).drew).cell HF5.out.c5, ((Ok.refl w4).drew).cell HX17.out⟩
  intro hS
  have HOD : Hid (Ok w4 w4.drew) := Lib.hid ((Ok.refl w4).drew)
  generalize w4.drew = w5 at *
  refine wpAnyH_take (i := 0) (v := ?v0u7) rfl (by kernel_rfl) (by kernel_rfl) (by kernel_rfl) (fun _ _ _ h => h) (Or.inl ⟨by rfl, ?hy0u7⟩) hS ?rest0u7
  case hy0u7 => ((intro w hSw; (try dsimp only at hSw)); go_simp; (try with_reducible rfl))
  try go_frame
  refine wpAnyH_take (i := 1) (v := ?v1u8) rfl (by kernel_rfl) (by kernel_rfl) (by kernel_rfl) (fun _ _ _ h => h) (Or.inl ⟨by rfl, ?hy1u8⟩) hS ?rest1u8
  case hy1u8 => ((intro w hSw; (try dsimp only at hSw)); go_simp; (try with_reducible rfl))
  try go_frame
  refine wpAnyH_take (i := 2) (v := ?v2u9) rfl (by kernel_rfl) (by kernel_rfl) (by kernel_rfl) (fun _ _ _ h => h) (Or.inl ⟨by rfl, ?hy2u9⟩) hS ?rest2u9
  case hy2u9 => ((intro w hSw; (try dsimp only at hSw)); go_simp; (try with_reducible rfl))
  try go_frame
  refine wpAnyH_take (i := 3) (v := ?v3u10) rfl (by kernel_rfl) (by kernel_rfl) (by kernel_rfl) (fun _ _ _ h => h) (Or.inl ⟨by rfl, ?hy3u10⟩) hS ?rest3u10
  case hy3u10 => ((intro w hSw; (try dsimp only at hSw)); go_simp; (try with_reducible rfl))
  try go_frame
  refine wpAnyH_take (i := 4) (v := ?v4u11) rfl (by kernel_rfl) (by kernel_rfl) (by kernel_rfl) (fun _ _ _ h => h) (Or.inl ⟨by rfl, ?hy4u11⟩) hS ?rest4u11
  case hy4u11 => ((intro w hSw; (try dsimp only at hSw)); go_simp; (try with_reducible rfl))
  try go_frame
  refine wpAnyH_take (i := 5) (v := ?v5u12) rfl (by kernel_rfl) (by kernel_rfl) (by kernel_rfl) (fun _ _ _ h => h) (Or.inl ⟨by rfl, ?hy5u12⟩) hS ?rest5u12
  case hy5u12 => ((intro w hSw; (try dsimp only at hSw)); go_simp; (try with_reducible rfl))
  try go_frame
  refine wpAnyH_take (i := 6) (v := ?v6u13) rfl (by kernel_rfl) (by kernel_rfl) (by kernel_rfl) (fun _ _ _ h => h) (Or.inl ⟨by rfl, ?hy6u13⟩) hS ?rest6u13
  case hy6u13 => ((intro w hSw; (try dsimp only at hSw)); go_simp; (try with_reducible rfl))
  try go_frame
  refine wpAnyH_take (i := 7) (v := ?v7u14) rfl (by kernel_rfl) (by kernel_rfl) (by kernel_rfl) (fun _ _ _ h => h) (Or.inl ⟨by rfl, ?hy7u14⟩) hS ?rest7u14
  case hy7u14 => ((intro w hSw; (try dsimp only at hSw)); go_simp; (try with_reducible rfl))
  try go_frame
  refine wpAnyH_take (i := 8) (v := ?v8u15) rfl (by kernel_rfl) (by kernel_rfl) (by kernel_rfl) (fun _ _ _ h => h) (Or.inl ⟨by rfl, ?hy8u15⟩) hS ?rest8u15
  case hy8u15 => ((intro w hSw; (try dsimp only at hSw)); go_simp; (try with_reducible rfl))
  try go_frame
  refine wpAnyH_done (by kernel_rfl) ?_ _
  clear hS
  refine HK4.out _ _ ?_
  clear HK4 h8
  have HF6 := Lib.hid (HF5.out.ok HOD.out)
  have HS6 := Lib.hid (HS5.out.ok HOD.out)
  have HRX6 : Hid (w5.rangeAt g 0 [.int .u8 5, .int .i64 x.group, .int .i64 x.from_, .int .i64 x.to_, .int .i64 tm, .int .i64 x.index, .int .i64 x.logterm, .int .i64 x.commit, .bool x.ok, .slice r.eA x.es.length r.ec, .int .i64 i, .int .i64 t, .slice s.A0 s.n0 s.c0, .slice s.A1 s.n1 s.c1, .slice s.A2 s.n2 s.c2, .slice s.A3 s.n3 s.c3, .int .i64 (L : Int), .int .i64 (a : Int), .int .i64 x.tag, .slice B m d]) := Lib.hid (fun j v hv => HOD.out.cell (HRX5.out j v hv))
  have HFR6 := Lib.hid (HFR5.out.ok HOD.out)
  have HX6 : Hid (w5.cell? ⟨g, 19, none⟩ = some (.slice B m d)) := Lib.hid (HOD.out.cell HX19.out)
  have HSZ6 : Hid (g + 2 ≤ w5.heap.size) := Lib.hid (by have := HSZ5.out; have := HOD.out.size; omega)
  clear HF5 HS5 HRX5 HFR5 HX17 HX19 HOD HSZ5
  have HL0 : Hid (xZ.length = nZ) := Lib.hid HF6.out.len.symm
  go_upto_region 9 with fail
  rename_i K5 hK5
  have HK5 := Lib.hid hK5
  clear hK5
  refine wp_region_lit ?_
  have hx19 := HX6.out
  have dk : decide ((0 : Int) ≤ (k : Int)) = true := decide_eq_true (by omega)
  refine wpList_step (fun K hK => ?_)
  rw [if_pos (by rfl)]
  go_simp
  refine hK _ _ ?_
  clear hK K
  try go_frame
  refine wpList_step (fun K hK => ?_)
  rw [if_pos (by rfl)]
  go_simp
  refine hK _ _ ?_
  clear hK K
  try go_frame
  refine wpList_step (fun K hK => ?_)
  rw [if_pos (by rfl)]
  go_simp
  refine hK _ _ ?_
  clear hK K
  try go_frame
  by_cases hlt : k < m
  · have dm : decide (k < m) = true := decide_eq_true hlt
    refine wpList_step (fun K hK => ?_)
    rw [if_pos (by rfl)]
    go_simp
    refine hK _ _ ?_
    clear hK K
    try go_frame
    refine wpList_step (fun K hK => ?_)
    rw [if_pos (by rfl)]
    go_simp
    refine hK _ _ ?_
    clear hK K
    try go_frame
    refine wpList_step (fun K hK => ?_)
    rw [if_pos (by rfl)]
    go_simp
    refine hK _ _ ?_
    clear hK K
    try go_frame
    refine wpList_step (fun K hK => ?_)
    rw [if_pos (by rfl)]
    go_simp
    refine hK _ _ ?_
    clear hK K
    try go_frame
    refine wpList_step (fun K hK => ?_)
    rw [if_pos (by rfl)]
    go_simp
    refine hK _ _ ?_
    clear hK K
    try go_frame
    refine wpList_step (fun K hK => ?_)
    rw [if_pos (by rfl)]
    go_simp
    refine hK _ _ ?_
    clear hK K
    try go_frame
    refine wpList_nil ?_
    refine HK5.out _ _ ?_
    clear HK5
    obtain ⟨B2, hrun, hb2⟩ := slice_from B m d k ys w5 (HXX.out w5 HFR6.out).2 (by omega)
    have HB2 := Lib.hid hb2
    clear hb2 dm
    go_upto_region 10 with fail
    rename_i K6 hK6
    have HK6 := Lib.hid hK6
    clear hK6
    refine wp_region_lit ?_
    refine wpList_step (fun K hK => ?_)
    rw [if_pos (by rfl)]
    go_simp
    refine hK _ _ ?_
    clear hK K
    try go_frame
    refine wpList_step (fun K hK => ?_)
    rw [if_pos (by rfl)]
    go_simp
    refine hK _ _ ?_
    clear hK K
    try go_frame
    refine wpList_step (fun K hK => ?_)
    rw [if_pos (by rfl)]
    go_simp
    refine hK _ _ ?_
    clear hK K
    try go_frame
    refine wpList_step (fun K hK => ?_)
    rw [if_pos (by rfl)]
    go_simp
    refine hK _ _ ?_
    clear hK K
    try go_frame
    refine wpList_step (fun K hK => ?_)
    rw [if_pos (by rfl)]
    go_simp
    refine hK _ _ ?_
    clear hK K
    try go_frame
    refine wpList_step (fun K hK => ?_)
    rw [if_pos (by rfl)]
    go_simp
    (with_reducible refine (lay_f p tm i t (L : Int) true AZ B2 nZ cZ (m - k) (d - k) xZ (ys.drop k) w5 HF6.out HB2.out (by rw [List.length_drop, HL0.out]; have := HM.out; omega)).mono ?_)
    rintro _ w6 ⟨rfl, ⟨A2, c2, hf, hown⟩, hfr⟩
    have HFF := Lib.hid hf
    have HOWN := Lib.hid hown
    have HFR := Lib.hid hfr
    clear hf hown hfr hrun
    refine hK _ _ ?_
    clear hK K
    try go_frame
    refine wpList_nil ?_
    refine HK6.out _ _ ?_
    clear HK6
    obtain ⟨N, hN⟩ : ∃ N, nZ + (m - k) = N := ⟨_, rfl⟩
    rw [hN] at HFF HOWN
    have HLAID : Hid (laid xZ ys a = xZ ++ ys.drop k) := Lib.hid (by have := HL0.out; have := HK.out; have := HM.out; unfold laid; rw [if_pos ⟨by omega, by omega⟩, show xZ.length - a = k from by omega])
    have HZL : Hid ((xZ ++ ys.drop k).length = N) := Lib.hid (by rw [List.length_append, List.length_drop]; have := HL0.out; have := HM.out; omega)
    have hNb : N ≤ 300000 := by omega
    generalize xZ ++ ys.drop k = zs at *
    clear hN hx19 hw8
    by_cases hNL : N = L
    · have HNL := Lib.hid hNL
      clear hNL
      go_upto_region 11 with fail
      rename_i K7 hK7
      have HK7 := Lib.hid hK7
      clear hK7
      refine wp_region_lit ?_
      have hf5 := HFF.out.c5
      have hf0 := HFF.out.c0
      have hf1 := HFF.out.c1
      have hf2 := HFF.out.c2
      have hf3 := HFF.out.c3
      have hf4 := HFF.out.c4
      refine wpList_step (fun K hK => ?_)
      rw [if_pos (by rfl)]
      go_simp
      refine hK _ _ ?_
      clear hK K
      try go_frame
      refine wpList_step (fun K hK => ?_)
      rw [if_pos (by rfl)]
      go_simp
      refine hK _ _ ?_
      clear hK K
      try go_frame
      refine wpList_step (fun K hK => ?_)
      rw [if_pos (by rfl)]
      go_simp
      refine hK _ _ ?_
      clear hK K
      try go_frame
      refine wpList_step (fun K hK => ?_)
      rw [if_pos (by rfl)]
      go_simp
      refine hK _ _ ?_
      clear hK K
      try go_frame
      refine wpList_step (fun K hK => ?_)
      rw [if_pos (by rfl)]
      go_simp
      refine hK _ _ ?_
      clear hK K
      try go_frame
      refine wpList_step (fun K hK => ?_)
      rw [if_pos (by rfl)]
      go_simp
      refine hK _ _ ?_
      clear hK K
      try go_frame
      refine wpList_nil ?_
      refine HK7.out _ _ ?_
      clear HK7
      go_upto_region 12 with fail
      rename_i K8 hK8
      have HK8 := Lib.hid hK8
      clear hK8
      refine wp_region_lit ?_
      refine wpList_step (fun K hK => ?_)
      rw [if_pos (by rfl)]
      go_simp
      refine hK _ _ ?_
      clear hK K
      try go_frame
      refine wpList_step (fun K hK => ?_)
      rw [if_pos (by rfl)]
      go_simp
      refine hK _ _ ?_
      clear hK K
      try go_frame
      refine wpList_step (fun K hK => ?_)
      rw [if_pos (by rfl)]
      go_simp
      refine hK _ _ ?_
      clear hK K
      try go_frame
      refine wpList_step (fun K hK => ?_)
      rw [if_pos (by rfl)]
      go_simp
      refine hK _ _ ?_
      clear hK K
      try go_frame
      refine wpList_step (fun K hK => ?_)
      rw [if_pos (by rfl)]
      go_simp
      refine hK _ _ ?_
      clear hK K
      try go_frame
      refine wpList_step (fun K hK => ?_)
      rw [if_pos (by rfl)]
      go_simp
      (with_reducible refine (whole_y tm i t L N w6 HNL.out).mono ?_)
      rintro _ w7 ⟨rfl, o7⟩
      have HO7 := Lib.hid o7
      clear o7
      refine hK _ _ ?_
      clear hK K
      try go_frame
      refine wpList_nil ?_
      refine HK8.out _ _ ?_
      clear HK8
      clear hf0 hf1 hf2 hf3 hf4 hf5
      have HS7 : Hid (Seven (g + 1) (.int .i64 0) (.int .i64 0) (.slice none 0 0) (.slice none 0 0) (.slice none 0 0) (.slice none 0 0) (.slice none 0 0) w7) := Lib.hid ((Seven.fr HS6.out HFR.out (by have := HPL.out; omega) (fun e => by have := HOBQ.out _ e; omega)).ok HO7.out)
      have HF7 := Lib.hid (HFF.out.ok HO7.out)
      have HFR7 : Hid (Fr p A n c W w7) := Lib.hid ((Fr.trans HFR6.out HFR.out HOQ.out).ok HO7.out)
      have hn1 : g + 1 ≠ p := by have := HPL.out; omega
      have hn2 : (Value.slice A2 N c2).ownBlock ≠ some (g + 1) := fun e => by have := HOBQ.out _ (HOWN.out _ (by have := HSZ6.out; omega) e); omega
      have hown : ∀ j, j < W.heap.size → (Value.slice A2 N c2).ownBlock = some j → (Value.slice A n c).ownBlock = some j := fun j hj e => HOQ.out j hj (HOWN.out j (by have := HSZ6.out; have := HG.out; omega) e)
      have HN1 := Lib.hid hn1
      have HN2 := Lib.hid hn2
      have HOWN2 := Lib.hid hown
      clear hn1 hn2 hown
      have HRX7 : Hid (w7.rangeAt g 0 [.int .u8 5, .int .i64 x.group, .int .i64 x.from_, .int .i64 x.to_, .int .i64 tm, .int .i64 x.index, .int .i64 x.logterm, .int .i64 x.commit, .bool x.ok, .slice r.eA x.es.length r.ec, .int .i64 i, .int .i64 t, .slice s.A0 s.n0 s.c0, .slice s.A1 s.n1 s.c1, .slice s.A2 s.n2 s.c2, .slice s.A3 s.n3 s.c3, .int .i64 (L : Int), .int .i64 (a : Int), .int .i64 x.tag, .slice B m d]) := Lib.hid (fun j v hv => HO7.out.cell (Fr.range HRX6.out HFR.out (by have := HPL.out; omega) (fun e => by have := HOBQ.out _ e; omega) j v hv))
      go_upto_region 13 with fail
      rename_i K9 hK9
      have HK9 := Lib.hid hK9
      clear hK9
      refine wp_region_held_drew (S := fun w => (w.cell? ⟨g, 10, none⟩ = some (.int .i64 i) ∧ w.cell? ⟨g, 11, none⟩ = some (.int .i64 t) ∧ w.cell? ⟨g, 12, none⟩ = some (.slice s.A0 s.n0 s.c0) ∧ w.cell? ⟨g, 13, none⟩ = some (.slice s.A1 s.n1 s.c1) ∧ w.cell? ⟨g, 14, none⟩ = some (.slice s.A2 s.n2 s.c2) ∧ w.cell? ⟨g, 15, none⟩ = some (.slice s.A3 s.n3 s.c3)) ∧ w.cell? ⟨p, 5, none⟩ = some (.slice A2 N c2)) (by kernel_rfl) ?_ ?_
      · have r : ∀ j v, [.int .u8 5, .int .i64 x.group, .int .i64 x.from_, .int .i64 x.to_, .int .i64 tm, .int .i64 x.index, .int .i64 x.logterm, .int .i64 x.commit, .bool x.ok, .slice r.eA x.es.length r.ec, .int .i64 i, .int .i64 t, .slice s.A0 s.n0 s.c0, .slice s.A1 s.n1 s.c1, .slice s.A2 s.n2 s.c2, .slice s.A3 s.n3 s.c3, .int .i64 (L : Int), .int .i64 (a : Int), .int .i64 x.tag, .slice B m d][j]? = some v → w7.drew.cell? ⟨g, j, none⟩ = some v := fun j v hv => ((Ok.refl w7).drew).cell (by have := HRX7.out j v hv; rwa [Nat.zero_add] at this)
        exact ⟨⟨r 10 _ rfl, r 11 _ rfl, r 12 _ rfl, r 13 _ rfl, r 14 _ rfl, r 15 _ rfl⟩, ((Ok.refl w7).drew).cell HF7.out.c5⟩
      intro hS
      have HOD8 : Hid (Ok w7 w7.drew) := Lib.hid ((Ok.refl w7).drew)
      generalize w7.drew = w8 at *
      refine wpAnyH_take (i := 0) (v := ?v0u16) rfl (by kernel_rfl) (by kernel_rfl) (by kernel_rfl) (fun _ _ _ h => h) (Or.inl ⟨by rfl, ?hy0u16⟩) hS ?rest0u16
      case hy0u16 => ((intro w hSw; (try dsimp only at hSw)); go_simp; (try with_reducible rfl))
      try go_frame
      refine wpAnyH_take (i := 1) (v := ?v1u17) rfl (by kernel_rfl) (by kernel_rfl) (by kernel_rfl) (fun _ _ _ h => h) (Or.inl ⟨by rfl, ?hy1u17⟩) hS ?rest1u17
      case hy1u17 => ((intro w hSw; (try dsimp only at hSw)); go_simp; (try with_reducible rfl))
      try go_frame
      refine wpAnyH_take (i := 3) (v := ?v3u18) rfl (by kernel_rfl) (by kernel_rfl) (by kernel_rfl) (fun _ _ _ h => h) (Or.inl ⟨by rfl, ?hy3u18⟩) hS ?rest3u18
      case hy3u18 => ((intro w hSw; (try dsimp only at hSw)); go_simp; (try with_reducible rfl))
      try go_frame
      refine wpAnyH_take (i := 4) (v := ?v4u19) rfl (by kernel_rfl) (by kernel_rfl) (by kernel_rfl) (fun _ _ _ h => h) (Or.inl ⟨by rfl, ?hy4u19⟩) hS ?rest4u19
      case hy4u19 => ((intro w hSw; (try dsimp only at hSw)); go_simp; (try with_reducible rfl))
      try go_frame
      refine wpAnyH_take (i := 5) (v := ?v5u20) rfl (by kernel_rfl) (by kernel_rfl) (by kernel_rfl) (fun _ _ _ h => h) (Or.inl ⟨by rfl, ?hy5u20⟩) hS ?rest5u20
      case hy5u20 => ((intro w hSw; (try dsimp only at hSw)); go_simp; (try with_reducible rfl))
      try go_frame
      refine wpAnyH_take (i := 6) (v := ?v6u21) rfl (by kernel_rfl) (by kernel_rfl) (by kernel_rfl) (fun _ _ _ h => h) (Or.inl ⟨by rfl, ?hy6u21⟩) hS ?rest6u21
      case hy6u21 => ((intro w hSw; (try dsimp only at hSw)); go_simp; (try with_reducible rfl))
      try go_frame
      refine wpAnyH_ready (rs := [2]) (by kernel_rfl) (by simp) (AllReadyH.cons rfl (fun K hK => ?_) AllReadyH.nil)
      have HK := Lib.hid hK
      clear hK
      go_simp
      refine (copyBase_f i t s cf _ (HXX.out _ (HFR7.out.ok HOD8.out)).1 l0 l1 l2 l3).mono ?_
      rintro _ w9 ⟨s', rfl, hcf, ok⟩
      have HC9 := Lib.hid hcf
      have HO9 := Lib.hid ok
      have HSN : Hid ((_ ∧ _ ∧ _ ∧ _ ∧ _ ∧ _) ∧ _) := Lib.hid ⟨⟨ok.cell hS.1.1, ok.cell hS.1.2.1, ok.cell hS.1.2.2.1, ok.cell hS.1.2.2.2.1, ok.cell hS.1.2.2.2.2.1, ok.cell hS.1.2.2.2.2.2⟩, ok.cell hS.2⟩
      clear ok hS hcf
      refine HK.out.out _ _ HSN.out (fun hJ => ?_)
      clear hJ
      have hS := HSN.out
      clear HSN
      clear HK K
      try go_frame
      refine wpAnyH_ready (rs := [7]) (by kernel_rfl) (by simp) (AllReadyH.cons rfl (fun K hK => ?_) AllReadyH.nil)
      have HK := Lib.hid hK
      clear hK
      go_simp
      refine (cloneB_f _ zs _ (((HF7.out.ok HOD8.out).ok HO9.out).own.bytes (by have := HZL.out; omega)) (by have := HZL.out; omega)).mono ?_
      rintro _ w10 ⟨⟨D2, d2', rfl, hz⟩, ok⟩
      have HZ10 := Lib.hid hz
      have HO10 := Lib.hid ok
      have HSN : Hid ((_ ∧ _ ∧ _ ∧ _ ∧ _ ∧ _) ∧ _) := Lib.hid ⟨⟨ok.cell hS.1.1, ok.cell hS.1.2.1, ok.cell hS.1.2.2.1, ok.cell hS.1.2.2.2.1, ok.cell hS.1.2.2.2.2.1, ok.cell hS.1.2.2.2.2.2⟩, ok.cell hS.2⟩
      clear ok hS hz
      refine HK.out.out _ _ HSN.out (fun hJ => ?_)
      clear hJ
      have hS := HSN.out
      clear HSN
      clear HK K
      try go_frame
      refine wpAnyH_take (i := 8) (v := ?v8u22) rfl (by kernel_rfl) (by kernel_rfl) (by kernel_rfl) (fun _ _ _ h => h) (Or.inl ⟨by rfl, ?hy8u22⟩) hS ?rest8u22
      case hy8u22 => ((intro w hSw; (try dsimp only at hSw)); go_simp; (try with_reducible rfl))
      try go_frame
      refine wpAnyH_take (i := 9) (v := ?v9u23) rfl (by kernel_rfl) (by kernel_rfl) (by kernel_rfl) (fun _ _ _ h => h) (Or.inl ⟨by rfl, ?hy9u23⟩) hS ?rest9u23
      case hy9u23 => ((intro w hSw; (try dsimp only at hSw)); go_simp; (try with_reducible rfl))
      try go_frame
      have HS10 := Lib.hid (((HS7.out.ok HOD8.out).ok HO9.out).ok HO10.out)
      have HSS := Lib.hid hS
      clear hS
      have z0 := HS10.out.c0
      have z1 := HS10.out.c1
      have z2 := HS10.out.c2
      have z3 := HS10.out.c3
      have z4 := HS10.out.c4
      have z5 := HS10.out.c5
      have z6 := HS10.out.c6
      have y0 := HS10.out.f 0
      have y1 := HS10.out.f 1
      have y2 := HS10.out.f 2
      have y3 := HS10.out.f 3
      have y4 := HS10.out.f 4
      have y5 := HS10.out.f 5
      have y6 := HS10.out.f 6
      refine wpAnyH_ready (rs := [10]) (by kernel_rfl) (by simp) (AllReadyH.cons rfl (fun K hK => ?_) AllReadyH.nil)
      have HK := Lib.hid hK
      clear hK
      go_simp
      have HS11 := Lib.hid (Seven.put (.int .i64 i) (.int .i64 t) (.slice s'.A0 s'.n0 s'.c0) (.slice s'.A1 s'.n1 s'.c1) (.slice s'.A2 s'.n2 s'.c2) (.slice s'.A3 s'.n3 s'.c3) (.slice D2 zs.length d2') HS10.out)
      have HW11 : Hid (∀ b o u, b ≠ g + 1 → w10.cell? ⟨b, o, none⟩ = some u → _) := Lib.hid (fun b o u hb hc => seven_far (g := g + 1) (b := b) hb (.int .i64 i) (.int .i64 t) (.slice s'.A0 s'.n0 s'.c0) (.slice s'.A1 s'.n1 s'.c1) (.slice s'.A2 s'.n2 s'.c2) (.slice s'.A3 s'.n3 s'.c3) (.slice D2 zs.length d2') hc)
      refine HK.out.out _ _ ⟨⟨HW11.out _ _ _ (by omega) HSS.out.1.1, HW11.out _ _ _ (by omega) HSS.out.1.2.1, HW11.out _ _ _ (by omega) HSS.out.1.2.2.1, HW11.out _ _ _ (by omega) HSS.out.1.2.2.2.1, HW11.out _ _ _ (by omega) HSS.out.1.2.2.2.2.1, HW11.out _ _ _ (by omega) HSS.out.1.2.2.2.2.2⟩, HW11.out _ _ _ (fun e => HN1.out e.symm) HSS.out.2⟩ (fun hJ => ?_)
      clear hJ
      clear HK K
      try go_frame
      refine wpAnyH_done (by kernel_rfl) ?_ _
      refine HK9.out _ _ ?_
      clear HK9 HSS HW11
      clear z0 z1 z2 z3 z4 z5 z6 y0 y1 y2 y3 y4 y5 y6
      have hb8 : g + 1 < w8.heap.size := by have := HSZ6.out; have := HFR.out.size; have := HO7.out.size; have := HOD8.out.size; omega
      have hb9 : g + 1 < w9.heap.size := by have := HO9.out.size; omega
      have HF11 : Hid (FAt p tm i t (L : Int) true A2 N c2 zs (((((((w10.setCell ⟨g + 1, 0, none⟩ (.int .i64 i)).setCell ⟨g + 1, 1, none⟩ (.int .i64 t)).setCell ⟨g + 1, 2, none⟩ (.slice s'.A0 s'.n0 s'.c0)).setCell ⟨g + 1, 3, none⟩ (.slice s'.A1 s'.n1 s'.c1)).setCell ⟨g + 1, 4, none⟩ (.slice s'.A2 s'.n2 s'.c2)).setCell ⟨g + 1, 5, none⟩ (.slice s'.A3 s'.n3 s'.c3)).setCell ⟨g + 1, 6, none⟩ (.slice D2 zs.length d2'))) := Lib.hid (FAt.far (FAt.far (FAt.far (FAt.far (FAt.far (FAt.far (FAt.far (((HF7.out.ok HOD8.out).ok HO9.out).ok HO10.out) (g + 1) 0 (.int .i64 i) HN1.out HN2.out) (g + 1) 1 (.int .i64 t) HN1.out HN2.out) (g + 1) 2 (.slice s'.A0 s'.n0 s'.c0) HN1.out HN2.out) (g + 1) 3 (.slice s'.A1 s'.n1 s'.c1) HN1.out HN2.out) (g + 1) 4 (.slice s'.A2 s'.n2 s'.c2) HN1.out HN2.out) (g + 1) 5 (.slice s'.A3 s'.n3 s'.c3) HN1.out HN2.out) (g + 1) 6 (.slice D2 zs.length d2') HN1.out HN2.out)
      have HR11 : Hid (Fr p A n c W (((((((w10.setCell ⟨g + 1, 0, none⟩ (.int .i64 i)).setCell ⟨g + 1, 1, none⟩ (.int .i64 t)).setCell ⟨g + 1, 2, none⟩ (.slice s'.A0 s'.n0 s'.c0)).setCell ⟨g + 1, 3, none⟩ (.slice s'.A1 s'.n1 s'.c1)).setCell ⟨g + 1, 4, none⟩ (.slice s'.A2 s'.n2 s'.c2)).setCell ⟨g + 1, 5, none⟩ (.slice s'.A3 s'.n3 s'.c3)).setCell ⟨g + 1, 6, none⟩ (.slice D2 zs.length d2'))) := Lib.hid (Fr.far (Fr.far (Fr.far (Fr.far (Fr.far (Fr.far (Fr.far (((HFR7.out.ok HOD8.out).ok HO9.out).ok HO10.out) (q := g + 1) (by have := HG.out; omega) 0 (.int .i64 i)) (q := g + 1) (by have := HG.out; omega) 1 (.int .i64 t)) (q := g + 1) (by have := HG.out; omega) 2 (.slice s'.A0 s'.n0 s'.c0)) (q := g + 1) (by have := HG.out; omega) 3 (.slice s'.A1 s'.n1 s'.c1)) (q := g + 1) (by have := HG.out; omega) 4 (.slice s'.A2 s'.n2 s'.c2)) (q := g + 1) (by have := HG.out; omega) 5 (.slice s'.A3 s'.n3 s'.c3)) (q := g + 1) (by have := HG.out; omega) 6 (.slice D2 zs.length d2'))
      have HC11 : Hid (CfgOwn (((((((w10.setCell ⟨g + 1, 0, none⟩ (.int .i64 i)).setCell ⟨g + 1, 1, none⟩ (.int .i64 t)).setCell ⟨g + 1, 2, none⟩ (.slice s'.A0 s'.n0 s'.c0)).setCell ⟨g + 1, 3, none⟩ (.slice s'.A1 s'.n1 s'.c1)).setCell ⟨g + 1, 4, none⟩ (.slice s'.A2 s'.n2 s'.c2)).setCell ⟨g + 1, 5, none⟩ (.slice s'.A3 s'.n3 s'.c3)).setCell ⟨g + 1, 6, none⟩ (.slice D2 zs.length d2')) w8.heap.size s' cf) := Lib.hid (CfgOwn.set (CfgOwn.set (CfgOwn.set (CfgOwn.set (CfgOwn.set (CfgOwn.set (CfgOwn.set (HC9.out.ok HO10.out) (g + 1) 0 (.int .i64 i) hb8) (g + 1) 1 (.int .i64 t) hb8) (g + 1) 2 (.slice s'.A0 s'.n0 s'.c0) hb8) (g + 1) 3 (.slice s'.A1 s'.n1 s'.c1) hb8) (g + 1) 4 (.slice s'.A2 s'.n2 s'.c2) hb8) (g + 1) 5 (.slice s'.A3 s'.n3 s'.c3) hb8) (g + 1) 6 (.slice D2 zs.length d2') hb8)
      have HN11 : Hid (OwnN (((((((w10.setCell ⟨g + 1, 0, none⟩ (.int .i64 i)).setCell ⟨g + 1, 1, none⟩ (.int .i64 t)).setCell ⟨g + 1, 2, none⟩ (.slice s'.A0 s'.n0 s'.c0)).setCell ⟨g + 1, 3, none⟩ (.slice s'.A1 s'.n1 s'.c1)).setCell ⟨g + 1, 4, none⟩ (.slice s'.A2 s'.n2 s'.c2)).setCell ⟨g + 1, 5, none⟩ (.slice s'.A3 s'.n3 s'.c3)).setCell ⟨g + 1, 6, none⟩ (.slice D2 zs.length d2')) w9.heap.size (.slice D2 zs.length d2') zs) := Lib.hid (OwnN.set (OwnN.set (OwnN.set (OwnN.set (OwnN.set (OwnN.set (OwnN.set (HZ10.out) (g + 1) 0 (.int .i64 i) hb9) (g + 1) 1 (.int .i64 t) hb9) (g + 1) 2 (.slice s'.A0 s'.n0 s'.c0) hb9) (g + 1) 3 (.slice s'.A1 s'.n1 s'.c1) hb9) (g + 1) 4 (.slice s'.A2 s'.n2 s'.c2) hb9) (g + 1) 5 (.slice s'.A3 s'.n3 s'.c3) hb9) (g + 1) 6 (.slice D2 zs.length d2') hb9)
      have HOG : Hid (∀ j, (Value.slice A2 N c2).ownBlock = some j → j < w8.heap.size) := Lib.hid (fun j e => ((HF7.out.ok HOD8.out).ownGe j e).2)
      have HP8 : Hid (p < w8.heap.size) := Lib.hid (HF7.out.ok HOD8.out).lt
      have HB89 : Hid (w8.heap.size ≤ w9.heap.size) := Lib.hid HO9.out.size
      have HW8 : Hid (W.heap.size ≤ w8.heap.size) := Lib.hid (Nat.le_trans HFR7.out.size HOD8.out.size)
      generalize (((((((w10.setCell ⟨g + 1, 0, none⟩ (.int .i64 i)).setCell ⟨g + 1, 1, none⟩ (.int .i64 t)).setCell ⟨g + 1, 2, none⟩ (.slice s'.A0 s'.n0 s'.c0)).setCell ⟨g + 1, 3, none⟩ (.slice s'.A1 s'.n1 s'.c1)).setCell ⟨g + 1, 4, none⟩ (.slice s'.A2 s'.n2 s'.c2)).setCell ⟨g + 1, 5, none⟩ (.slice s'.A3 s'.n3 s'.c3)).setCell ⟨g + 1, 6, none⟩ (.slice D2 zs.length d2')) = w11 at *
      clear HS10 HC9 HZ10
      go_upto_region 14 with fail
      rename_i K10 hK10
      have HK10 := Lib.hid hK10
      clear hK10
      refine wp_region_lit ?_
      refine wpList_step (fun K hK => ?_)
      rw [if_pos (by rfl)]
      go_simp
      refine hK _ _ ?_
      clear hK K
      try go_frame
      refine wpList_step (fun K hK => ?_)
      rw [if_pos (by rfl)]
      go_simp
      (with_reducible refine (drop_f p tm i t (L : Int) true A2 N c2 zs w11 HF11.out).mono ?_)
      rintro _ w12 ⟨rfl, hf12, hr12⟩
      have HF12 := Lib.hid hf12
      have HR12 := Lib.hid hr12
      clear hf12 hr12
      refine hK _ _ ?_
      clear hK K
      try go_frame
      refine wpList_nil ?_
      refine HK10.out _ _ ?_
      clear HK10
      have HS12 := Lib.hid (Seven.fr HS11.out HR12.out HN1.out HN2.out)
      have HC12 := Lib.hid (HC11.out.fr HR12.out HP8.out HOG.out)
      have HN12 := Lib.hid (HN11.out.fr HR12.out (by have := HP8.out; have := HB89.out; omega) (fun j e => by have := HOG.out j e; have := HB89.out; omega))
      go_upto_region 15 with fail
      rename_i K11 hK11
      have HK11 := Lib.hid hK11
      clear hK11
      refine wp_region_held_drew (S := fun w => w.cell? ⟨g + 1, 0, none⟩ = some (.int .i64 i) ∧ w.cell? ⟨g + 1, 1, none⟩ = some (.int .i64 t) ∧ w.cell? ⟨g + 1, 2, none⟩ = some (.slice s'.A0 s'.n0 s'.c0) ∧ w.cell? ⟨g + 1, 3, none⟩ = some (.slice s'.A1 s'.n1 s'.c1) ∧ w.cell? ⟨g + 1, 4, none⟩ = some (.slice s'.A2 s'.n2 s'.c2) ∧ w.cell? ⟨g + 1, 5, none⟩ = some (.slice s'.A3 s'.n3 s'.c3) ∧ w.cell? ⟨g + 1, 6, none⟩ = some (.slice D2 zs.length d2')) (by kernel_rfl) ?_ ?_
      · have k7 := HS12.out.ok ((Ok.refl w12).drew)
        exact ⟨k7.c0, k7.c1, k7.c2, k7.c3, k7.c4, k7.c5, k7.c6⟩
      intro hS
      have HOE : Hid (Ok w12 w12.drew) := Lib.hid ((Ok.refl w12).drew)
      have HSE := Lib.hid (HS12.out.ok HOE.out)
      generalize w12.drew = we at *
      refine wpAnyH_take (i := 0) (v := ?v0u24) rfl (by kernel_rfl) (by kernel_rfl) (by kernel_rfl) (fun _ _ _ h => h) (Or.inl ⟨by rfl, ?hy0u24⟩) hS ?rest0u24
      case hy0u24 => ((intro w hSw; (try dsimp only at hSw)); go_simp; (try with_reducible rfl))
      try go_frame
      refine wpAnyH_take (i := 1) (v := ?v1u25) rfl (by kernel_rfl) (by kernel_rfl) (by kernel_rfl) (fun _ _ _ h => h) (Or.inl ⟨by rfl, ?hy1u25⟩) hS ?rest1u25
      case hy1u25 => ((intro w hSw; (try dsimp only at hSw)); go_simp; (try with_reducible rfl))
      try go_frame
      refine wpAnyH_take (i := 2) (v := ?v2u26) rfl (by kernel_rfl) (by kernel_rfl) (by kernel_rfl) (fun _ _ _ h => h) (Or.inl ⟨by rfl, ?hy2u26⟩) hS ?rest2u26
      case hy2u26 => ((intro w hSw; (try dsimp only at hSw)); go_simp; (try with_reducible rfl))
      try go_frame
      refine wpAnyH_take (i := 3) (v := ?v3u27) rfl (by kernel_rfl) (by kernel_rfl) (by kernel_rfl) (fun _ _ _ h => h) (Or.inl ⟨by rfl, ?hy3u27⟩) hS ?rest3u27
      case hy3u27 => ((intro w hSw; (try dsimp only at hSw)); go_simp; (try with_reducible rfl))
      try go_frame
      refine wpAnyH_take (i := 4) (v := ?v4u28) rfl (by kernel_rfl) (by kernel_rfl) (by kernel_rfl) (fun _ _ _ h => h) (Or.inl ⟨by rfl, ?hy4u28⟩) hS ?rest4u28
      case hy4u28 => ((intro w hSw; (try dsimp only at hSw)); go_simp; (try with_reducible rfl))
      try go_frame
      clear hS
      have z0 := HSE.out.c0
      have z1 := HSE.out.c1
      have z2 := HSE.out.c2
      have z3 := HSE.out.c3
      have z4 := HSE.out.c4
      have z5 := HSE.out.c5
      have z6 := HSE.out.c6
      have y0 := HSE.out.f 0
      have y1 := HSE.out.f 1
      have y2 := HSE.out.f 2
      have y3 := HSE.out.f 3
      have y4 := HSE.out.f 4
      have y5 := HSE.out.f 5
      have y6 := HSE.out.f 6
      refine wpAnyH_ready (rs := [5]) (by kernel_rfl) (by simp) (AllReadyH.cons rfl (fun K hK => ?_) AllReadyH.nil)
      have HK := Lib.hid hK
      clear hK
      go_simp
      have HSP := Lib.hid (Seven.put (.int .i64 i) (.int .i64 t) (.slice s'.A0 s'.n0 s'.c0) (.slice s'.A1 s'.n1 s'.c1) (.slice s'.A2 s'.n2 s'.c2) (.slice s'.A3 s'.n3 s'.c3) (.slice D2 zs.length d2') HSE.out)
      refine HK.out.out _ _ ⟨HSP.out.c0, HSP.out.c1, HSP.out.c2, HSP.out.c3, HSP.out.c4, HSP.out.c5, HSP.out.c6⟩ (fun hJ => ?_)
      clear hJ
      clear HK K
      try go_frame
      refine wpAnyH_done (by kernel_rfl) ?_ _
      refine HK11.out _ _ ?_
      clear HK11
      go_wp2_with fail
      refine bodyPost_ret (v := .tuple #[.int .i64 (N : Int), .bool true, .agg #[.int .i64 i, .int .i64 t, .slice s'.A0 s'.n0 s'.c0, .slice s'.A1 s'.n1 s'.c1, .slice s'.A2 s'.n2 s'.c2, .slice s'.A3 s'.n3 s'.c3, .slice D2 zs.length d2']]) (by simp [results, Try.results77, go_sem, z0, z1, z2, z3, z4, z5, z6]; try rfl) rfl ?_
      clear z0 z1 z2 z3 z4 z5 z6 y0 y1 y2 y3 y4 y5 y6
      rw [HLAID.out]
      refine .inr ⟨by rw [HZL.out]; exact HNL.out, ⟨s', D2, d2', by rw [HZL.out], ?_, ?_⟩, ?_, ?_⟩
      · refine CfgOwn.lower (base := w8.heap.size) ?_ HW8.out
        (repeat (refine CfgOwn.set ?_ (g + 1) _ _ hb8)); exact HC12.out.ok HOE.out
      · refine OwnN.lower (b := w9.heap.size) ?_ (Nat.le_trans HW8.out HB89.out)
        (repeat (refine OwnN.set ?_ (g + 1) _ _ hb9)); exact HN12.out.okk HOE.out
      · (repeat (refine FAt.far ?_ (g + 1) _ _ HN1.out (fun e => by cases e))); exact HF12.out.ok HOE.out
      · (repeat (refine Fr.far ?_ (q := g + 1) (by have := HG.out; omega) _ _)); exact (Fr.trans HR11.out HR12.out HOWN2.out).ok HOE.out
    · have HNL := Lib.hid hNL
      clear hNL
      go_upto_region 11 with fail
      rename_i K7 hK7
      have HK7 := Lib.hid hK7
      clear hK7
      refine wp_region_lit ?_
      have hf5 := HFF.out.c5
      have hf0 := HFF.out.c0
      have hf1 := HFF.out.c1
      have hf2 := HFF.out.c2
      have hf3 := HFF.out.c3
      have hf4 := HFF.out.c4
      refine wpList_step (fun K hK => ?_)
      rw [if_pos (by rfl)]
      go_simp
      refine hK _ _ ?_
      clear hK K
      try go_frame
      refine wpList_step (fun K hK => ?_)
      rw [if_pos (by rfl)]
      go_simp
      refine hK _ _ ?_
      clear hK K
      try go_frame
      refine wpList_step (fun K hK => ?_)
      rw [if_pos (by rfl)]
      go_simp
      refine hK _ _ ?_
      clear hK K
      try go_frame
      refine wpList_step (fun K hK => ?_)
      rw [if_pos (by rfl)]
      go_simp
      refine hK _ _ ?_
      clear hK K
      try go_frame
      refine wpList_step (fun K hK => ?_)
      rw [if_pos (by rfl)]
      go_simp
      refine hK _ _ ?_
      clear hK K
      try go_frame
      refine wpList_step (fun K hK => ?_)
      rw [if_pos (by rfl)]
      go_simp
      refine hK _ _ ?_
      clear hK K
      try go_frame
      refine wpList_nil ?_
      refine HK7.out _ _ ?_
      clear HK7
      go_upto_region 12 with fail
      rename_i K8 hK8
      have HK8 := Lib.hid hK8
      clear hK8
      refine wp_region_lit ?_
      refine wpList_step (fun K hK => ?_)
      rw [if_pos (by rfl)]
      go_simp
      refine hK _ _ ?_
      clear hK K
      try go_frame
      refine wpList_step (fun K hK => ?_)
      rw [if_pos (by rfl)]
      go_simp
      refine hK _ _ ?_
      clear hK K
      try go_frame
      refine wpList_step (fun K hK => ?_)
      rw [if_pos (by rfl)]
      go_simp
      refine hK _ _ ?_
      clear hK K
      try go_frame
      refine wpList_step (fun K hK => ?_)
      rw [if_pos (by rfl)]
      go_simp
      refine hK _ _ ?_
      clear hK K
      try go_frame
      refine wpList_step (fun K hK => ?_)
      rw [if_pos (by rfl)]
      go_simp
      refine hK _ _ ?_
      clear hK K
      try go_frame
      refine wpList_step (fun K hK => ?_)
      rw [if_pos (by rfl)]
      go_simp
      (with_reducible refine (whole_n tm i t L N w6 HNL.out).mono ?_)
      rintro _ w7 ⟨rfl, o7⟩
      have HO7 := Lib.hid o7
      clear o7
      refine hK _ _ ?_
      clear hK K
      try go_frame
      refine wpList_nil ?_
      refine HK8.out _ _ ?_
      clear HK8
      clear hf0 hf1 hf2 hf3 hf4 hf5
      have HS7 : Hid (Seven (g + 1) (.int .i64 0) (.int .i64 0) (.slice none 0 0) (.slice none 0 0) (.slice none 0 0) (.slice none 0 0) (.slice none 0 0) w7) := Lib.hid ((Seven.fr HS6.out HFR.out (by have := HPL.out; omega) (fun e => by have := HOBQ.out _ e; omega)).ok HO7.out)
      have HF7 := Lib.hid (HFF.out.ok HO7.out)
      have HFR7 : Hid (Fr p A n c W w7) := Lib.hid ((Fr.trans HFR6.out HFR.out HOQ.out).ok HO7.out)
      have hn1 : g + 1 ≠ p := by have := HPL.out; omega
      have hn2 : (Value.slice A2 N c2).ownBlock ≠ some (g + 1) := fun e => by have := HOBQ.out _ (HOWN.out _ (by have := HSZ6.out; omega) e); omega
      have hown : ∀ j, j < W.heap.size → (Value.slice A2 N c2).ownBlock = some j → (Value.slice A n c).ownBlock = some j := fun j hj e => HOQ.out j hj (HOWN.out j (by have := HSZ6.out; have := HG.out; omega) e)
      have HN1 := Lib.hid hn1
      have HN2 := Lib.hid hn2
      have HOWN2 := Lib.hid hown
      clear hn1 hn2 hown
      go_upto_region 15 with fail
      rename_i K9 hK9
      have HK9 := Lib.hid hK9
      clear hK9
      refine wp_region_held_drew (S := fun w => w.cell? ⟨g + 1, 0, none⟩ = some (.int .i64 0) ∧ w.cell? ⟨g + 1, 1, none⟩ = some (.int .i64 0) ∧ w.cell? ⟨g + 1, 2, none⟩ = some (.slice none 0 0) ∧ w.cell? ⟨g + 1, 3, none⟩ = some (.slice none 0 0) ∧ w.cell? ⟨g + 1, 4, none⟩ = some (.slice none 0 0) ∧ w.cell? ⟨g + 1, 5, none⟩ = some (.slice none 0 0) ∧ w.cell? ⟨g + 1, 6, none⟩ = some (.slice none 0 0)) (by kernel_rfl) ?_ ?_
      · have k7 := HS7.out.ok ((Ok.refl w7).drew)
        exact ⟨k7.c0, k7.c1, k7.c2, k7.c3, k7.c4, k7.c5, k7.c6⟩
      intro hS
      have HOE : Hid (Ok w7 w7.drew) := Lib.hid ((Ok.refl w7).drew)
      have HSE := Lib.hid (HS7.out.ok HOE.out)
      generalize w7.drew = we at *
      refine wpAnyH_take (i := 0) (v := ?v0u29) rfl (by kernel_rfl) (by kernel_rfl) (by kernel_rfl) (fun _ _ _ h => h) (Or.inl ⟨by rfl, ?hy0u29⟩) hS ?rest0u29
      case hy0u29 => ((intro w hSw; (try dsimp only at hSw)); go_simp; (try with_reducible rfl))
      try go_frame
      refine wpAnyH_take (i := 1) (v := ?v1u30) rfl (by kernel_rfl) (by kernel_rfl) (by kernel_rfl) (fun _ _ _ h => h) (Or.inl ⟨by rfl, ?hy1u30⟩) hS ?rest1u30
      case hy1u30 => ((intro w hSw; (try dsimp only at hSw)); go_simp; (try with_reducible rfl))
      try go_frame
      refine wpAnyH_take (i := 2) (v := ?v2u31) rfl (by kernel_rfl) (by kernel_rfl) (by kernel_rfl) (fun _ _ _ h => h) (Or.inl ⟨by rfl, ?hy2u31⟩) hS ?rest2u31
      case hy2u31 => ((intro w hSw; (try dsimp only at hSw)); go_simp; (try with_reducible rfl))
      try go_frame
      refine wpAnyH_take (i := 3) (v := ?v3u32) rfl (by kernel_rfl) (by kernel_rfl) (by kernel_rfl) (fun _ _ _ h => h) (Or.inl ⟨by rfl, ?hy3u32⟩) hS ?rest3u32
      case hy3u32 => ((intro w hSw; (try dsimp only at hSw)); go_simp; (try with_reducible rfl))
      try go_frame
      refine wpAnyH_take (i := 4) (v := ?v4u33) rfl (by kernel_rfl) (by kernel_rfl) (by kernel_rfl) (fun _ _ _ h => h) (Or.inl ⟨by rfl, ?hy4u33⟩) hS ?rest4u33
      case hy4u33 => ((intro w hSw; (try dsimp only at hSw)); go_simp; (try with_reducible rfl))
      try go_frame
      clear hS
      have z0 := HSE.out.c0
      have z1 := HSE.out.c1
      have z2 := HSE.out.c2
      have z3 := HSE.out.c3
      have z4 := HSE.out.c4
      have z5 := HSE.out.c5
      have z6 := HSE.out.c6
      have y0 := HSE.out.f 0
      have y1 := HSE.out.f 1
      have y2 := HSE.out.f 2
      have y3 := HSE.out.f 3
      have y4 := HSE.out.f 4
      have y5 := HSE.out.f 5
      have y6 := HSE.out.f 6
      refine wpAnyH_ready (rs := [5]) (by kernel_rfl) (by simp) (AllReadyH.cons rfl (fun K hK => ?_) AllReadyH.nil)
      have HK := Lib.hid hK
      clear hK
      go_simp
      have HSP := Lib.hid (Seven.put (.int .i64 0) (.int .i64 0) (.slice none 0 0) (.slice none 0 0) (.slice none 0 0) (.slice none 0 0) (.slice none 0 0) HSE.out)
      refine HK.out.out _ _ ⟨HSP.out.c0, HSP.out.c1, HSP.out.c2, HSP.out.c3, HSP.out.c4, HSP.out.c5, HSP.out.c6⟩ (fun hJ => ?_)
      clear hJ
      clear HK K
      try go_frame
      refine wpAnyH_done (by kernel_rfl) ?_ _
      refine HK9.out _ _ ?_
      clear HK9
      go_wp2_with fail
      refine bodyPost_ret (v := .tuple #[.int .i64 (N : Int), .bool false, .agg #[.int .i64 0, .int .i64 0, .slice none 0 0, .slice none 0 0, .slice none 0 0, .slice none 0 0, .slice none 0 0]]) (by simp [results, Try.results77, go_sem, z0, z1, z2, z3, z4, z5, z6]; try rfl) rfl ?_
      clear z0 z1 z2 z3 z4 z5 z6 y0 y1 y2 y3 y4 y5 y6
      rw [HLAID.out]
      refine .inl ⟨by rw [HZL.out]; exact HNL.out, by rw [HZL.out], ⟨A2, c2, ?_, ?_⟩, ?_⟩
      · rw [HZL.out]
        (repeat (refine FAt.far ?_ (g + 1) _ _ HN1.out HN2.out)); exact HF7.out.ok HOE.out
      · rw [HZL.out]; exact HOWN2.out
      · (repeat (refine Fr.far ?_ (q := g + 1) (by have := HG.out; omega) _ _)); exact HFR7.out.ok HOE.out
  · have dm : decide (k < m) = false := decide_eq_false hlt
    refine wpList_step (fun K hK => ?_)
    rw [if_pos (by rfl)]
    go_simp
    refine hK _ _ ?_
    clear hK K
    try go_frame
    refine wpList_step (fun K hK => ?_)
    rw [if_pos (by rfl)]
    go_simp
    refine hK _ _ ?_
    clear hK K
    try go_frame
    refine wpList_step (fun K hK => ?_)
    rw [if_pos (by rfl)]
    go_simp
    refine hK _ _ ?_
    clear hK K
    try go_frame
    refine wpList_step (fun K hK => ?_)
    rw [if_pos (by rfl)]
    go_simp
    refine hK _ _ ?_
    clear hK K
    try go_frame
    refine wpList_step (fun K hK => ?_)
    rw [if_pos (by rfl)]
    go_simp
    refine hK _ _ ?_
    clear hK K
    try go_frame
    refine wpList_step (fun K hK => ?_)
    rw [if_pos (by rfl)]
    go_simp
    refine hK _ _ ?_
    clear hK K
    try go_frame
    refine wpList_nil ?_
    refine HK5.out _ _ ?_
    clear HK5
    have HLAID : Hid (laid xZ ys a = xZ) := Lib.hid (by have := HL0.out; have := HK.out; have := HM.out; unfold laid; rw [if_neg (by omega)])
    obtain ⟨N, hN⟩ : ∃ N, nZ = N := ⟨_, rfl⟩
    obtain ⟨w6, hw6⟩ : ∃ w6, w5 = w6 := ⟨_, rfl⟩
    have HFF : Hid (FAt p tm i t (L : Int) true AZ N cZ xZ w6) := Lib.hid (by rw [← hN, ← hw6]; exact HF6.out)
    have HOWN : Hid (∀ j, j < w5.heap.size → (Value.slice AZ N cZ).ownBlock = some j → (Value.slice AZ nZ cZ).ownBlock = some j) := Lib.hid (by rw [hN]; exact fun _ _ e => e)
    have HFR : Hid (Fr p AZ nZ cZ w5 w6) := Lib.hid (by rw [← hw6]; exact Fr.refl _ _ _ _ _)
    have HZL : Hid (xZ.length = N) := Lib.hid (by rw [← hN]; exact HL0.out)
    have hNb : N ≤ 300000 := by omega
    have HFE : Hid (w5 = w6) := Lib.hid hw6
    rw [hw6]
    clear hw6 hN hx19 hw8 dm
    by_cases hNL : N = L
    · have HNL := Lib.hid hNL
      clear hNL
      go_upto_region 11 with fail
      rename_i K7 hK7
      have HK7 := Lib.hid hK7
      clear hK7
      refine wp_region_lit ?_
      have hf5 := HFF.out.c5
      have hf0 := HFF.out.c0
      have hf1 := HFF.out.c1
      have hf2 := HFF.out.c2
      have hf3 := HFF.out.c3
      have hf4 := HFF.out.c4
      refine wpList_step (fun K hK => ?_)
      rw [if_pos (by rfl)]
      go_simp
      refine hK _ _ ?_
      clear hK K
      try go_frame
      refine wpList_step (fun K hK => ?_)
      rw [if_pos (by rfl)]
      go_simp
      refine hK _ _ ?_
      clear hK K
      try go_frame
      refine wpList_step (fun K hK => ?_)
      rw [if_pos (by rfl)]
      go_simp
      refine hK _ _ ?_
      clear hK K
      try go_frame
      refine wpList_step (fun K hK => ?_)
      rw [if_pos (by rfl)]
      go_simp
      refine hK _ _ ?_
      clear hK K
      try go_frame
      refine wpList_step (fun K hK => ?_)
      rw [if_pos (by rfl)]
      go_simp
      refine hK _ _ ?_
      clear hK K
      try go_frame
      refine wpList_step (fun K hK => ?_)
      rw [if_pos (by rfl)]
      go_simp
      refine hK _ _ ?_
      clear hK K
      try go_frame
      refine wpList_nil ?_
      refine HK7.out _ _ ?_
      clear HK7
      go_upto_region 12 with fail
      rename_i K8 hK8
      have HK8 := Lib.hid hK8
      clear hK8
      refine wp_region_lit ?_
      refine wpList_step (fun K hK => ?_)
      rw [if_pos (by rfl)]
      go_simp
      refine hK _ _ ?_
      clear hK K
      try go_frame
      refine wpList_step (fun K hK => ?_)
      rw [if_pos (by rfl)]
      go_simp
      refine hK _ _ ?_
      clear hK K
      try go_frame
      refine wpList_step (fun K hK => ?_)
      rw [if_pos (by rfl)]
      go_simp
      refine hK _ _ ?_
      clear hK K
      try go_frame
      refine wpList_step (fun K hK => ?_)
      rw [if_pos (by rfl)]
      go_simp
      refine hK _ _ ?_
      clear hK K
      try go_frame
      refine wpList_step (fun K hK => ?_)
      rw [if_pos (by rfl)]
      go_simp
      refine hK _ _ ?_
      clear hK K
      try go_frame
      refine wpList_step (fun K hK => ?_)
      rw [if_pos (by rfl)]
      go_simp
      (with_reducible refine (whole_y tm i t L N w6 HNL.out).mono ?_)
      rintro _ w7 ⟨rfl, o7⟩
      have HO7 := Lib.hid o7
      clear o7
      refine hK _ _ ?_
      clear hK K
      try go_frame
      refine wpList_nil ?_
      refine HK8.out _ _ ?_
      clear HK8
      clear hf0 hf1 hf2 hf3 hf4 hf5
      have HS7 : Hid (Seven (g + 1) (.int .i64 0) (.int .i64 0) (.slice none 0 0) (.slice none 0 0) (.slice none 0 0) (.slice none 0 0) (.slice none 0 0) w7) := Lib.hid ((Seven.fr HS6.out HFR.out (by have := HPL.out; omega) (fun e => by have := HOBQ.out _ e; omega)).ok HO7.out)
      have HF7 := Lib.hid (HFF.out.ok HO7.out)
      have HFR7 : Hid (Fr p A n c W w7) := Lib.hid ((Fr.trans HFR6.out HFR.out HOQ.out).ok HO7.out)
      have hn1 : g + 1 ≠ p := by have := HPL.out; omega
      have hn2 : (Value.slice AZ N cZ).ownBlock ≠ some (g + 1) := fun e => by have := HOBQ.out _ (HOWN.out _ (by have := HSZ6.out; omega) e); omega
      have hown : ∀ j, j < W.heap.size → (Value.slice AZ N cZ).ownBlock = some j → (Value.slice A n c).ownBlock = some j := fun j hj e => HOQ.out j hj (HOWN.out j (by have := HSZ6.out; have := HG.out; omega) e)
      have HN1 := Lib.hid hn1
      have HN2 := Lib.hid hn2
      have HOWN2 := Lib.hid hown
      clear hn1 hn2 hown
      have HRX7 : Hid (w7.rangeAt g 0 [.int .u8 5, .int .i64 x.group, .int .i64 x.from_, .int .i64 x.to_, .int .i64 tm, .int .i64 x.index, .int .i64 x.logterm, .int .i64 x.commit, .bool x.ok, .slice r.eA x.es.length r.ec, .int .i64 i, .int .i64 t, .slice s.A0 s.n0 s.c0, .slice s.A1 s.n1 s.c1, .slice s.A2 s.n2 s.c2, .slice s.A3 s.n3 s.c3, .int .i64 (L : Int), .int .i64 (a : Int), .int .i64 x.tag, .slice B m d]) := Lib.hid (fun j v hv => HO7.out.cell (Fr.range HRX6.out HFR.out (by have := HPL.out; omega) (fun e => by have := HOBQ.out _ e; omega) j v hv))
      go_upto_region 13 with fail
      rename_i K9 hK9
      have HK9 := Lib.hid hK9
      clear hK9
      refine wp_region_held_drew (S := fun w => (w.cell? ⟨g, 10, none⟩ = some (.int .i64 i) ∧ w.cell? ⟨g, 11, none⟩ = some (.int .i64 t) ∧ w.cell? ⟨g, 12, none⟩ = some (.slice s.A0 s.n0 s.c0) ∧ w.cell? ⟨g, 13, none⟩ = some (.slice s.A1 s.n1 s.c1) ∧ w.cell? ⟨g, 14, none⟩ = some (.slice s.A2 s.n2 s.c2) ∧ w.cell? ⟨g, 15, none⟩ = some (.slice s.A3 s.n3 s.c3)) ∧ w.cell? ⟨p, 5, none⟩ = some (.slice AZ N cZ)) (by kernel_rfl) ?_ ?_
      · have r : ∀ j v, [.int .u8 5, .int .i64 x.group, .int .i64 x.from_, .int .i64 x.to_, .int .i64 tm, .int .i64 x.index, .int .i64 x.logterm, .int .i64 x.commit, .bool x.ok, .slice r.eA x.es.length r.ec, .int .i64 i, .int .i64 t, .slice s.A0 s.n0 s.c0, .slice s.A1 s.n1 s.c1, .slice s.A2 s.n2 s.c2, .slice s.A3 s.n3 s.c3, .int .i64 (L : Int), .int .i64 (a : Int), .int .i64 x.tag, .slice B m d][j]? = some v → w7.drew.cell? ⟨g, j, none⟩ = some v := fun j v hv => ((Ok.refl w7).drew).cell (by have := HRX7.out j v hv; rwa [Nat.zero_add] at this)
        exact ⟨⟨r 10 _ rfl, r 11 _ rfl, r 12 _ rfl, r 13 _ rfl, r 14 _ rfl, r 15 _ rfl⟩, ((Ok.refl w7).drew).cell HF7.out.c5⟩
      intro hS
      have HOD8 : Hid (Ok w7 w7.drew) := Lib.hid ((Ok.refl w7).drew)
      generalize w7.drew = w8 at *
      refine wpAnyH_take (i := 0) (v := ?v0u34) rfl (by kernel_rfl) (by kernel_rfl) (by kernel_rfl) (fun _ _ _ h => h) (Or.inl ⟨by rfl, ?hy0u34⟩) hS ?rest0u34
      case hy0u34 => ((intro w hSw; (try dsimp only at hSw)); go_simp; (try with_reducible rfl))
      try go_frame
      refine wpAnyH_take (i := 1) (v := ?v1u35) rfl (by kernel_rfl) (by kernel_rfl) (by kernel_rfl) (fun _ _ _ h => h) (Or.inl ⟨by rfl, ?hy1u35⟩) hS ?rest1u35
      case hy1u35 => ((intro w hSw; (try dsimp only at hSw)); go_simp; (try with_reducible rfl))
      try go_frame
      refine wpAnyH_take (i := 3) (v := ?v3u36) rfl (by kernel_rfl) (by kernel_rfl) (by kernel_rfl) (fun _ _ _ h => h) (Or.inl ⟨by rfl, ?hy3u36⟩) hS ?rest3u36
      case hy3u36 => ((intro w hSw; (try dsimp only at hSw)); go_simp; (try with_reducible rfl))
      try go_frame
      refine wpAnyH_take (i := 4) (v := ?v4u37) rfl (by kernel_rfl) (by kernel_rfl) (by kernel_rfl) (fun _ _ _ h => h) (Or.inl ⟨by rfl, ?hy4u37⟩) hS ?rest4u37
      case hy4u37 => ((intro w hSw; (try dsimp only at hSw)); go_simp; (try with_reducible rfl))
      try go_frame
      refine wpAnyH_take (i := 5) (v := ?v5u38) rfl (by kernel_rfl) (by kernel_rfl) (by kernel_rfl) (fun _ _ _ h => h) (Or.inl ⟨by rfl, ?hy5u38⟩) hS ?rest5u38
      case hy5u38 => ((intro w hSw; (try dsimp only at hSw)); go_simp; (try with_reducible rfl))
      try go_frame
      refine wpAnyH_take (i := 6) (v := ?v6u39) rfl (by kernel_rfl) (by kernel_rfl) (by kernel_rfl) (fun _ _ _ h => h) (Or.inl ⟨by rfl, ?hy6u39⟩) hS ?rest6u39
      case hy6u39 => ((intro w hSw; (try dsimp only at hSw)); go_simp; (try with_reducible rfl))
      try go_frame
      refine wpAnyH_ready (rs := [2]) (by kernel_rfl) (by simp) (AllReadyH.cons rfl (fun K hK => ?_) AllReadyH.nil)
      have HK := Lib.hid hK
      clear hK
      go_simp
      refine (copyBase_f i t s cf _ (HXX.out _ (HFR7.out.ok HOD8.out)).1 l0 l1 l2 l3).mono ?_
      rintro _ w9 ⟨s', rfl, hcf, ok⟩
      have HC9 := Lib.hid hcf
      have HO9 := Lib.hid ok
      have HSN : Hid ((_ ∧ _ ∧ _ ∧ _ ∧ _ ∧ _) ∧ _) := Lib.hid ⟨⟨ok.cell hS.1.1, ok.cell hS.1.2.1, ok.cell hS.1.2.2.1, ok.cell hS.1.2.2.2.1, ok.cell hS.1.2.2.2.2.1, ok.cell hS.1.2.2.2.2.2⟩, ok.cell hS.2⟩
      clear ok hS hcf
      refine HK.out.out _ _ HSN.out (fun hJ => ?_)
      clear hJ
      have hS := HSN.out
      clear HSN
      clear HK K
      try go_frame
      refine wpAnyH_ready (rs := [7]) (by kernel_rfl) (by simp) (AllReadyH.cons rfl (fun K hK => ?_) AllReadyH.nil)
      have HK := Lib.hid hK
      clear hK
      go_simp
      refine (cloneB_f _ xZ _ (((HF7.out.ok HOD8.out).ok HO9.out).own.bytes (by have := HZL.out; omega)) (by have := HZL.out; omega)).mono ?_
      rintro _ w10 ⟨⟨D2, d2', rfl, hz⟩, ok⟩
      have HZ10 := Lib.hid hz
      have HO10 := Lib.hid ok
      have HSN : Hid ((_ ∧ _ ∧ _ ∧ _ ∧ _ ∧ _) ∧ _) := Lib.hid ⟨⟨ok.cell hS.1.1, ok.cell hS.1.2.1, ok.cell hS.1.2.2.1, ok.cell hS.1.2.2.2.1, ok.cell hS.1.2.2.2.2.1, ok.cell hS.1.2.2.2.2.2⟩, ok.cell hS.2⟩
      clear ok hS hz
      refine HK.out.out _ _ HSN.out (fun hJ => ?_)
      clear hJ
      have hS := HSN.out
      clear HSN
      clear HK K
      try go_frame
      refine wpAnyH_take (i := 8) (v := ?v8u40) rfl (by kernel_rfl) (by kernel_rfl) (by kernel_rfl) (fun _ _ _ h => h) (Or.inl ⟨by rfl, ?hy8u40⟩) hS ?rest8u40
      case hy8u40 => ((intro w hSw; (try dsimp only at hSw)); go_simp; (try with_reducible rfl))
      try go_frame
      refine wpAnyH_take (i := 9) (v := ?v9u41) rfl (by kernel_rfl) (by kernel_rfl) (by kernel_rfl) (fun _ _ _ h => h) (Or.inl ⟨by rfl, ?hy9u41⟩) hS ?rest9u41
      case hy9u41 => ((intro w hSw; (try dsimp only at hSw)); go_simp; (try with_reducible rfl))
      try go_frame
      have HS10 := Lib.hid (((HS7.out.ok HOD8.out).ok HO9.out).ok HO10.out)
      have HSS := Lib.hid hS
      clear hS
      have z0 := HS10.out.c0
      have z1 := HS10.out.c1
      have z2 := HS10.out.c2
      have z3 := HS10.out.c3
      have z4 := HS10.out.c4
      have z5 := HS10.out.c5
      have z6 := HS10.out.c6
      have y0 := HS10.out.f 0
      have y1 := HS10.out.f 1
      have y2 := HS10.out.f 2
      have y3 := HS10.out.f 3
      have y4 := HS10.out.f 4
      have y5 := HS10.out.f 5
      have y6 := HS10.out.f 6
      refine wpAnyH_ready (rs := [10]) (by kernel_rfl) (by simp) (AllReadyH.cons rfl (fun K hK => ?_) AllReadyH.nil)
      have HK := Lib.hid hK
      clear hK
      go_simp
      have HS11 := Lib.hid (Seven.put (.int .i64 i) (.int .i64 t) (.slice s'.A0 s'.n0 s'.c0) (.slice s'.A1 s'.n1 s'.c1) (.slice s'.A2 s'.n2 s'.c2) (.slice s'.A3 s'.n3 s'.c3) (.slice D2 xZ.length d2') HS10.out)
      have HW11 : Hid (∀ b o u, b ≠ g + 1 → w10.cell? ⟨b, o, none⟩ = some u → _) := Lib.hid (fun b o u hb hc => seven_far (g := g + 1) (b := b) hb (.int .i64 i) (.int .i64 t) (.slice s'.A0 s'.n0 s'.c0) (.slice s'.A1 s'.n1 s'.c1) (.slice s'.A2 s'.n2 s'.c2) (.slice s'.A3 s'.n3 s'.c3) (.slice D2 xZ.length d2') hc)
      refine HK.out.out _ _ ⟨⟨HW11.out _ _ _ (by omega) HSS.out.1.1, HW11.out _ _ _ (by omega) HSS.out.1.2.1, HW11.out _ _ _ (by omega) HSS.out.1.2.2.1, HW11.out _ _ _ (by omega) HSS.out.1.2.2.2.1, HW11.out _ _ _ (by omega) HSS.out.1.2.2.2.2.1, HW11.out _ _ _ (by omega) HSS.out.1.2.2.2.2.2⟩, HW11.out _ _ _ (fun e => HN1.out e.symm) HSS.out.2⟩ (fun hJ => ?_)
      clear hJ
      clear HK K
      try go_frame
      refine wpAnyH_done (by kernel_rfl) ?_ _
      refine HK9.out _ _ ?_
      clear HK9 HSS HW11
      clear z0 z1 z2 z3 z4 z5 z6 y0 y1 y2 y3 y4 y5 y6
      have hb8 : g + 1 < w8.heap.size := by have := HSZ6.out; have := HFR.out.size; have := HO7.out.size; have := HOD8.out.size; omega
      have hb9 : g + 1 < w9.heap.size := by have := HO9.out.size; omega
      have HF11 : Hid (FAt p tm i t (L : Int) true AZ N cZ xZ (((((((w10.setCell ⟨g + 1, 0, none⟩ (.int .i64 i)).setCell ⟨g + 1, 1, none⟩ (.int .i64 t)).setCell ⟨g + 1, 2, none⟩ (.slice s'.A0 s'.n0 s'.c0)).setCell ⟨g + 1, 3, none⟩ (.slice s'.A1 s'.n1 s'.c1)).setCell ⟨g + 1, 4, none⟩ (.slice s'.A2 s'.n2 s'.c2)).setCell ⟨g + 1, 5, none⟩ (.slice s'.A3 s'.n3 s'.c3)).setCell ⟨g + 1, 6, none⟩ (.slice D2 xZ.length d2'))) := Lib.hid (FAt.far (FAt.far (FAt.far (FAt.far (FAt.far (FAt.far (FAt.far (((HF7.out.ok HOD8.out).ok HO9.out).ok HO10.out) (g + 1) 0 (.int .i64 i) HN1.out HN2.out) (g + 1) 1 (.int .i64 t) HN1.out HN2.out) (g + 1) 2 (.slice s'.A0 s'.n0 s'.c0) HN1.out HN2.out) (g + 1) 3 (.slice s'.A1 s'.n1 s'.c1) HN1.out HN2.out) (g + 1) 4 (.slice s'.A2 s'.n2 s'.c2) HN1.out HN2.out) (g + 1) 5 (.slice s'.A3 s'.n3 s'.c3) HN1.out HN2.out) (g + 1) 6 (.slice D2 xZ.length d2') HN1.out HN2.out)
      have HR11 : Hid (Fr p A n c W (((((((w10.setCell ⟨g + 1, 0, none⟩ (.int .i64 i)).setCell ⟨g + 1, 1, none⟩ (.int .i64 t)).setCell ⟨g + 1, 2, none⟩ (.slice s'.A0 s'.n0 s'.c0)).setCell ⟨g + 1, 3, none⟩ (.slice s'.A1 s'.n1 s'.c1)).setCell ⟨g + 1, 4, none⟩ (.slice s'.A2 s'.n2 s'.c2)).setCell ⟨g + 1, 5, none⟩ (.slice s'.A3 s'.n3 s'.c3)).setCell ⟨g + 1, 6, none⟩ (.slice D2 xZ.length d2'))) := Lib.hid (Fr.far (Fr.far (Fr.far (Fr.far (Fr.far (Fr.far (Fr.far (((HFR7.out.ok HOD8.out).ok HO9.out).ok HO10.out) (q := g + 1) (by have := HG.out; omega) 0 (.int .i64 i)) (q := g + 1) (by have := HG.out; omega) 1 (.int .i64 t)) (q := g + 1) (by have := HG.out; omega) 2 (.slice s'.A0 s'.n0 s'.c0)) (q := g + 1) (by have := HG.out; omega) 3 (.slice s'.A1 s'.n1 s'.c1)) (q := g + 1) (by have := HG.out; omega) 4 (.slice s'.A2 s'.n2 s'.c2)) (q := g + 1) (by have := HG.out; omega) 5 (.slice s'.A3 s'.n3 s'.c3)) (q := g + 1) (by have := HG.out; omega) 6 (.slice D2 xZ.length d2'))
      have HC11 : Hid (CfgOwn (((((((w10.setCell ⟨g + 1, 0, none⟩ (.int .i64 i)).setCell ⟨g + 1, 1, none⟩ (.int .i64 t)).setCell ⟨g + 1, 2, none⟩ (.slice s'.A0 s'.n0 s'.c0)).setCell ⟨g + 1, 3, none⟩ (.slice s'.A1 s'.n1 s'.c1)).setCell ⟨g + 1, 4, none⟩ (.slice s'.A2 s'.n2 s'.c2)).setCell ⟨g + 1, 5, none⟩ (.slice s'.A3 s'.n3 s'.c3)).setCell ⟨g + 1, 6, none⟩ (.slice D2 xZ.length d2')) w8.heap.size s' cf) := Lib.hid (CfgOwn.set (CfgOwn.set (CfgOwn.set (CfgOwn.set (CfgOwn.set (CfgOwn.set (CfgOwn.set (HC9.out.ok HO10.out) (g + 1) 0 (.int .i64 i) hb8) (g + 1) 1 (.int .i64 t) hb8) (g + 1) 2 (.slice s'.A0 s'.n0 s'.c0) hb8) (g + 1) 3 (.slice s'.A1 s'.n1 s'.c1) hb8) (g + 1) 4 (.slice s'.A2 s'.n2 s'.c2) hb8) (g + 1) 5 (.slice s'.A3 s'.n3 s'.c3) hb8) (g + 1) 6 (.slice D2 xZ.length d2') hb8)
      have HN11 : Hid (OwnN (((((((w10.setCell ⟨g + 1, 0, none⟩ (.int .i64 i)).setCell ⟨g + 1, 1, none⟩ (.int .i64 t)).setCell ⟨g + 1, 2, none⟩ (.slice s'.A0 s'.n0 s'.c0)).setCell ⟨g + 1, 3, none⟩ (.slice s'.A1 s'.n1 s'.c1)).setCell ⟨g + 1, 4, none⟩ (.slice s'.A2 s'.n2 s'.c2)).setCell ⟨g + 1, 5, none⟩ (.slice s'.A3 s'.n3 s'.c3)).setCell ⟨g + 1, 6, none⟩ (.slice D2 xZ.length d2')) w9.heap.size (.slice D2 xZ.length d2') xZ) := Lib.hid (OwnN.set (OwnN.set (OwnN.set (OwnN.set (OwnN.set (OwnN.set (OwnN.set (HZ10.out) (g + 1) 0 (.int .i64 i) hb9) (g + 1) 1 (.int .i64 t) hb9) (g + 1) 2 (.slice s'.A0 s'.n0 s'.c0) hb9) (g + 1) 3 (.slice s'.A1 s'.n1 s'.c1) hb9) (g + 1) 4 (.slice s'.A2 s'.n2 s'.c2) hb9) (g + 1) 5 (.slice s'.A3 s'.n3 s'.c3) hb9) (g + 1) 6 (.slice D2 xZ.length d2') hb9)
      have HOG : Hid (∀ j, (Value.slice AZ N cZ).ownBlock = some j → j < w8.heap.size) := Lib.hid (fun j e => ((HF7.out.ok HOD8.out).ownGe j e).2)
      have HP8 : Hid (p < w8.heap.size) := Lib.hid (HF7.out.ok HOD8.out).lt
      have HB89 : Hid (w8.heap.size ≤ w9.heap.size) := Lib.hid HO9.out.size
      have HW8 : Hid (W.heap.size ≤ w8.heap.size) := Lib.hid (Nat.le_trans HFR7.out.size HOD8.out.size)
      generalize (((((((w10.setCell ⟨g + 1, 0, none⟩ (.int .i64 i)).setCell ⟨g + 1, 1, none⟩ (.int .i64 t)).setCell ⟨g + 1, 2, none⟩ (.slice s'.A0 s'.n0 s'.c0)).setCell ⟨g + 1, 3, none⟩ (.slice s'.A1 s'.n1 s'.c1)).setCell ⟨g + 1, 4, none⟩ (.slice s'.A2 s'.n2 s'.c2)).setCell ⟨g + 1, 5, none⟩ (.slice s'.A3 s'.n3 s'.c3)).setCell ⟨g + 1, 6, none⟩ (.slice D2 xZ.length d2')) = w11 at *
      clear HS10 HC9 HZ10
      go_upto_region 14 with fail
      rename_i K10 hK10
      have HK10 := Lib.hid hK10
      clear hK10
      refine wp_region_lit ?_
      refine wpList_step (fun K hK => ?_)
      rw [if_pos (by rfl)]
      go_simp
      refine hK _ _ ?_
      clear hK K
      try go_frame
      refine wpList_step (fun K hK => ?_)
      rw [if_pos (by rfl)]
      go_simp
      (with_reducible refine (drop_f p tm i t (L : Int) true AZ N cZ xZ w11 HF11.out).mono ?_)
      rintro _ w12 ⟨rfl, hf12, hr12⟩
      have HF12 := Lib.hid hf12
      have HR12 := Lib.hid hr12
      clear hf12 hr12
      refine hK _ _ ?_
      clear hK K
      try go_frame
      refine wpList_nil ?_
      refine HK10.out _ _ ?_
      clear HK10
      have HS12 := Lib.hid (Seven.fr HS11.out HR12.out HN1.out HN2.out)
      have HC12 := Lib.hid (HC11.out.fr HR12.out HP8.out HOG.out)
      have HN12 := Lib.hid (HN11.out.fr HR12.out (by have := HP8.out; have := HB89.out; omega) (fun j e => by have := HOG.out j e; have := HB89.out; omega))
      go_upto_region 15 with fail
      rename_i K11 hK11
      have HK11 := Lib.hid hK11
      clear hK11
      refine wp_region_held_drew (S := fun w => w.cell? ⟨g + 1, 0, none⟩ = some (.int .i64 i) ∧ w.cell? ⟨g + 1, 1, none⟩ = some (.int .i64 t) ∧ w.cell? ⟨g + 1, 2, none⟩ = some (.slice s'.A0 s'.n0 s'.c0) ∧ w.cell? ⟨g + 1, 3, none⟩ = some (.slice s'.A1 s'.n1 s'.c1) ∧ w.cell? ⟨g + 1, 4, none⟩ = some (.slice s'.A2 s'.n2 s'.c2) ∧ w.cell? ⟨g + 1, 5, none⟩ = some (.slice s'.A3 s'.n3 s'.c3) ∧ w.cell? ⟨g + 1, 6, none⟩ = some (.slice D2 xZ.length d2')) (by kernel_rfl) ?_ ?_
      · have k7 := HS12.out.ok ((Ok.refl w12).drew)
        exact ⟨k7.c0, k7.c1, k7.c2, k7.c3, k7.c4, k7.c5, k7.c6⟩
      intro hS
      have HOE : Hid (Ok w12 w12.drew) := Lib.hid ((Ok.refl w12).drew)
      have HSE := Lib.hid (HS12.out.ok HOE.out)
      generalize w12.drew = we at *
      refine wpAnyH_take (i := 0) (v := ?v0u42) rfl (by kernel_rfl) (by kernel_rfl) (by kernel_rfl) (fun _ _ _ h => h) (Or.inl ⟨by rfl, ?hy0u42⟩) hS ?rest0u42
      case hy0u42 => ((intro w hSw; (try dsimp only at hSw)); go_simp; (try with_reducible rfl))
      try go_frame
      refine wpAnyH_take (i := 1) (v := ?v1u43) rfl (by kernel_rfl) (by kernel_rfl) (by kernel_rfl) (fun _ _ _ h => h) (Or.inl ⟨by rfl, ?hy1u43⟩) hS ?rest1u43
      case hy1u43 => ((intro w hSw; (try dsimp only at hSw)); go_simp; (try with_reducible rfl))
      try go_frame
      refine wpAnyH_take (i := 2) (v := ?v2u44) rfl (by kernel_rfl) (by kernel_rfl) (by kernel_rfl) (fun _ _ _ h => h) (Or.inl ⟨by rfl, ?hy2u44⟩) hS ?rest2u44
      case hy2u44 => ((intro w hSw; (try dsimp only at hSw)); go_simp; (try with_reducible rfl))
      try go_frame
      refine wpAnyH_take (i := 3) (v := ?v3u45) rfl (by kernel_rfl) (by kernel_rfl) (by kernel_rfl) (fun _ _ _ h => h) (Or.inl ⟨by rfl, ?hy3u45⟩) hS ?rest3u45
      case hy3u45 => ((intro w hSw; (try dsimp only at hSw)); go_simp; (try with_reducible rfl))
      try go_frame
      refine wpAnyH_take (i := 4) (v := ?v4u46) rfl (by kernel_rfl) (by kernel_rfl) (by kernel_rfl) (fun _ _ _ h => h) (Or.inl ⟨by rfl, ?hy4u46⟩) hS ?rest4u46
      case hy4u46 => ((intro w hSw; (try dsimp only at hSw)); go_simp; (try with_reducible rfl))
      try go_frame
      clear hS
      have z0 := HSE.out.c0
      have z1 := HSE.out.c1
      have z2 := HSE.out.c2
      have z3 := HSE.out.c3
      have z4 := HSE.out.c4
      have z5 := HSE.out.c5
      have z6 := HSE.out.c6
      have y0 := HSE.out.f 0
      have y1 := HSE.out.f 1
      have y2 := HSE.out.f 2
      have y3 := HSE.out.f 3
      have y4 := HSE.out.f 4
      have y5 := HSE.out.f 5
      have y6 := HSE.out.f 6
      refine wpAnyH_ready (rs := [5]) (by kernel_rfl) (by simp) (AllReadyH.cons rfl (fun K hK => ?_) AllReadyH.nil)
      have HK := Lib.hid hK
      clear hK
      go_simp
      have HSP := Lib.hid (Seven.put (.int .i64 i) (.int .i64 t) (.slice s'.A0 s'.n0 s'.c0) (.slice s'.A1 s'.n1 s'.c1) (.slice s'.A2 s'.n2 s'.c2) (.slice s'.A3 s'.n3 s'.c3) (.slice D2 xZ.length d2') HSE.out)
      refine HK.out.out _ _ ⟨HSP.out.c0, HSP.out.c1, HSP.out.c2, HSP.out.c3, HSP.out.c4, HSP.out.c5, HSP.out.c6⟩ (fun hJ => ?_)
      clear hJ
      clear HK K
      try go_frame
      refine wpAnyH_done (by kernel_rfl) ?_ _
      refine HK11.out _ _ ?_
      clear HK11
      go_wp2_with fail
      refine bodyPost_ret (v := .tuple #[.int .i64 (N : Int), .bool true, .agg #[.int .i64 i, .int .i64 t, .slice s'.A0 s'.n0 s'.c0, .slice s'.A1 s'.n1 s'.c1, .slice s'.A2 s'.n2 s'.c2, .slice s'.A3 s'.n3 s'.c3, .slice D2 xZ.length d2']]) (by simp [results, Try.results77, go_sem, z0, z1, z2, z3, z4, z5, z6]; try rfl) rfl ?_
      clear z0 z1 z2 z3 z4 z5 z6 y0 y1 y2 y3 y4 y5 y6
      rw [HLAID.out]
      refine .inr ⟨by rw [HZL.out]; exact HNL.out, ⟨s', D2, d2', by rw [HZL.out], ?_, ?_⟩, ?_, ?_⟩
      · refine CfgOwn.lower (base := w8.heap.size) ?_ HW8.out
        (repeat (refine CfgOwn.set ?_ (g + 1) _ _ hb8)); exact HC12.out.ok HOE.out
      · refine OwnN.lower (b := w9.heap.size) ?_ (Nat.le_trans HW8.out HB89.out)
        (repeat (refine OwnN.set ?_ (g + 1) _ _ hb9)); exact HN12.out.okk HOE.out
      · (repeat (refine FAt.far ?_ (g + 1) _ _ HN1.out (fun e => by cases e))); exact HF12.out.ok HOE.out
      · (repeat (refine Fr.far ?_ (q := g + 1) (by have := HG.out; omega) _ _)); exact (Fr.trans HR11.out HR12.out HOWN2.out).ok HOE.out
    · have HNL := Lib.hid hNL
      clear hNL
      go_upto_region 11 with fail
      rename_i K7 hK7
      have HK7 := Lib.hid hK7
      clear hK7
      refine wp_region_lit ?_
      have hf5 := HFF.out.c5
      have hf0 := HFF.out.c0
      have hf1 := HFF.out.c1
      have hf2 := HFF.out.c2
      have hf3 := HFF.out.c3
      have hf4 := HFF.out.c4
      refine wpList_step (fun K hK => ?_)
      rw [if_pos (by rfl)]
      go_simp
      refine hK _ _ ?_
      clear hK K
      try go_frame
      refine wpList_step (fun K hK => ?_)
      rw [if_pos (by rfl)]
      go_simp
      refine hK _ _ ?_
      clear hK K
      try go_frame
      refine wpList_step (fun K hK => ?_)
      rw [if_pos (by rfl)]
      go_simp
      refine hK _ _ ?_
      clear hK K
      try go_frame
      refine wpList_step (fun K hK => ?_)
      rw [if_pos (by rfl)]
      go_simp
      refine hK _ _ ?_
      clear hK K
      try go_frame
      refine wpList_step (fun K hK => ?_)
      rw [if_pos (by rfl)]
      go_simp
      refine hK _ _ ?_
      clear hK K
      try go_frame
      refine wpList_step (fun K hK => ?_)
      rw [if_pos (by rfl)]
      go_simp
      refine hK _ _ ?_
      clear hK K
      try go_frame
      refine wpList_nil ?_
      refine HK7.out _ _ ?_
      clear HK7
      go_upto_region 12 with fail
      rename_i K8 hK8
      have HK8 := Lib.hid hK8
      clear hK8
      refine wp_region_lit ?_
      refine wpList_step (fun K hK => ?_)
      rw [if_pos (by rfl)]
      go_simp
      refine hK _ _ ?_
      clear hK K
      try go_frame
      refine wpList_step (fun K hK => ?_)
      rw [if_pos (by rfl)]
      go_simp
      refine hK _ _ ?_
      clear hK K
      try go_frame
      refine wpList_step (fun K hK => ?_)
      rw [if_pos (by rfl)]
      go_simp
      refine hK _ _ ?_
      clear hK K
      try go_frame
      refine wpList_step (fun K hK => ?_)
      rw [if_pos (by rfl)]
      go_simp
      refine hK _ _ ?_
      clear hK K
      try go_frame
      refine wpList_step (fun K hK => ?_)
      rw [if_pos (by rfl)]
      go_simp
      refine hK _ _ ?_
      clear hK K
      try go_frame
      refine wpList_step (fun K hK => ?_)
      rw [if_pos (by rfl)]
      go_simp
      (with_reducible refine (whole_n tm i t L N w6 HNL.out).mono ?_)
      rintro _ w7 ⟨rfl, o7⟩
      have HO7 := Lib.hid o7
      clear o7
      refine hK _ _ ?_
      clear hK K
      try go_frame
      refine wpList_nil ?_
      refine HK8.out _ _ ?_
      clear HK8
      clear hf0 hf1 hf2 hf3 hf4 hf5
      have HS7 : Hid (Seven (g + 1) (.int .i64 0) (.int .i64 0) (.slice none 0 0) (.slice none 0 0) (.slice none 0 0) (.slice none 0 0) (.slice none 0 0) w7) := Lib.hid ((Seven.fr HS6.out HFR.out (by have := HPL.out; omega) (fun e => by have := HOBQ.out _ e; omega)).ok HO7.out)
      have HF7 := Lib.hid (HFF.out.ok HO7.out)
      have HFR7 : Hid (Fr p A n c W w7) := Lib.hid ((Fr.trans HFR6.out HFR.out HOQ.out).ok HO7.out)
      have hn1 : g + 1 ≠ p := by have := HPL.out; omega
      have hn2 : (Value.slice AZ N cZ).ownBlock ≠ some (g + 1) := fun e => by have := HOBQ.out _ (HOWN.out _ (by have := HSZ6.out; omega) e); omega
      have hown : ∀ j, j < W.heap.size → (Value.slice AZ N cZ).ownBlock = some j → (Value.slice A n c).ownBlock = some j := fun j hj e => HOQ.out j hj (HOWN.out j (by have := HSZ6.out; have := HG.out; omega) e)
      have HN1 := Lib.hid hn1
      have HN2 := Lib.hid hn2
      have HOWN2 := Lib.hid hown
      clear hn1 hn2 hown
      go_upto_region 15 with fail
      rename_i K9 hK9
      have HK9 := Lib.hid hK9
      clear hK9
      refine wp_region_held_drew (S := fun w => w.cell? ⟨g + 1, 0, none⟩ = some (.int .i64 0) ∧ w.cell? ⟨g + 1, 1, none⟩ = some (.int .i64 0) ∧ w.cell? ⟨g + 1, 2, none⟩ = some (.slice none 0 0) ∧ w.cell? ⟨g + 1, 3, none⟩ = some (.slice none 0 0) ∧ w.cell? ⟨g + 1, 4, none⟩ = some (.slice none 0 0) ∧ w.cell? ⟨g + 1, 5, none⟩ = some (.slice none 0 0) ∧ w.cell? ⟨g + 1, 6, none⟩ = some (.slice none 0 0)) (by kernel_rfl) ?_ ?_
      · have k7 := HS7.out.ok ((Ok.refl w7).drew)
        exact ⟨k7.c0, k7.c1, k7.c2, k7.c3, k7.c4, k7.c5, k7.c6⟩
      intro hS
      have HOE : Hid (Ok w7 w7.drew) := Lib.hid ((Ok.refl w7).drew)
      have HSE := Lib.hid (HS7.out.ok HOE.out)
      generalize w7.drew = we at *
      refine wpAnyH_take (i := 0) (v := ?v0u47) rfl (by kernel_rfl) (by kernel_rfl) (by kernel_rfl) (fun _ _ _ h => h) (Or.inl ⟨by rfl, ?hy0u47⟩) hS ?rest0u47
      case hy0u47 => ((intro w hSw; (try dsimp only at hSw)); go_simp; (try with_reducible rfl))
      try go_frame
      refine wpAnyH_take (i := 1) (v := ?v1u48) rfl (by kernel_rfl) (by kernel_rfl) (by kernel_rfl) (fun _ _ _ h => h) (Or.inl ⟨by rfl, ?hy1u48⟩) hS ?rest1u48
      case hy1u48 => ((intro w hSw; (try dsimp only at hSw)); go_simp; (try with_reducible rfl))
      try go_frame
      refine wpAnyH_take (i := 2) (v := ?v2u49) rfl (by kernel_rfl) (by kernel_rfl) (by kernel_rfl) (fun _ _ _ h => h) (Or.inl ⟨by rfl, ?hy2u49⟩) hS ?rest2u49
      case hy2u49 => ((intro w hSw; (try dsimp only at hSw)); go_simp; (try with_reducible rfl))
      try go_frame
      refine wpAnyH_take (i := 3) (v := ?v3u50) rfl (by kernel_rfl) (by kernel_rfl) (by kernel_rfl) (fun _ _ _ h => h) (Or.inl ⟨by rfl, ?hy3u50⟩) hS ?rest3u50
      case hy3u50 => ((intro w hSw; (try dsimp only at hSw)); go_simp; (try with_reducible rfl))
      try go_frame
      refine wpAnyH_take (i := 4) (v := ?v4u51) rfl (by kernel_rfl) (by kernel_rfl) (by kernel_rfl) (fun _ _ _ h => h) (Or.inl ⟨by rfl, ?hy4u51⟩) hS ?rest4u51
      case hy4u51 => ((intro w hSw; (try dsimp only at hSw)); go_simp; (try with_reducible rfl))
      try go_frame
      clear hS
      have z0 := HSE.out.c0
      have z1 := HSE.out.c1
      have z2 := HSE.out.c2
      have z3 := HSE.out.c3
      have z4 := HSE.out.c4
      have z5 := HSE.out.c5
      have z6 := HSE.out.c6
      have y0 := HSE.out.f 0
      have y1 := HSE.out.f 1
      have y2 := HSE.out.f 2
      have y3 := HSE.out.f 3
      have y4 := HSE.out.f 4
      have y5 := HSE.out.f 5
      have y6 := HSE.out.f 6
      refine wpAnyH_ready (rs := [5]) (by kernel_rfl) (by simp) (AllReadyH.cons rfl (fun K hK => ?_) AllReadyH.nil)
      have HK := Lib.hid hK
      clear hK
      go_simp
      have HSP := Lib.hid (Seven.put (.int .i64 0) (.int .i64 0) (.slice none 0 0) (.slice none 0 0) (.slice none 0 0) (.slice none 0 0) (.slice none 0 0) HSE.out)
      refine HK.out.out _ _ ⟨HSP.out.c0, HSP.out.c1, HSP.out.c2, HSP.out.c3, HSP.out.c4, HSP.out.c5, HSP.out.c6⟩ (fun hJ => ?_)
      clear hJ
      clear HK K
      try go_frame
      refine wpAnyH_done (by kernel_rfl) ?_ _
      refine HK9.out _ _ ?_
      clear HK9
      go_wp2_with fail
      refine bodyPost_ret (v := .tuple #[.int .i64 (N : Int), .bool false, .agg #[.int .i64 0, .int .i64 0, .slice none 0 0, .slice none 0 0, .slice none 0 0, .slice none 0 0, .slice none 0 0]]) (by simp [results, Try.results77, go_sem, z0, z1, z2, z3, z4, z5, z6]; try rfl) rfl ?_
      clear z0 z1 z2 z3 z4 z5 z6 y0 y1 y2 y3 y4 y5 y6
      rw [HLAID.out]
      refine .inl ⟨by rw [HZL.out]; exact HNL.out, by rw [HZL.out], ⟨AZ, cZ, ?_, ?_⟩, ?_⟩
      · rw [HZL.out]
        (repeat (refine FAt.far ?_ (g + 1) _ _ HN1.out HN2.out)); exact HF7.out.ok HOE.out
      · rw [HZL.out]; exact HOWN2.out
      · (repeat (refine Fr.far ?_ (q := g + 1) (by have := HG.out; omega) _ _)); exact HFR7.out.ok HOE.out
end Go.Proofs.Ytolfdncmlfnbdaa
