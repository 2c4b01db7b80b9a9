/- A ferry takes no piece that may not be taken, or is another crossing's, and no beginning. -/
import Derived.Test.YtolfdncmlfnbdaaLa
namespace Go.Proofs.Ytolfdncmlfnbdaa
open Go.RowKit
/-- The piece is another crossing's, and is no beginning: nothing is taken. -/
def TakeNo (p : Nat) (tm i t sz : Int) (u : Bool) (A : Option Addr) (n c : Nat) (xs : List B8) (W : World) (e : Ending) (w' : World) : Prop :=
  e = .returned (.tuple #[.int .i64 0, .bool false, .agg #[.int .i64 0, .int .i64 0, .slice none 0 0, .slice none 0 0, .slice none 0 0, .slice none 0 0, .slice none 0 0]]) ∧ FAt p tm i t sz u A n c xs w' ∧ Ok W w'

set_option maxRecDepth 100000 in
set_option maxHeartbeats 8000000 in
theorem take_no (x : Lt) (r : LR) (p : Nat) (tm i t : Int) (s : S4) (L a m d : Nat) (B : Option Addr) (tm0 i0 t0 sz0 : Int) (u0 : Bool) (A : Option Addr) (n c : Nat) (xs : List B8) (W : World) (h : FAt p tm0 i0 t0 sz0 u0 A n c xs W)
    (hne : crossB tm0 i0 t0 sz0 u0 tm i t (L : Int) = false) (ha0 : 0 < a) (h1 : L ≤ 131072) (h2 : a ≤ L) (h3 : m ≤ L - a) :
    Calls Try.prog 77 #[.pointer (some ⟨p, 0, none⟩), .agg #[.int .u8 5, .int .i64 x.group, .int .i64 x.from_, .int .i64 x.to_, .int .i64 tm, .int .i64 x.index, .int .i64 x.logterm, .int .i64 x.commit, .bool x.ok, .slice r.eA x.es.length r.ec, .int .i64 i, .int .i64 t, .slice s.A0 s.n0 s.c0, .slice s.A1 s.n1 s.c1, .slice s.A2 s.n2 s.c2, .slice s.A3 s.n3 s.c3, .int .i64 (L : Int), .int .i64 (a : Int), .int .i64 x.tag, .slice B m d]] W (TakeNo p tm0 i0 t0 sz0 u0 A n c xs W) := by
  have HNE : Hid (∀ w, (binOp .neq 117 (.agg #[.int .i64 tm, .int .i64 i, .int .i64 t, .int .i64 (L : Int), .bool true]) (.agg #[.int .i64 tm0, .int .i64 i0, .int .i64 t0, .int .i64 sz0, .bool u0])).run Try.prog w = .ok (.bool true) w) := Lib.hid (fun w => by rw [cross_ne, hne]; rfl)
  clear hne
  have HO : Hid (Ok W ((W.alloc (.cells #[.int .u8 5, .int .i64 x.group, .int .i64 x.from_, .int .i64 x.to_, .int .i64 tm, .int .i64 x.index, .int .i64 x.logterm, .int .i64 x.commit, .bool x.ok, .slice r.eA x.es.length r.ec, .int .i64 i, .int .i64 t, .slice s.A0 s.n0 s.c0, .slice s.A1 s.n1 s.c1, .slice s.A2 s.n2 s.c2, .slice s.A3 s.n3 s.c3, .int .i64 (L : Int), .int .i64 (a : Int), .int .i64 x.tag, .slice B m d] 95)).alloc (.cells #[.int .i64 0, .int .i64 0, .slice none 0 0, .slice none 0 0, .slice none 0 0, .slice none 0 0, .slice none 0 0] 97))) := Lib.hid (((Ok.refl W).alloc _).alloc _)
  have HF : Hid (FAt p tm0 i0 t0 sz0 u0 A n c xs ((W.alloc (.cells #[.int .u8 5, .int .i64 x.group, .int .i64 x.from_, .int .i64 x.to_, .int .i64 tm, .int .i64 x.index, .int .i64 x.logterm, .int .i64 x.commit, .bool x.ok, .slice r.eA x.es.length r.ec, .int .i64 i, .int .i64 t, .slice s.A0 s.n0 s.c0, .slice s.A1 s.n1 s.c1, .slice s.A2 s.n2 s.c2, .slice s.A3 s.n3 s.c3, .int .i64 (L : Int), .int .i64 (a : Int), .int .i64 x.tag, .slice B m d] 95)).alloc (.cells #[.int .i64 0, .int .i64 0, .slice none 0 0, .slice none 0 0, .slice none 0 0, .slice none 0 0, .slice none 0 0] 97))) := Lib.hid (h.ok HO.out)
  have HRX : Hid (((W.alloc (.cells #[.int .u8 5, .int .i64 x.group, .int .i64 x.from_, .int .i64 x.to_, .int .i64 tm, .int .i64 x.index, .int .i64 x.logterm, .int .i64 x.commit, .bool x.ok, .slice r.eA x.es.length r.ec, .int .i64 i, .int .i64 t, .slice s.A0 s.n0 s.c0, .slice s.A1 s.n1 s.c1, .slice s.A2 s.n2 s.c2, .slice s.A3 s.n3 s.c3, .int .i64 (L : Int), .int .i64 (a : Int), .int .i64 x.tag, .slice B m d] 95)).alloc (.cells #[.int .i64 0, .int .i64 0, .slice none 0 0, .slice none 0 0, .slice none 0 0, .slice none 0 0, .slice none 0 0] 97)).rangeAt W.heap.size 0 [.int .u8 5, .int .i64 x.group, .int .i64 x.from_, .int .i64 x.to_, .int .i64 tm, .int .i64 x.index, .int .i64 x.logterm, .int .i64 x.commit, .bool x.ok, .slice r.eA x.es.length r.ec, .int .i64 i, .int .i64 t, .slice s.A0 s.n0 s.c0, .slice s.A1 s.n1 s.c1, .slice s.A2 s.n2 s.c2, .slice s.A3 s.n3 s.c3, .int .i64 (L : Int), .int .i64 (a : Int), .int .i64 x.tag, .slice B m d]) := Lib.hid (World.rangeAt_alloc (range_new W [.int .u8 5, .int .i64 x.group, .int .i64 x.from_, .int .i64 x.to_, .int .i64 tm, .int .i64 x.index, .int .i64 x.logterm, .int .i64 x.commit, .bool x.ok, .slice r.eA x.es.length r.ec, .int .i64 i, .int .i64 t, .slice s.A0 s.n0 s.c0, .slice s.A1 s.n1 s.c1, .slice s.A2 s.n2 s.c2, .slice s.A3 s.n3 s.c3, .int .i64 (L : Int), .int .i64 (a : Int), .int .i64 x.tag, .slice B m d] 95) _)
  have HS7 : Hid (Seven (W.heap.size + 1) (.int .i64 0) (.int .i64 0) (.slice none 0 0) (.slice none 0 0) (.slice none 0 0) (.slice none 0 0) (.slice none 0 0) ((W.alloc (.cells #[.int .u8 5, .int .i64 x.group, .int .i64 x.from_, .int .i64 x.to_, .int .i64 tm, .int .i64 x.index, .int .i64 x.logterm, .int .i64 x.commit, .bool x.ok, .slice r.eA x.es.length r.ec, .int .i64 i, .int .i64 t, .slice s.A0 s.n0 s.c0, .slice s.A1 s.n1 s.c1, .slice s.A2 s.n2 s.c2, .slice s.A3 s.n3 s.c3, .int .i64 (L : Int), .int .i64 (a : Int), .int .i64 x.tag, .slice B m d] 95)).alloc (.cells #[.int .i64 0, .int .i64 0, .slice none 0 0, .slice none 0 0, .slice none 0 0, .slice none 0 0, .slice none 0 0] 97))) := Lib.hid (by have := Seven.new (W.alloc (.cells #[.int .u8 5, .int .i64 x.group, .int .i64 x.from_, .int .i64 x.to_, .int .i64 tm, .int .i64 x.index, .int .i64 x.logterm, .int .i64 x.commit, .bool x.ok, .slice r.eA x.es.length r.ec, .int .i64 i, .int .i64 t, .slice s.A0 s.n0 s.c0, .slice s.A1 s.n1 s.c1, .slice s.A2 s.n2 s.c2, .slice s.A3 s.n3 s.c3, .int .i64 (L : Int), .int .i64 (a : Int), .int .i64 x.tag, .slice B m d] 95)) (.int .i64 0) (.int .i64 0) (.slice none 0 0) (.slice none 0 0) (.slice none 0 0) (.slice none 0 0) (.slice none 0 0) 97; rwa [World.size_alloc] at this)
  have HZZ : Hid (W.heap.size + 2 ≤ ((W.alloc (.cells #[.int .u8 5, .int .i64 x.group, .int .i64 x.from_, .int .i64 x.to_, .int .i64 tm, .int .i64 x.index, .int .i64 x.logterm, .int .i64 x.commit, .bool x.ok, .slice r.eA x.es.length r.ec, .int .i64 i, .int .i64 t, .slice s.A0 s.n0 s.c0, .slice s.A1 s.n1 s.c1, .slice s.A2 s.n2 s.c2, .slice s.A3 s.n3 s.c3, .int .i64 (L : Int), .int .i64 (a : Int), .int .i64 x.tag, .slice B m d] 95)).alloc (.cells #[.int .i64 0, .int .i64 0, .slice none 0 0, .slice none 0 0, .slice none 0 0, .slice none 0 0, .slice none 0 0] 97)).heap.size) := Lib.hid (by rw [World.size_alloc, World.size_alloc]; omega)
  obtain ⟨d80, hd80, hrow⟩ : ∃ d, Try.prog.underlying 95 = some d ∧ d.isRow = true := ⟨_, Try.underlying95, rfl⟩
  have HD := Lib.hid (And.intro hd80 hrow)
  have HOB := Lib.hid h.ownGe
  have HPL := Lib.hid h.lt
  clear hd80 hrow h
  go_enter Try.func77, Try.ntmps77
  go_upto_region 1 with fail
  rename_i K0 hK0
  have HK0 := Lib.hid hK0
  clear hK0
  generalize ((W.alloc (.cells #[.int .u8 5, .int .i64 x.group, .int .i64 x.from_, .int .i64 x.to_, .int .i64 tm, .int .i64 x.index, .int .i64 x.logterm, .int .i64 x.commit, .bool x.ok, .slice r.eA x.es.length r.ec, .int .i64 i, .int .i64 t, .slice s.A0 s.n0 s.c0, .slice s.A1 s.n1 s.c1, .slice s.A2 s.n2 s.c2, .slice s.A3 s.n3 s.c3, .int .i64 (L : Int), .int .i64 (a : Int), .int .i64 x.tag, .slice B m d] 95)).alloc (.cells #[.int .i64 0, .int .i64 0, .slice none 0 0, .slice none 0 0, .slice none 0 0, .slice none 0 0, .slice none 0 0] 97)) = w0 at *
  obtain ⟨g, hg⟩ : ∃ g, W.heap.size = g := ⟨_, rfl⟩
  have HG := Lib.hid hg
  rw [hg] at HRX HS7 HZZ HOB HPL ⊢
  clear hg
  refine wp_region_lit ?_
  refine wpList_step (fun K hK => ?_)
  rw [if_pos (by rfl)]
  go_simp
  refine hK _ _ ?_
  clear hK K
  try go_frame
  refine wpList_step (fun K hK => ?_)
  rw [if_pos (by rfl)]
  go_simp
  refine (fnone_f p w0 HF.out.c6).mono ?_
  rintro _ w1 ⟨rfl, rfl⟩
  refine hK _ _ ?_
  clear hK K
  try go_frame
  refine wpList_step (fun K hK => ?_)
  rw [if_pos (by rfl)]
  go_simp
  refine hK _ _ ?_
  clear hK K
  try go_frame
  refine wpList_load_w (by rfl) 95 (.tmp 3) rfl g 0 rfl [.int .u8 5, .int .i64 x.group, .int .i64 x.from_, .int .i64 x.to_, .int .i64 tm, .int .i64 x.index, .int .i64 x.logterm, .int .i64 x.commit, .bool x.ok, .slice r.eA x.es.length r.ec, .int .i64 i, .int .i64 t, .slice s.A0 s.n0 s.c0, .slice s.A1 s.n1 s.c1, .slice s.A2 s.n2 s.c2, .slice s.A3 s.n3 s.c3, .int .i64 (L : Int), .int .i64 (a : Int), .int .i64 x.tag, .slice B m d] d80 HRX.out HD.out.1 HD.out.2 info80 ?_
  try go_frame
  refine wpList_step (fun K hK => ?_)
  rw [if_pos (by rfl)]
  go_simp
  refine (may_y x r _ i t s L a m d B w0 h1 h2 h3).mono ?_
  rintro _ w1 ⟨rfl, o1⟩
  have HO1 := Lib.hid o1
  clear o1
  refine hK _ _ ?_
  clear hK K
  try go_frame
  refine wpList_step (fun K hK => ?_)
  rw [if_pos (by rfl)]
  go_simp
  refine hK _ _ ?_
  clear hK K
  try go_frame
  refine wpList_step (fun K hK => ?_)
  rw [if_pos (by rfl)]
  go_simp
  refine hK _ _ ?_
  clear hK K
  try go_frame
  refine wpList_nil ?_
  refine HK0.out _ _ ?_
  clear HK0
  go_upto_region 3 with fail
  rename_i K1 hK1
  have HK1 := Lib.hid hK1
  clear hK1
  refine wp_region_lit ?_
  refine wpList_load_w (by rfl) 95 (.tmp 3) rfl g 0 rfl [.int .u8 5, .int .i64 x.group, .int .i64 x.from_, .int .i64 x.to_, .int .i64 tm, .int .i64 x.index, .int .i64 x.logterm, .int .i64 x.commit, .bool x.ok, .slice r.eA x.es.length r.ec, .int .i64 i, .int .i64 t, .slice s.A0 s.n0 s.c0, .slice s.A1 s.n1 s.c1, .slice s.A2 s.n2 s.c2, .slice s.A3 s.n3 s.c3, .int .i64 (L : Int), .int .i64 (a : Int), .int .i64 x.tag, .slice B m d] d80 (fun j v hv => HO1.out.cell (HRX.out j v hv)) HD.out.1 HD.out.2 info80 ?_
  try go_frame
  refine wpList_step (fun K hK => ?_)
  rw [if_pos (by rfl)]
  go_simp
  refine (crossing_y x r _ i t s (L : Int) (a : Int) m d B w1).mono ?_
  rintro _ w2 ⟨rfl, o2⟩
  have HO2 := Lib.hid (HO1.out.trans o2)
  clear o2
  refine hK _ _ ?_
  clear hK K
  try go_frame
  refine wpList_step (fun K hK => ?_)
  rw [if_pos (by rfl)]
  go_simp
  refine hK _ _ ?_
  clear hK K
  try go_frame
  refine wpList_step (fun K hK => ?_)
  rw [if_pos (by rfl)]
  go_simp
  refine hK _ _ ?_
  clear hK K
  try go_frame
  refine wpList_nil ?_
  refine HK1.out _ _ ?_
  clear HK1
  have HF3 : Hid (FAt p tm0 i0 t0 sz0 u0 A n c xs (w2.alloc (.cells #[.int .i64 tm, .int .i64 i, .int .i64 t, .int .i64 (L : Int), .bool true] 117))) := Lib.hid ((HF.out.ok HO2.out).ok ((Ok.refl w2).alloc _))
  have HS3 : Hid (Seven (g + 1) (.int .i64 0) (.int .i64 0) (.slice none 0 0) (.slice none 0 0) (.slice none 0 0) (.slice none 0 0) (.slice none 0 0) (w2.alloc (.cells #[.int .i64 tm, .int .i64 i, .int .i64 t, .int .i64 (L : Int), .bool true] 117))) := Lib.hid ((HS7.out.ok HO2.out).ok ((Ok.refl w2).alloc _))
  have HRX3 : Hid ((w2.alloc (.cells #[.int .i64 tm, .int .i64 i, .int .i64 t, .int .i64 (L : Int), .bool true] 117)).rangeAt g 0 [.int .u8 5, .int .i64 x.group, .int .i64 x.from_, .int .i64 x.to_, .int .i64 tm, .int .i64 x.index, .int .i64 x.logterm, .int .i64 x.commit, .bool x.ok, .slice r.eA x.es.length r.ec, .int .i64 i, .int .i64 t, .slice s.A0 s.n0 s.c0, .slice s.A1 s.n1 s.c1, .slice s.A2 s.n2 s.c2, .slice s.A3 s.n3 s.c3, .int .i64 (L : Int), .int .i64 (a : Int), .int .i64 x.tag, .slice B m d]) := Lib.hid (fun j v hv => ((Ok.refl w2).alloc _).cell (HO2.out.cell (HRX.out j v hv)))
  have HCR : Hid ((w2.alloc (.cells #[.int .i64 tm, .int .i64 i, .int .i64 t, .int .i64 (L : Int), .bool true] 117)).rangeAt w2.heap.size 0 [.int .i64 tm, .int .i64 i, .int .i64 t, .int .i64 (L : Int), .bool true]) := Lib.hid (range_new w2 [.int .i64 tm, .int .i64 i, .int .i64 t, .int .i64 (L : Int), .bool true] 117)
  have HO3 : Hid (Ok W (w2.alloc (.cells #[.int .i64 tm, .int .i64 i, .int .i64 t, .int .i64 (L : Int), .bool true] 117))) := Lib.hid ((HO.out.trans HO2.out).trans ((Ok.refl w2).alloc _))
  have HSZ3 : Hid (w2.heap.size + 1 = (w2.alloc (.cells #[.int .i64 tm, .int .i64 i, .int .i64 t, .int .i64 (L : Int), .bool true] 117)).heap.size ∧ g + 2 ≤ w2.heap.size) := Lib.hid ⟨by rw [World.size_alloc], by have := HO2.out.size; have := HZZ.out; omega⟩
  generalize w2.alloc (.cells #[.int .i64 tm, .int .i64 i, .int .i64 t, .int .i64 (L : Int), .bool true] 117) = w3 at *
  obtain ⟨q, hq⟩ : ∃ q, w2.heap.size = q := ⟨_, rfl⟩
  rw [hq] at HCR HSZ3 ⊢
  clear hq HF HS7 HRX
  go_upto_region 4 with fail
  rename_i K2 hK2
  have HK2 := Lib.hid hK2
  clear hK2
  refine wp_region_held_drew (S := fun w => (w.cell? ⟨q, 0, none⟩ = some (.int .i64 tm) ∧ w.cell? ⟨q, 1, none⟩ = some (.int .i64 i) ∧ w.cell? ⟨q, 2, none⟩ = some (.int .i64 t) ∧ w.cell? ⟨q, 3, none⟩ = some (.int .i64 (L : Int)) ∧ w.cell? ⟨q, 4, none⟩ = some (.bool true)) ∧ (w.cell? ⟨p, 0, none⟩ = some (.int .i64 tm0) ∧ w.cell? ⟨p, 1, none⟩ = some (.int .i64 i0) ∧ w.cell? ⟨p, 2, none⟩ = some (.int .i64 t0) ∧ w.cell? ⟨p, 3, none⟩ = some (.int .i64 sz0) ∧ w.cell? ⟨p, 4, none⟩ = some (.bool u0))) (by kernel_rfl) ?_ ?_
  · have k := HF3.out.ok ((Ok.refl w3).drew)
    have r : ∀ j v, [.int .i64 tm, .int .i64 i, .int .i64 t, .int .i64 (L : Int), .bool true][j]? = some v → w3.drew.cell? ⟨q, j, none⟩ = some v := fun j v hv => ((Ok.refl w3).drew).cell (by have := HCR.out j v hv; rwa [Nat.zero_add] at this)
    exact ⟨⟨r 0 _ rfl, r 1 _ rfl, r 2 _ rfl, r 3 _ rfl, r 4 _ rfl⟩, k.c0, k.c1, k.c2, k.c3, k.c4⟩
  intro hS
  have hcr := HNE.out
  have HO4 : Hid (Ok w3 w3.drew) := Lib.hid ((Ok.refl w3).drew)
  generalize w3.drew = w4 at *
  refine wpAnyH_take (i := 0) (v := ?v0) rfl (by kernel_rfl) (by kernel_rfl) (by kernel_rfl) (fun _ _ _ h => h) (Or.inl ⟨by rfl, ?hy0⟩) hS ?rest0
  case hy0 => ((intro w hSw; (try dsimp only at hSw)); go_simp; (try with_reducible rfl))
  try go_frame
  refine wpAnyH_take (i := 1) (v := ?v1) rfl (by kernel_rfl) (by kernel_rfl) (by kernel_rfl) (fun _ _ _ h => h) (Or.inl ⟨by rfl, ?hy1⟩) hS ?rest1
  case hy1 => ((intro w hSw; (try dsimp only at hSw)); go_simp; (try with_reducible rfl))
  try go_frame
  refine wpAnyH_take (i := 2) (v := ?v2) rfl (by kernel_rfl) (by kernel_rfl) (by kernel_rfl) (fun _ _ _ h => h) (Or.inl ⟨by rfl, ?hy2⟩) hS ?rest2
  case hy2 => ((intro w hSw; (try dsimp only at hSw)); go_simp; (try with_reducible rfl))
  try go_frame
  refine wpAnyH_take (i := 3) (v := ?v3) rfl (by kernel_rfl) (by kernel_rfl) (by kernel_rfl) (fun _ _ _ h => h) (Or.inl ⟨by rfl, ?hy3⟩) hS ?rest3
  case hy3 => ((intro w hSw; (try dsimp only at hSw)); go_simp; (try with_reducible rfl))
  try go_frame
  refine wpAnyH_take (i := 4) (v := ?v4) rfl (by kernel_rfl) (by kernel_rfl) (by kernel_rfl) (fun _ _ _ h => h) (Or.inl ⟨by rfl, ?hy4⟩) hS ?rest4
  case hy4 => ((intro w hSw; (try dsimp only at hSw)); go_simp; (try with_reducible rfl))
  try go_frame
  refine wpAnyH_take (i := 5) (v := ?v5) rfl (by kernel_rfl) (by kernel_rfl) (by kernel_rfl) (fun _ _ _ h => h) (Or.inl ⟨by rfl, ?hy5⟩) hS ?rest5
  case hy5 => ((intro w hSw; (try dsimp only at hSw)); go_simp; (try with_reducible rfl))
  try go_frame
  refine wpAnyH_done (by kernel_rfl) ?_ _
  clear hS
  refine HK2.out _ _ ?_
  clear HK2
  have hx17 : w4.cell? ⟨g, 17, none⟩ = some (.int .i64 (a : Int)) := HO4.out.cell (by have := HRX3.out 17 _ rfl; rwa [Nat.zero_add] at this)
  have d2 : decide ((0 : Int) < (a : Int)) = true := decide_eq_true (by omega)
  have HS4 := Lib.hid (HS3.out.ok HO4.out)
  have z0 := HS4.out.c0
  have z1 := HS4.out.c1
  have z2 := HS4.out.c2
  have z3 := HS4.out.c3
  have z4 := HS4.out.c4
  have z5 := HS4.out.c5
  have z6 := HS4.out.c6
  have y0 := HS4.out.f 0
  have y1 := HS4.out.f 1
  have y2 := HS4.out.f 2
  have y3 := HS4.out.f 3
  have y4 := HS4.out.f 4
  have y5 := HS4.out.f 5
  have y6 := HS4.out.f 6
  go_upto_region 5 with fail
  rename_i K3 hK3
  have HK3 := Lib.hid hK3
  clear hK3
  refine wp_region_lit ?_
  refine wpList_step (fun K hK => ?_)
  rw [if_pos (by rfl)]
  go_simp
  refine hK _ _ ?_
  clear hK K
  try go_frame
  refine wpList_step (fun K hK => ?_)
  rw [if_pos (by rfl)]
  go_simp
  refine hK _ _ ?_
  clear hK K
  try go_frame
  refine wpList_step (fun K hK => ?_)
  rw [if_pos (by rfl)]
  go_simp
  refine hK _ _ ?_
  clear hK K
  try go_frame
  refine wpList_nil ?_
  refine HK3.out _ _ ?_
  clear HK3
  go_upto_region 6 with fail
  rename_i K4 hK4
  have HK4 := Lib.hid hK4
  clear hK4
  refine wp_region_lit ?_
  refine wpList_step (fun K hK => ?_)
  rw [if_pos (by rfl)]
  go_simp
  refine hK _ _ ?_
  clear hK K
  try go_frame
  refine wpList_step (fun K hK => ?_)
  rw [if_pos (by rfl)]
  go_simp
  refine hK _ _ ?_
  clear hK K
  try go_frame
  refine wpList_step (fun K hK => ?_)
  rw [if_pos (by rfl)]
  go_simp
  refine hK _ _ ?_
  clear hK K
  try go_frame
  refine wpList_step (fun K hK => ?_)
  rw [if_pos (by rfl)]
  go_simp
  refine hK _ _ ?_
  clear hK K
  try go_frame
  refine wpList_nil ?_
  refine HK4.out _ _ ?_
  clear HK4
  go_wp2_with fail
  refine bodyPost_ret (v := .tuple #[.int .i64 0, .bool false, .agg #[.int .i64 0, .int .i64 0, .slice none 0 0, .slice none 0 0, .slice none 0 0, .slice none 0 0, .slice none 0 0]]) (by simp [results, Try.results77, go_sem, z0, z1, z2, z3, z4, z5, z6]; try rfl) rfl ?_
  clear hcr z0 z1 z2 z3 z4 z5 z6 y0 y1 y2 y3 y4 y5 y6 hx17 d2
  have hn1 : g + 1 ≠ p := by have := HPL.out; omega
  have hn2 : (Value.slice A n c).ownBlock ≠ some (g + 1) := fun e => by have := HOB.out _ e; omega
  refine ⟨rfl, ?_, ?_⟩
  · (repeat (refine FAt.far ?_ (g + 1) _ _ hn1 hn2)); exact HF3.out.ok HO4.out
  · have hgW : W.heap.size ≤ g + 1 := by have := HG.out; omega
    show Below W.heap.size W _
    (repeat (refine Below.setCell ?_ hgW _)); exact HO3.out.trans HO4.out

set_option maxRecDepth 100000 in
set_option maxHeartbeats 8000000 in
/-- What is no piece that may be taken. -/
theorem take_bad (x : Lt) (r : LR) (p : Nat) (tm0 i0 t0 sz0 : Int) (u0 : Bool) (A : Option Addr) (n c : Nat) (xs : List B8) (W : World) (h : FAt p tm0 i0 t0 sz0 u0 A n c xs W) (hb : mayB x r.bn = false) :
    Calls Try.prog 77 #[.pointer (some ⟨p, 0, none⟩), .agg #[.int .u8 x.kind, .int .i64 x.group, .int .i64 x.from_, .int .i64 x.to_, .int .i64 x.term, .int .i64 x.index, .int .i64 x.logterm, .int .i64 x.commit, .bool x.ok, .slice r.eA x.es.length r.ec, .int .i64 x.bi, .int .i64 x.bt, .slice r.s.A0 r.s.n0 r.s.c0, .slice r.s.A1 r.s.n1 r.s.c1, .slice r.s.A2 r.s.n2 r.s.c2, .slice r.s.A3 r.s.n3 r.s.c3, .int .i64 x.size, .int .i64 x.at_, .int .i64 x.tag, .slice r.bA r.bn r.bc]] W (TakeNo p tm0 i0 t0 sz0 u0 A n c xs W) := by
  have HBAD := Lib.hid hb
  clear hb
  have HO : Hid (Ok W ((W.alloc (.cells #[.int .u8 x.kind, .int .i64 x.group, .int .i64 x.from_, .int .i64 x.to_, .int .i64 x.term, .int .i64 x.index, .int .i64 x.logterm, .int .i64 x.commit, .bool x.ok, .slice r.eA x.es.length r.ec, .int .i64 x.bi, .int .i64 x.bt, .slice r.s.A0 r.s.n0 r.s.c0, .slice r.s.A1 r.s.n1 r.s.c1, .slice r.s.A2 r.s.n2 r.s.c2, .slice r.s.A3 r.s.n3 r.s.c3, .int .i64 x.size, .int .i64 x.at_, .int .i64 x.tag, .slice r.bA r.bn r.bc] 95)).alloc (.cells #[.int .i64 0, .int .i64 0, .slice none 0 0, .slice none 0 0, .slice none 0 0, .slice none 0 0, .slice none 0 0] 97))) := Lib.hid (((Ok.refl W).alloc _).alloc _)
  have HF : Hid (FAt p tm0 i0 t0 sz0 u0 A n c xs ((W.alloc (.cells #[.int .u8 x.kind, .int .i64 x.group, .int .i64 x.from_, .int .i64 x.to_, .int .i64 x.term, .int .i64 x.index, .int .i64 x.logterm, .int .i64 x.commit, .bool x.ok, .slice r.eA x.es.length r.ec, .int .i64 x.bi, .int .i64 x.bt, .slice r.s.A0 r.s.n0 r.s.c0, .slice r.s.A1 r.s.n1 r.s.c1, .slice r.s.A2 r.s.n2 r.s.c2, .slice r.s.A3 r.s.n3 r.s.c3, .int .i64 x.size, .int .i64 x.at_, .int .i64 x.tag, .slice r.bA r.bn r.bc] 95)).alloc (.cells #[.int .i64 0, .int .i64 0, .slice none 0 0, .slice none 0 0, .slice none 0 0, .slice none 0 0, .slice none 0 0] 97))) := Lib.hid (h.ok HO.out)
  have HRX : Hid (((W.alloc (.cells #[.int .u8 x.kind, .int .i64 x.group, .int .i64 x.from_, .int .i64 x.to_, .int .i64 x.term, .int .i64 x.index, .int .i64 x.logterm, .int .i64 x.commit, .bool x.ok, .slice r.eA x.es.length r.ec, .int .i64 x.bi, .int .i64 x.bt, .slice r.s.A0 r.s.n0 r.s.c0, .slice r.s.A1 r.s.n1 r.s.c1, .slice r.s.A2 r.s.n2 r.s.c2, .slice r.s.A3 r.s.n3 r.s.c3, .int .i64 x.size, .int .i64 x.at_, .int .i64 x.tag, .slice r.bA r.bn r.bc] 95)).alloc (.cells #[.int .i64 0, .int .i64 0, .slice none 0 0, .slice none 0 0, .slice none 0 0, .slice none 0 0, .slice none 0 0] 97)).rangeAt W.heap.size 0 [.int .u8 x.kind, .int .i64 x.group, .int .i64 x.from_, .int .i64 x.to_, .int .i64 x.term, .int .i64 x.index, .int .i64 x.logterm, .int .i64 x.commit, .bool x.ok, .slice r.eA x.es.length r.ec, .int .i64 x.bi, .int .i64 x.bt, .slice r.s.A0 r.s.n0 r.s.c0, .slice r.s.A1 r.s.n1 r.s.c1, .slice r.s.A2 r.s.n2 r.s.c2, .slice r.s.A3 r.s.n3 r.s.c3, .int .i64 x.size, .int .i64 x.at_, .int .i64 x.tag, .slice r.bA r.bn r.bc]) := Lib.hid (World.rangeAt_alloc (range_new W [.int .u8 x.kind, .int .i64 x.group, .int .i64 x.from_, .int .i64 x.to_, .int .i64 x.term, .int .i64 x.index, .int .i64 x.logterm, .int .i64 x.commit, .bool x.ok, .slice r.eA x.es.length r.ec, .int .i64 x.bi, .int .i64 x.bt, .slice r.s.A0 r.s.n0 r.s.c0, .slice r.s.A1 r.s.n1 r.s.c1, .slice r.s.A2 r.s.n2 r.s.c2, .slice r.s.A3 r.s.n3 r.s.c3, .int .i64 x.size, .int .i64 x.at_, .int .i64 x.tag, .slice r.bA r.bn r.bc] 95) _)
  have HS7 : Hid (Seven (W.heap.size + 1) (.int .i64 0) (.int .i64 0) (.slice none 0 0) (.slice none 0 0) (.slice none 0 0) (.slice none 0 0) (.slice none 0 0) ((W.alloc (.cells #[.int .u8 x.kind, .int .i64 x.group, .int .i64 x.from_, .int .i64 x.to_, .int .i64 x.term, .int .i64 x.index, .int .i64 x.logterm, .int .i64 x.commit, .bool x.ok, .slice r.eA x.es.length r.ec, .int .i64 x.bi, .int .i64 x.bt, .slice r.s.A0 r.s.n0 r.s.c0, .slice r.s.A1 r.s.n1 r.s.c1, .slice r.s.A2 r.s.n2 r.s.c2, .slice r.s.A3 r.s.n3 r.s.c3, .int .i64 x.size, .int .i64 x.at_, .int .i64 x.tag, .slice r.bA r.bn r.bc] 95)).alloc (.cells #[.int .i64 0, .int .i64 0, .slice none 0 0, .slice none 0 0, .slice none 0 0, .slice none 0 0, .slice none 0 0] 97))) := Lib.hid (by have := Seven.new (W.alloc (.cells #[.int .u8 x.kind, .int .i64 x.group, .int .i64 x.from_, .int .i64 x.to_, .int .i64 x.term, .int .i64 x.index, .int .i64 x.logterm, .int .i64 x.commit, .bool x.ok, .slice r.eA x.es.length r.ec, .int .i64 x.bi, .int .i64 x.bt, .slice r.s.A0 r.s.n0 r.s.c0, .slice r.s.A1 r.s.n1 r.s.c1, .slice r.s.A2 r.s.n2 r.s.c2, .slice r.s.A3 r.s.n3 r.s.c3, .int .i64 x.size, .int .i64 x.at_, .int .i64 x.tag, .slice r.bA r.bn r.bc] 95)) (.int .i64 0) (.int .i64 0) (.slice none 0 0) (.slice none 0 0) (.slice none 0 0) (.slice none 0 0) (.slice none 0 0) 97; rwa [World.size_alloc] at this)
  have HZZ : Hid (W.heap.size + 2 ≤ ((W.alloc (.cells #[.int .u8 x.kind, .int .i64 x.group, .int .i64 x.from_, .int .i64 x.to_, .int .i64 x.term, .int .i64 x.index, .int .i64 x.logterm, .int .i64 x.commit, .bool x.ok, .slice r.eA x.es.length r.ec, .int .i64 x.bi, .int .i64 x.bt, .slice r.s.A0 r.s.n0 r.s.c0, .slice r.s.A1 r.s.n1 r.s.c1, .slice r.s.A2 r.s.n2 r.s.c2, .slice r.s.A3 r.s.n3 r.s.c3, .int .i64 x.size, .int .i64 x.at_, .int .i64 x.tag, .slice r.bA r.bn r.bc] 95)).alloc (.cells #[.int .i64 0, .int .i64 0, .slice none 0 0, .slice none 0 0, .slice none 0 0, .slice none 0 0, .slice none 0 0] 97)).heap.size) := Lib.hid (by rw [World.size_alloc, World.size_alloc]; omega)
  obtain ⟨d80, hd80, hrow⟩ : ∃ d, Try.prog.underlying 95 = some d ∧ d.isRow = true := ⟨_, Try.underlying95, rfl⟩
  have HD := Lib.hid (And.intro hd80 hrow)
  have HOB := Lib.hid h.ownGe
  have HPL := Lib.hid h.lt
  clear hd80 hrow h
  go_enter Try.func77, Try.ntmps77
  go_upto_region 1 with fail
  rename_i K0 hK0
  have HK0 := Lib.hid hK0
  clear hK0
  generalize ((W.alloc (.cells #[.int .u8 x.kind, .int .i64 x.group, .int .i64 x.from_, .int .i64 x.to_, .int .i64 x.term, .int .i64 x.index, .int .i64 x.logterm, .int .i64 x.commit, .bool x.ok, .slice r.eA x.es.length r.ec, .int .i64 x.bi, .int .i64 x.bt, .slice r.s.A0 r.s.n0 r.s.c0, .slice r.s.A1 r.s.n1 r.s.c1, .slice r.s.A2 r.s.n2 r.s.c2, .slice r.s.A3 r.s.n3 r.s.c3, .int .i64 x.size, .int .i64 x.at_, .int .i64 x.tag, .slice r.bA r.bn r.bc] 95)).alloc (.cells #[.int .i64 0, .int .i64 0, .slice none 0 0, .slice none 0 0, .slice none 0 0, .slice none 0 0, .slice none 0 0] 97)) = w0 at *
  obtain ⟨g, hg⟩ : ∃ g, W.heap.size = g := ⟨_, rfl⟩
  have HG := Lib.hid hg
  rw [hg] at HRX HS7 HZZ HOB HPL ⊢
  clear hg
  refine wp_region_lit ?_
  refine wpList_step (fun K hK => ?_)
  rw [if_pos (by rfl)]
  go_simp
  refine hK _ _ ?_
  clear hK K
  try go_frame
  refine wpList_step (fun K hK => ?_)
  rw [if_pos (by rfl)]
  go_simp
  refine (fnone_f p w0 HF.out.c6).mono ?_
  rintro _ w1 ⟨rfl, rfl⟩
  refine hK _ _ ?_
  clear hK K
  try go_frame
  refine wpList_step (fun K hK => ?_)
  rw [if_pos (by rfl)]
  go_simp
  refine hK _ _ ?_
  clear hK K
  try go_frame
  refine wpList_load_w (by rfl) 95 (.tmp 3) rfl g 0 rfl [.int .u8 x.kind, .int .i64 x.group, .int .i64 x.from_, .int .i64 x.to_, .int .i64 x.term, .int .i64 x.index, .int .i64 x.logterm, .int .i64 x.commit, .bool x.ok, .slice r.eA x.es.length r.ec, .int .i64 x.bi, .int .i64 x.bt, .slice r.s.A0 r.s.n0 r.s.c0, .slice r.s.A1 r.s.n1 r.s.c1, .slice r.s.A2 r.s.n2 r.s.c2, .slice r.s.A3 r.s.n3 r.s.c3, .int .i64 x.size, .int .i64 x.at_, .int .i64 x.tag, .slice r.bA r.bn r.bc] d80 HRX.out HD.out.1 HD.out.2 info80 ?_
  try go_frame
  refine wpList_step (fun K hK => ?_)
  rw [if_pos (by rfl)]
  go_simp
  refine (may_f r x w0).mono ?_
  rintro _ w1 ⟨rfl, o1⟩
  rw [HBAD.out]
  have HO1 := Lib.hid o1
  clear o1
  refine hK _ _ ?_
  clear hK K
  try go_frame
  refine wpList_step (fun K hK => ?_)
  rw [if_pos (by rfl)]
  go_simp
  refine hK _ _ ?_
  clear hK K
  try go_frame
  refine wpList_step (fun K hK => ?_)
  rw [if_pos (by rfl)]
  go_simp
  refine hK _ _ ?_
  clear hK K
  try go_frame
  refine wpList_nil ?_
  refine HK0.out _ _ ?_
  clear HK0
  have HS4 := Lib.hid (HS7.out.ok HO1.out)
  have z0 := HS4.out.c0
  have z1 := HS4.out.c1
  have z2 := HS4.out.c2
  have z3 := HS4.out.c3
  have z4 := HS4.out.c4
  have z5 := HS4.out.c5
  have z6 := HS4.out.c6
  have y0 := HS4.out.f 0
  have y1 := HS4.out.f 1
  have y2 := HS4.out.f 2
  have y3 := HS4.out.f 3
  have y4 := HS4.out.f 4
  have y5 := HS4.out.f 5
  have y6 := HS4.out.f 6
  go_wp2_with fail
  refine bodyPost_ret (v := .tuple #[.int .i64 0, .bool false, .agg #[.int .i64 0, .int .i64 0, .slice none 0 0, .slice none 0 0, .slice none 0 0, .slice none 0 0, .slice none 0 0]]) (by simp [results, Try.results77, go_sem, z0, z1, z2, z3, z4, z5, z6]; try rfl) rfl ?_
  clear z0 z1 z2 z3 z4 z5 z6 y0 y1 y2 y3 y4 y5 y6
  have hn1 : g + 1 ≠ p := by have := HPL.out; omega
  have hn2 : (Value.slice A n c).ownBlock ≠ some (g + 1) := fun e => by have := HOB.out _ e; omega
  refine ⟨rfl, ?_, ?_⟩
  · (repeat (refine FAt.far ?_ (g + 1) _ _ hn1 hn2)); exact HF.out.ok HO1.out
  · have hgW : W.heap.size ≤ g + 1 := by have := HG.out; omega
    show Below W.heap.size W _
    (repeat (refine Below.setCell ?_ hgW _)); exact HO.out.trans HO1.out
end Go.Proofs.Ytolfdncmlfnbdaa
