/- A ferry takes a piece: what is no piece of its crossing, nor a beginning. -/
import Derived.Test.YtnjaiiifafbbjaaFg
import Derived.Lib.QuietBelow
namespace Go.Proofs.Ytnjaiiifafbbjaa
open Go.RowKit

theorem info75 : (Try.prog.info? 75).map (·.size) = some 7 := by kernel_rfl
theorem wpList_load_w {ops : Array Oper} {rest : List Oper} {op : Oper} {a : Act} {w : World} {Q : Exit → Act → World → Prop} (hw : Region.wanted op (yielded ops a.tmps) = true) (ty : TypeId) (x : Operand) (ho : op.op = .load ty x)
    (b o : Nat) (hx : a.eval x = .pointer (some ⟨b, o, none⟩)) (cs : List Value) (d : TypeDesc) (hc : w.rangeAt b o cs)
    (hu : Try.prog.underlying ty = some d) (hd : d.isRow = true) (hi : (Try.prog.info? ty).map (·.size) = some cs.length)
    (h : wpList Try.prog ops Q rest (a.put op.dst (.agg cs.toArray)) w) : wpList Try.prog ops Q (op :: rest) a w :=
  wpList_step fun K hK => by rw [if_pos hw]; exact wp_load_mid ty x ho b o hx cs d hc hu hd hi (hK _ _ h)
theorem FAt.far {p : Nat} {tm i t sz : Int} {u : Bool} {A : Option Addr} {n c : Nat} {xs : List B8} {w : World} (h : FAt p tm i t sz u A n c xs w) (q o : Nat) (v : Value) (hq : q ≠ p) (ho : (Value.slice A n c).ownBlock ≠ some q) : FAt p tm i t sz u A n c xs (w.setCell ⟨q, o, none⟩ v) := by
  obtain ⟨c0, c1, c2, c3, c4, c5, c6, own, f⟩ := h
  have k : ∀ j u, w.cell? ⟨p, j, none⟩ = some u → (w.setCell ⟨q, o, none⟩ v).cell? ⟨p, j, none⟩ = some u := fun j u hc => by
    rw [World.cell?_setCell_other _ _ _ _ (fun e => hq (congrArg Addr.block e))]; exact hc
  refine ⟨k _ _ c0, k _ _ c1, k _ _ c2, k _ _ c3, k _ _ c4, k _ _ c5, k _ _ c6, ⟨own.1, ?_⟩, fun j => by rw [World.frozen?_setCell]; exact f j⟩
  rcases own.2 with h0 | ⟨b, cap, cur, e, hb, hh, hr⟩
  · exact .inl h0
  · refine .inr ⟨b, cap, cur, e, hb, ?_, hr⟩
    rw [heap_setCell_other w ⟨q, o, none⟩ b v (fun e2 => by rw [e] at ho; exact ho (congrArg some e2))]
    exact hh
/-- Seven cells of a block. -/
structure Seven (g : Nat) (v0 v1 v2 v3 v4 v5 v6 : Value) (w : World) : Prop where
  c0 : w.cell? ⟨g, 0, none⟩ = some v0
  c1 : w.cell? ⟨g, 1, none⟩ = some v1
  c2 : w.cell? ⟨g, 2, none⟩ = some v2
  c3 : w.cell? ⟨g, 3, none⟩ = some v3
  c4 : w.cell? ⟨g, 4, none⟩ = some v4
  c5 : w.cell? ⟨g, 5, none⟩ = some v5
  c6 : w.cell? ⟨g, 6, none⟩ = some v6
  f : ∀ k, w.frozen? ⟨g, k, none⟩ = false
theorem Seven.ok {g : Nat} {v0 v1 v2 v3 v4 v5 v6 : Value} {w w' : World} (h : Seven g v0 v1 v2 v3 v4 v5 v6 w) (k : Ok w w') : Seven g v0 v1 v2 v3 v4 v5 v6 w' := by
  have hg := World.block_lt_of_cell? _ _ h.c0
  exact ⟨k.cell h.c0, k.cell h.c1, k.cell h.c2, k.cell h.c3, k.cell h.c4, k.cell h.c5, k.cell h.c6, fun j => by rw [Below.frozen k (p := ⟨g, j, none⟩) hg]; exact h.f j⟩
theorem Seven.new (w : World) (v0 v1 v2 v3 v4 v5 v6 : Value) (t : TypeId) : Seven w.heap.size v0 v1 v2 v3 v4 v5 v6 (w.alloc (.cells #[v0, v1, v2, v3, v4, v5, v6] t)) :=
  ⟨box_cell _ _ _ _ _ rfl, box_cell _ _ _ _ _ rfl, box_cell _ _ _ _ _ rfl, box_cell _ _ _ _ _ rfl, box_cell _ _ _ _ _ rfl, box_cell _ _ _ _ _ rfl, box_cell _ _ _ _ _ rfl, fun j => by rw [World.frozen?, heap_alloc_new]; simp⟩

/-- The piece is another crossing's, and is no beginning: nothing is taken. -/
def TakeNo (p : Nat) (tm i t sz : Int) (u : Bool) (A : Option Addr) (n c : Nat) (xs : List B8) (W : World) (e : Ending) (w' : World) : Prop :=
  e = .returned (.tuple #[.int .i64 0, .bool false, .agg #[.int .i64 0, .int .i64 0, .slice none 0 0, .slice none 0 0, .slice none 0 0, .slice none 0 0, .slice none 0 0]]) ∧ FAt p tm i t sz u A n c xs w' ∧ Ok W w'

set_option maxRecDepth 100000 in
set_option maxHeartbeats 8000000 in
theorem take_no (p : Nat) (tm i t : Int) (s : S4) (L a m d : Nat) (B : Option Addr) (A : Option Addr) (n c : Nat) (xs : List B8) (W : World) (h : FAt p 4 i t (L : Int) true A n c xs W)
    (htm : tm = 9) (ha0 : 0 < a) (h1 : L ≤ 131072) (h2 : a ≤ L) (h3 : m ≤ L - a) :
    Calls Try.prog 40 #[.pointer (some ⟨p, 0, none⟩), .agg #[.int .u8 5, .int .i64 0, .int .i64 1, .int .i64 2, .int .i64 tm, .int .i64 0, .int .i64 0, .int .i64 0, .bool false, .slice none 0 0, .int .i64 i, .int .i64 t, .slice s.A0 s.n0 s.c0, .slice s.A1 s.n1 s.c1, .slice s.A2 s.n2 s.c2, .slice s.A3 s.n3 s.c3, .int .i64 (L : Int), .int .i64 (a : Int), .int .i64 0, .slice B m d]] W (TakeNo p 4 i t (L : Int) true A n c xs W) := by
  subst htm
  have HO : Hid (Ok W ((W.alloc (.cells #[.int .u8 5, .int .i64 0, .int .i64 1, .int .i64 2, .int .i64 9, .int .i64 0, .int .i64 0, .int .i64 0, .bool false, .slice none 0 0, .int .i64 i, .int .i64 t, .slice s.A0 s.n0 s.c0, .slice s.A1 s.n1 s.c1, .slice s.A2 s.n2 s.c2, .slice s.A3 s.n3 s.c3, .int .i64 (L : Int), .int .i64 (a : Int), .int .i64 0, .slice B m d] 80)).alloc (.cells #[.int .i64 0, .int .i64 0, .slice none 0 0, .slice none 0 0, .slice none 0 0, .slice none 0 0, .slice none 0 0] 75))) := Lib.hid (((Ok.refl W).alloc _).alloc _)
  have HF : Hid (FAt p 4 i t (L : Int) true A n c xs ((W.alloc (.cells #[.int .u8 5, .int .i64 0, .int .i64 1, .int .i64 2, .int .i64 9, .int .i64 0, .int .i64 0, .int .i64 0, .bool false, .slice none 0 0, .int .i64 i, .int .i64 t, .slice s.A0 s.n0 s.c0, .slice s.A1 s.n1 s.c1, .slice s.A2 s.n2 s.c2, .slice s.A3 s.n3 s.c3, .int .i64 (L : Int), .int .i64 (a : Int), .int .i64 0, .slice B m d] 80)).alloc (.cells #[.int .i64 0, .int .i64 0, .slice none 0 0, .slice none 0 0, .slice none 0 0, .slice none 0 0, .slice none 0 0] 75))) := Lib.hid (h.ok HO.out)
  have HRX : Hid (((W.alloc (.cells #[.int .u8 5, .int .i64 0, .int .i64 1, .int .i64 2, .int .i64 9, .int .i64 0, .int .i64 0, .int .i64 0, .bool false, .slice none 0 0, .int .i64 i, .int .i64 t, .slice s.A0 s.n0 s.c0, .slice s.A1 s.n1 s.c1, .slice s.A2 s.n2 s.c2, .slice s.A3 s.n3 s.c3, .int .i64 (L : Int), .int .i64 (a : Int), .int .i64 0, .slice B m d] 80)).alloc (.cells #[.int .i64 0, .int .i64 0, .slice none 0 0, .slice none 0 0, .slice none 0 0, .slice none 0 0, .slice none 0 0] 75)).rangeAt W.heap.size 0 [.int .u8 5, .int .i64 0, .int .i64 1, .int .i64 2, .int .i64 9, .int .i64 0, .int .i64 0, .int .i64 0, .bool false, .slice none 0 0, .int .i64 i, .int .i64 t, .slice s.A0 s.n0 s.c0, .slice s.A1 s.n1 s.c1, .slice s.A2 s.n2 s.c2, .slice s.A3 s.n3 s.c3, .int .i64 (L : Int), .int .i64 (a : Int), .int .i64 0, .slice B m d]) := Lib.hid (World.rangeAt_alloc (range_new W [.int .u8 5, .int .i64 0, .int .i64 1, .int .i64 2, .int .i64 9, .int .i64 0, .int .i64 0, .int .i64 0, .bool false, .slice none 0 0, .int .i64 i, .int .i64 t, .slice s.A0 s.n0 s.c0, .slice s.A1 s.n1 s.c1, .slice s.A2 s.n2 s.c2, .slice s.A3 s.n3 s.c3, .int .i64 (L : Int), .int .i64 (a : Int), .int .i64 0, .slice B m d] 80) _)
  have HS7 : Hid (Seven (W.heap.size + 1) (.int .i64 0) (.int .i64 0) (.slice none 0 0) (.slice none 0 0) (.slice none 0 0) (.slice none 0 0) (.slice none 0 0) ((W.alloc (.cells #[.int .u8 5, .int .i64 0, .int .i64 1, .int .i64 2, .int .i64 9, .int .i64 0, .int .i64 0, .int .i64 0, .bool false, .slice none 0 0, .int .i64 i, .int .i64 t, .slice s.A0 s.n0 s.c0, .slice s.A1 s.n1 s.c1, .slice s.A2 s.n2 s.c2, .slice s.A3 s.n3 s.c3, .int .i64 (L : Int), .int .i64 (a : Int), .int .i64 0, .slice B m d] 80)).alloc (.cells #[.int .i64 0, .int .i64 0, .slice none 0 0, .slice none 0 0, .slice none 0 0, .slice none 0 0, .slice none 0 0] 75))) := Lib.hid (by have := Seven.new (W.alloc (.cells #[.int .u8 5, .int .i64 0, .int .i64 1, .int .i64 2, .int .i64 9, .int .i64 0, .int .i64 0, .int .i64 0, .bool false, .slice none 0 0, .int .i64 i, .int .i64 t, .slice s.A0 s.n0 s.c0, .slice s.A1 s.n1 s.c1, .slice s.A2 s.n2 s.c2, .slice s.A3 s.n3 s.c3, .int .i64 (L : Int), .int .i64 (a : Int), .int .i64 0, .slice B m d] 80)) (.int .i64 0) (.int .i64 0) (.slice none 0 0) (.slice none 0 0) (.slice none 0 0) (.slice none 0 0) (.slice none 0 0) 75; rwa [World.size_alloc] at this)
  have HZZ : Hid (W.heap.size + 2 ≤ ((W.alloc (.cells #[.int .u8 5, .int .i64 0, .int .i64 1, .int .i64 2, .int .i64 9, .int .i64 0, .int .i64 0, .int .i64 0, .bool false, .slice none 0 0, .int .i64 i, .int .i64 t, .slice s.A0 s.n0 s.c0, .slice s.A1 s.n1 s.c1, .slice s.A2 s.n2 s.c2, .slice s.A3 s.n3 s.c3, .int .i64 (L : Int), .int .i64 (a : Int), .int .i64 0, .slice B m d] 80)).alloc (.cells #[.int .i64 0, .int .i64 0, .slice none 0 0, .slice none 0 0, .slice none 0 0, .slice none 0 0, .slice none 0 0] 75)).heap.size) := Lib.hid (by rw [World.size_alloc, World.size_alloc]; omega)
  obtain ⟨d80, hd80, hrow⟩ : ∃ d, Try.prog.underlying 80 = some d ∧ d.isRow = true := ⟨_, Try.underlying80, rfl⟩
  have HD := Lib.hid (And.intro hd80 hrow)
  have HOB := Lib.hid h.ownGe
  have HPL := Lib.hid h.lt
  clear hd80 hrow h
  go_enter Try.func40, Try.ntmps40
  go_upto_region 1 with fail
  rename_i K0 hK0
  have HK0 := Lib.hid hK0
  clear hK0
  generalize ((W.alloc (.cells #[.int .u8 5, .int .i64 0, .int .i64 1, .int .i64 2, .int .i64 9, .int .i64 0, .int .i64 0, .int .i64 0, .bool false, .slice none 0 0, .int .i64 i, .int .i64 t, .slice s.A0 s.n0 s.c0, .slice s.A1 s.n1 s.c1, .slice s.A2 s.n2 s.c2, .slice s.A3 s.n3 s.c3, .int .i64 (L : Int), .int .i64 (a : Int), .int .i64 0, .slice B m d] 80)).alloc (.cells #[.int .i64 0, .int .i64 0, .slice none 0 0, .slice none 0 0, .slice none 0 0, .slice none 0 0, .slice none 0 0] 75)) = w0 at *
  obtain ⟨g, hg⟩ : ∃ g, W.heap.size = g := ⟨_, rfl⟩
  have HG := Lib.hid hg
  rw [hg] at HRX HS7 HZZ HOB HPL ⊢
  clear hg
  refine wp_region_lit ?_
  refine wpList_step (fun K hK => ?_)
  rw [if_pos (by rfl)]
  go_simp
  refine hK _ _ ?_
  clear hK K
  try go_frame
  refine wpList_step (fun K hK => ?_)
  rw [if_pos (by rfl)]
  go_simp
  refine (fnone_f p w0 HF.out.c6).mono ?_
  rintro _ w1 ⟨rfl, rfl⟩
  refine hK _ _ ?_
  clear hK K
  try go_frame
  refine wpList_step (fun K hK => ?_)
  rw [if_pos (by rfl)]
  go_simp
  refine hK _ _ ?_
  clear hK K
  try go_frame
  refine wpList_load_w (by rfl) 80 (.tmp 3) rfl g 0 rfl [.int .u8 5, .int .i64 0, .int .i64 1, .int .i64 2, .int .i64 9, .int .i64 0, .int .i64 0, .int .i64 0, .bool false, .slice none 0 0, .int .i64 i, .int .i64 t, .slice s.A0 s.n0 s.c0, .slice s.A1 s.n1 s.c1, .slice s.A2 s.n2 s.c2, .slice s.A3 s.n3 s.c3, .int .i64 (L : Int), .int .i64 (a : Int), .int .i64 0, .slice B m d] d80 HRX.out HD.out.1 HD.out.2 info80 ?_
  try go_frame
  refine wpList_step (fun K hK => ?_)
  rw [if_pos (by rfl)]
  go_simp
  refine (may_f _ i t s L a m d B w0 h1 h2 h3).mono ?_
  rintro _ w1 ⟨rfl, o1⟩
  have HO1 := Lib.hid o1
  clear o1
  refine hK _ _ ?_
  clear hK K
  try go_frame
  refine wpList_step (fun K hK => ?_)
  rw [if_pos (by rfl)]
  go_simp
  refine hK _ _ ?_
  clear hK K
  try go_frame
  refine wpList_step (fun K hK => ?_)
  rw [if_pos (by rfl)]
  go_simp
  refine hK _ _ ?_
  clear hK K
  try go_frame
  refine wpList_nil ?_
  refine HK0.out _ _ ?_
  clear HK0
  go_upto_region 3 with fail
  rename_i K1 hK1
  have HK1 := Lib.hid hK1
  clear hK1
  refine wp_region_lit ?_
  refine wpList_load_w (by rfl) 80 (.tmp 3) rfl g 0 rfl [.int .u8 5, .int .i64 0, .int .i64 1, .int .i64 2, .int .i64 9, .int .i64 0, .int .i64 0, .int .i64 0, .bool false, .slice none 0 0, .int .i64 i, .int .i64 t, .slice s.A0 s.n0 s.c0, .slice s.A1 s.n1 s.c1, .slice s.A2 s.n2 s.c2, .slice s.A3 s.n3 s.c3, .int .i64 (L : Int), .int .i64 (a : Int), .int .i64 0, .slice B m d] d80 (fun j v hv => HO1.out.cell (HRX.out j v hv)) HD.out.1 HD.out.2 info80 ?_
  try go_frame
  refine wpList_step (fun K hK => ?_)
  rw [if_pos (by rfl)]
  go_simp
  refine (crossingOf_f _ i t (L : Int) (a : Int) s m d B w1).mono ?_
  rintro _ w2 ⟨rfl, o2⟩
  have HO2 := Lib.hid (HO1.out.trans o2)
  clear o2
  refine hK _ _ ?_
  clear hK K
  try go_frame
  refine wpList_step (fun K hK => ?_)
  rw [if_pos (by rfl)]
  go_simp
  refine hK _ _ ?_
  clear hK K
  try go_frame
  refine wpList_step (fun K hK => ?_)
  rw [if_pos (by rfl)]
  go_simp
  refine hK _ _ ?_
  clear hK K
  try go_frame
  refine wpList_nil ?_
  refine HK1.out _ _ ?_
  clear HK1
  have HF3 : Hid (FAt p 4 i t (L : Int) true A n c xs (w2.alloc (.cells #[.int .i64 9, .int .i64 i, .int .i64 t, .int .i64 (L : Int), .bool true] 161))) := Lib.hid ((HF.out.ok HO2.out).ok ((Ok.refl w2).alloc _))
  have HS3 : Hid (Seven (g + 1) (.int .i64 0) (.int .i64 0) (.slice none 0 0) (.slice none 0 0) (.slice none 0 0) (.slice none 0 0) (.slice none 0 0) (w2.alloc (.cells #[.int .i64 9, .int .i64 i, .int .i64 t, .int .i64 (L : Int), .bool true] 161))) := Lib.hid ((HS7.out.ok HO2.out).ok ((Ok.refl w2).alloc _))
  have HRX3 : Hid ((w2.alloc (.cells #[.int .i64 9, .int .i64 i, .int .i64 t, .int .i64 (L : Int), .bool true] 161)).rangeAt g 0 [.int .u8 5, .int .i64 0, .int .i64 1, .int .i64 2, .int .i64 9, .int .i64 0, .int .i64 0, .int .i64 0, .bool false, .slice none 0 0, .int .i64 i, .int .i64 t, .slice s.A0 s.n0 s.c0, .slice s.A1 s.n1 s.c1, .slice s.A2 s.n2 s.c2, .slice s.A3 s.n3 s.c3, .int .i64 (L : Int), .int .i64 (a : Int), .int .i64 0, .slice B m d]) := Lib.hid (fun j v hv => ((Ok.refl w2).alloc _).cell (HO2.out.cell (HRX.out j v hv)))
  have HCR : Hid ((w2.alloc (.cells #[.int .i64 9, .int .i64 i, .int .i64 t, .int .i64 (L : Int), .bool true] 161)).rangeAt w2.heap.size 0 [.int .i64 9, .int .i64 i, .int .i64 t, .int .i64 (L : Int), .bool true]) := Lib.hid (range_new w2 [.int .i64 9, .int .i64 i, .int .i64 t, .int .i64 (L : Int), .bool true] 161)
  have HO3 : Hid (Ok W (w2.alloc (.cells #[.int .i64 9, .int .i64 i, .int .i64 t, .int .i64 (L : Int), .bool true] 161))) := Lib.hid ((HO.out.trans HO2.out).trans ((Ok.refl w2).alloc _))
  have HSZ3 : Hid (w2.heap.size + 1 = (w2.alloc (.cells #[.int .i64 9, .int .i64 i, .int .i64 t, .int .i64 (L : Int), .bool true] 161)).heap.size ∧ g + 2 ≤ w2.heap.size) := Lib.hid ⟨by rw [World.size_alloc], by have := HO2.out.size; have := HZZ.out; omega⟩
  generalize w2.alloc (.cells #[.int .i64 9, .int .i64 i, .int .i64 t, .int .i64 (L : Int), .bool true] 161) = w3 at *
  obtain ⟨q, hq⟩ : ∃ q, w2.heap.size = q := ⟨_, rfl⟩
  rw [hq] at HCR HSZ3 ⊢
  clear hq HF HS7 HRX
  go_upto_region 4 with fail
  rename_i K2 hK2
  have HK2 := Lib.hid hK2
  clear hK2
  refine wp_region_held_drew (S := fun w => (w.cell? ⟨q, 0, none⟩ = some (.int .i64 9) ∧ w.cell? ⟨q, 1, none⟩ = some (.int .i64 i) ∧ w.cell? ⟨q, 2, none⟩ = some (.int .i64 t) ∧ w.cell? ⟨q, 3, none⟩ = some (.int .i64 (L : Int)) ∧ w.cell? ⟨q, 4, none⟩ = some (.bool true)) ∧ (w.cell? ⟨p, 0, none⟩ = some (.int .i64 4) ∧ w.cell? ⟨p, 1, none⟩ = some (.int .i64 i) ∧ w.cell? ⟨p, 2, none⟩ = some (.int .i64 t) ∧ w.cell? ⟨p, 3, none⟩ = some (.int .i64 (L : Int)) ∧ w.cell? ⟨p, 4, none⟩ = some (.bool true))) (by kernel_rfl) ?_ ?_
  · have k := HF3.out.ok ((Ok.refl w3).drew)
    have r : ∀ j v, [.int .i64 9, .int .i64 i, .int .i64 t, .int .i64 (L : Int), .bool true][j]? = some v → w3.drew.cell? ⟨q, j, none⟩ = some v := fun j v hv => ((Ok.refl w3).drew).cell (by have := HCR.out j v hv; rwa [Nat.zero_add] at this)
    exact ⟨⟨r 0 _ rfl, r 1 _ rfl, r 2 _ rfl, r 3 _ rfl, r 4 _ rfl⟩, k.c0, k.c1, k.c2, k.c3, k.c4⟩
  intro hS
  have HO4 : Hid (Ok w3 w3.drew) := Lib.hid ((Ok.refl w3).drew)
  generalize w3.drew = w4 at *
  refine wpAnyH_take (i := 0) (v := ?v0) rfl (by kernel_rfl) (by kernel_rfl) (by kernel_rfl) (fun _ _ _ h => h) (Or.inl ⟨by rfl, ?hy0⟩) hS ?rest0
  case hy0 => ((intro w hSw; (try dsimp only at hSw)); go_simp; (try with_reducible rfl))
  try go_frame
  refine wpAnyH_take (i := 1) (v := ?v1) rfl (by kernel_rfl) (by kernel_rfl) (by kernel_rfl) (fun _ _ _ h => h) (Or.inl ⟨by rfl, ?hy1⟩) hS ?rest1
  case hy1 => ((intro w hSw; (try dsimp only at hSw)); go_simp; (try with_reducible rfl))
  try go_frame
  refine wpAnyH_take (i := 2) (v := ?v2) rfl (by kernel_rfl) (by kernel_rfl) (by kernel_rfl) (fun _ _ _ h => h) (Or.inl ⟨by rfl, ?hy2⟩) hS ?rest2
  case hy2 => ((intro w hSw; (try dsimp only at hSw)); go_simp; (try with_reducible rfl))
  try go_frame
  refine wpAnyH_take (i := 3) (v := ?v3) rfl (by kernel_rfl) (by kernel_rfl) (by kernel_rfl) (fun _ _ _ h => h) (Or.inl ⟨by rfl, ?hy3⟩) hS ?rest3
  case hy3 => ((intro w hSw; (try dsimp only at hSw)); go_simp; (try with_reducible rfl))
  try go_frame
  refine wpAnyH_take (i := 4) (v := ?v4) rfl (by kernel_rfl) (by kernel_rfl) (by kernel_rfl) (fun _ _ _ h => h) (Or.inl ⟨by rfl, ?hy4⟩) hS ?rest4
  case hy4 => ((intro w hSw; (try dsimp only at hSw)); go_simp; (try with_reducible rfl))
  try go_frame
  refine wpAnyH_take (i := 5) (v := ?v5) rfl (by kernel_rfl) (by kernel_rfl) (by kernel_rfl) (fun _ _ _ h => h) (Or.inl ⟨by rfl, ?hy5⟩) hS ?rest5
  case hy5 => ((intro w hSw; (try dsimp only at hSw)); go_simp; (try with_reducible rfl))
  try go_frame
  refine wpAnyH_done (by kernel_rfl) ?_ _
  clear hS
  refine HK2.out _ _ ?_
  clear HK2
  have hx17 : w4.cell? ⟨g, 17, none⟩ = some (.int .i64 (a : Int)) := HO4.out.cell (by have := HRX3.out 17 _ rfl; rwa [Nat.zero_add] at this)
  have d2 : decide ((0 : Int) < (a : Int)) = true := decide_eq_true (by omega)
  have HS4 := Lib.hid (HS3.out.ok HO4.out)
  have z0 := HS4.out.c0
  have z1 := HS4.out.c1
  have z2 := HS4.out.c2
  have z3 := HS4.out.c3
  have z4 := HS4.out.c4
  have z5 := HS4.out.c5
  have z6 := HS4.out.c6
  have y0 := HS4.out.f 0
  have y1 := HS4.out.f 1
  have y2 := HS4.out.f 2
  have y3 := HS4.out.f 3
  have y4 := HS4.out.f 4
  have y5 := HS4.out.f 5
  have y6 := HS4.out.f 6
  go_upto_region 5 with fail
  rename_i K3 hK3
  have HK3 := Lib.hid hK3
  clear hK3
  refine wp_region_lit ?_
  refine wpList_step (fun K hK => ?_)
  rw [if_pos (by rfl)]
  go_simp
  refine hK _ _ ?_
  clear hK K
  try go_frame
  refine wpList_step (fun K hK => ?_)
  rw [if_pos (by rfl)]
  go_simp
  refine hK _ _ ?_
  clear hK K
  try go_frame
  refine wpList_step (fun K hK => ?_)
  rw [if_pos (by rfl)]
  go_simp
  refine hK _ _ ?_
  clear hK K
  try go_frame
  refine wpList_nil ?_
  refine HK3.out _ _ ?_
  clear HK3
  go_upto_region 6 with fail
  rename_i K4 hK4
  have HK4 := Lib.hid hK4
  clear hK4
  refine wp_region_lit ?_
  refine wpList_step (fun K hK => ?_)
  rw [if_pos (by rfl)]
  go_simp
  refine hK _ _ ?_
  clear hK K
  try go_frame
  refine wpList_step (fun K hK => ?_)
  rw [if_pos (by rfl)]
  go_simp
  refine hK _ _ ?_
  clear hK K
  try go_frame
  refine wpList_step (fun K hK => ?_)
  rw [if_pos (by rfl)]
  go_simp
  refine hK _ _ ?_
  clear hK K
  try go_frame
  refine wpList_step (fun K hK => ?_)
  rw [if_pos (by rfl)]
  go_simp
  refine hK _ _ ?_
  clear hK K
  try go_frame
  refine wpList_nil ?_
  refine HK4.out _ _ ?_
  clear HK4
  go_wp2_with fail
  refine bodyPost_ret (v := .tuple #[.int .i64 0, .bool false, .agg #[.int .i64 0, .int .i64 0, .slice none 0 0, .slice none 0 0, .slice none 0 0, .slice none 0 0, .slice none 0 0]]) (by simp [results, Try.results40, go_sem, z0, z1, z2, z3, z4, z5, z6]; try rfl) rfl ?_
  clear z0 z1 z2 z3 z4 z5 z6 y0 y1 y2 y3 y4 y5 y6 hx17 d2
  have hn1 : g + 1 ≠ p := by have := HPL.out; omega
  have hn2 : (Value.slice A n c).ownBlock ≠ some (g + 1) := fun e => by have := HOB.out _ e; omega
  refine ⟨rfl, ?_, ?_⟩
  · (repeat (refine FAt.far ?_ (g + 1) _ _ hn1 hn2)); exact HF3.out.ok HO4.out
  · have hgW : W.heap.size ≤ g + 1 := by have := HG.out; omega
    show Below W.heap.size W _
    (repeat (refine Below.setCell ?_ hgW _)); exact HO3.out.trans HO4.out
end Go.Proofs.Ytnjaiiifafbbjaa
