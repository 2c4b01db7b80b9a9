/- A row read by the document's reader. -/
import Derived.Test.YtebhcadolnjplaaGreatMu
namespace Go.Proofs.YtebhcadolnjplaaGreat
open Go.RowKit
/-- At most block g has turned of what was there. -/
structure Alo (g : Nat) (w w' : World) : Prop where
  os : w'.os = w.os
  tape : w'.tape = w.tape
  output : w'.output = w.output
  size : w.heap.size ≤ w'.heap.size
  block : ∀ k, k ≠ g → k < w.heap.size → w'.heap[k]? = w.heap[k]?
theorem Alo.refl (g : Nat) (w : World) : Alo g w w := ⟨rfl, rfl, rfl, Nat.le_refl _, fun _ _ _ => rfl⟩
theorem Alo.trans {g : Nat} {a b c : World} (h : Alo g a b) (k : Alo g b c) : Alo g a c :=
  ⟨k.os.trans h.os, k.tape.trans h.tape, k.output.trans h.output, Nat.le_trans h.size k.size, fun i hi hj => (k.block i hi (Nat.lt_of_lt_of_le hj h.size)).trans (h.block i hi hj)⟩
theorem Alo.only {g : Nat} {a b : World} (h : Only g a b) : Alo g a b := ⟨h.1, h.2.1, h.2.2.1, Nat.le_of_eq h.2.2.2.1.symm, fun k hk _ => h.2.2.2.2 k hk⟩
theorem Alo.ok {g : Nat} {a b : World} (h : Ok a b) : Alo g a b := ⟨h.os, h.tape, h.output, h.size, fun k _ hk => h.block k hk⟩
theorem Alo.below {g : Nat} {a b : World} (h : Alo g a b) {B : Nat} (hB : B ≤ g) (hs : B ≤ a.heap.size) : Below B a b :=
  ⟨h.os, h.tape, h.output, h.size, fun k hk => h.block k (by omega) (by omega)⟩
theorem Rf.ok {W0 : World} {m : Nat} {w w' : World} {xs : List B8} {f : Bool} (h : Rf W0 m w xs f) (k : Ok w w') : Rf W0 m w' xs f := by
  obtain ⟨h1, h2, ⟨v, hv, h0⟩, h3, h4, h5⟩ := h
  have hm : m < w.heap.size := World.block_lt_of_cell? _ _ h0
  exact ⟨h1, Ok.trans h2 k, ⟨v, hv, k.cell h0⟩, k.cell h3, by rw [Below.frozen k (p := ⟨m, 0, none⟩) hm]; exact h4, by rw [Below.frozen k (p := ⟨m, 1, none⟩) hm]; exact h5⟩
theorem Rf.lt {W0 : World} {m : Nat} {w : World} {xs : List B8} {f : Bool} (h : Rf W0 m w xs f) : m < w.heap.size := by
  obtain ⟨v, _, h0⟩ := h.2.2.1
  exact World.block_lt_of_cell? _ _ h0
theorem own_zero (w : World) : OwnN (w.alloc (.cells #[] 5)) w.heap.size (.slice (some ⟨w.heap.size, 0, none⟩) 0 0) [] :=
  ⟨rfl, .inr ⟨w.heap.size, 0, #[], rfl, Nat.le_refl _, heap_alloc_new w _, Nat.le_refl _, by unfold maxLen; omega, rfl, rfl⟩⟩
def RowF (W0 : World) (g : Nat) (w : World) (zs ys : List B8) (f : Bool) (e : Ending) (w' : World) : Prop := ∃ v, e = .returned v ∧ BytesIn w' v zs ∧ Rf W0 g w' ys f ∧ Alo g w w'
set_option maxRecDepth 100000 in
set_option maxHeartbeats 2000000 in
theorem Row_any (W0 : World) (g : Nat) (w : World) (xs : List B8) (f : Bool) (m : Nat) (hm : m ≤ 1000000) (h : Rf W0 g w xs f) :
    Calls Tryz.prog 88 #[.pointer (some ⟨g, 0, none⟩), .int .i64 (m : Int)] w (RowF W0 g w (rowM m xs f).1 (rowM m xs f).2.1 (rowM m xs f).2.2) := by
  have HN := Lib.hid (rnum_w W0 g w xs f m (by unfold topN; omega) h)
  have HFAIL := Lib.hid (rowM_fail m xs f)
  have HFEW := Lib.hid (rowM_few m xs f)
  have HLIVE := Lib.hid (rowM_live m xs f)
  have HLE := Lib.hid (numM_le m xs f)
  clear h
  generalize rowM m xs f = R at *
  generalize numM m xs f = Z at *
  obtain ⟨N, ys, ff⟩ := Z
  simp only at HN HFEW HFAIL HLIVE HLE
  go_enter Tryz.func88, Tryz.ntmps88
  go_wp2_with fail
  refine HN.out.mono ?_
  rintro _ w1 ⟨rfl, hr, ho⟩
  have HR := Lib.hid hr
  have HO := Lib.hid ho
  obtain ⟨_, _, ⟨v, hv, h0⟩, h1, h3, h4⟩ := hr
  have hgs := HR.out.lt
  clear ho HN
  cases ff with
  | true =>
    have HZ := Lib.hid (HFAIL.out rfl)
    clear HFEW HLIVE HFAIL hv
    go_wp2_with fail
    go_ret
    rw [HZ.out]
    exact ⟨_, rfl, BytesIn.nil _, HR.out, Alo.only HO.out⟩
  | false =>
  obtain ⟨A, c, rfl, _⟩ := hv.form
  obtain ⟨l, hl⟩ : ∃ l, ys.length = l := ⟨_, rfl⟩
  rw [hl] at hv h0 HFEW HLIVE
  have HL := Lib.hid hl
  have HV := Lib.hid hv
  have hlc : l ≤ c := by
    rcases hv with ⟨rfl, _⟩ | ⟨_, _, _, e, hc, _⟩
    · simp at hl; omega
    · simp only [Value.slice.injEq] at e; omega
  clear hv hl HFAIL
  by_cases hlt : l < N
  · have HZ := Lib.hid (HFEW.out hlt)
    have d1 : decide ((l : Int) < (N : Int)) = true := decide_eq_true (by omega)
    have d3 : decide (l < N) = true := decide_eq_true (by omega)
    clear HFEW HLIVE hlt
    go_wp2_with fail
    refine (rfail_w W0 g _ _ _ HR.out).mono ?_
    rintro _ w2 ⟨rfl, hr2, ho2⟩
    have HR2 := Lib.hid hr2
    have HO2 := Lib.hid ho2
    clear hr2 ho2
    go_wp2_with fail
    go_ret
    rw [HZ.out]
    exact ⟨_, rfl, BytesIn.nil _, HR2.out, Alo.only (HO.out.trans HO2.out)⟩
  · have HZ := Lib.hid (HLIVE.out rfl hlt)
    have d1 : decide ((l : Int) < (N : Int)) = false := decide_eq_false (by omega)
    have d3 : decide (l < N) = false := decide_eq_false (by omega)
    have HT := Lib.hid (bytes_take HV.out (show N ≤ ys.length by have := HL.out; omega))
    have HD := Lib.hid (bytes_drop HV.out (show N ≤ ys.length by have := HL.out; omega))
    have HTL : Hid ((ys.take N).length = N) := Lib.hid (by rw [List.length_take]; have := HL.out; omega)
    have hNl : N ≤ l := by omega
    have hNc : N ≤ c := by omega
    have hN0 : (0 : Int) ≤ (N : Int) := by omega
    have hN1 : (N : Int) ≤ (l : Int) := by omega
    have hN2 : (N : Int) ≤ (c : Int) := by omega
    generalize hts : ys.take N = ts at *
    generalize hds : ys.drop N = ds at *
    clear hts hds HFEW HLIVE hlt
    have HO1 := Lib.hid (own_zero w1)
    have HOK1 : Hid (Ok w1 (w1.alloc (.cells #[] 5))) := Lib.hid ((Ok.refl w1).alloc _)
    have HT1 : Hid (BytesIn (w1.alloc (.cells #[] 5)) (.slice A N c) ts) := Lib.hid (HOK1.out.bytes (HR.out.2.1.bytes HT.out))
    have HEND : Hid (∀ (A' : Option Addr) (c' : Nat) (w3 : World) (V : Value), OwnN w3 w1.heap.size (.slice A' N c') ts → Ok w1 w3 → BytesIn W0 V ds → RowF W0 g w R.1 R.2.1 R.2.2 (.returned (.slice A' N c')) (w3.setCell ⟨g, 0, none⟩ V)) := Lib.hid fun A' c' w3 V h1 h2 h3 => by
      have hr3 := HR.out.ok h2
      have hlt3 : ∀ b, (Value.slice A' N c').ownBlock = some b → b ≠ g := fun b hb => by
        have := (World.ownsRow.lt h1 b hb).1; omega
      obtain ⟨_, _, ⟨v, _, k0⟩, k1, k3, k4⟩ := hr3
      rw [HZ.out]
      refine ⟨_, rfl, (h1.bytes (by rw [HTL.out]; have := HLE.out; omega)).same fun b hb => Below.heap_setCell _ _ _ _ (hlt3 b hb), ?_, (Alo.only HO.out).trans ((Alo.ok h2).trans (Alo.only ((Only.refl g w3).set 0 _)))⟩
      exact (HR.out.ok h2).set h3 ((Only.refl g w3).set 0 _) (by go_simp) (by go_simp) (by go_simp) (by go_simp)
    have HSL : Hid ([] ++ ts = ts) := Lib.hid rfl
    clear HZ HR HO
    cases A with
    | none =>
      have HD2 : Hid (BytesIn W0 (.slice none (l - N) (c - N)) ds) := Lib.hid (by
        have := HD.out
        split at this <;> exact this)
      go_wp2_with (at_builtin; go_must (refine wpList_app rfl (.tmp 23) (.tmp 29) rfl w1.heap.size (.slice (some ⟨w1.heap.size, 0, none⟩) 0 0) [] ts (.slice none N c) rfl rfl HO1.out HT1.out (by rw [HTL.out]; have := HLE.out; simp only [List.length_nil]; omega) HOK1.out.size ?_; rw [List.length_nil, HTL.out, Nat.zero_add, HSL.out]; intro A' c' w3 hown3 hbel3; have hok3 : Ok w1 w3 := Below.trans HOK1.out hbel3; have HOW := Lib.hid hown3; have c0 := hok3.cell h0; have f0 : w3.frozen? ⟨g, 0, none⟩ = false := (by rw [Below.frozen hok3 (p := ⟨g, 0, none⟩) hgs]; exact h3); have HOK3 := Lib.hid hok3; clear hown3 hbel3 hok3))
      go_ret
      exact HEND.out _ _ _ _ HOW.out HOK3.out HD2.out
    | some a =>
      by_cases hcN : c = N
      · have HD2 : Hid (BytesIn W0 (.slice (some a) 0 0) ds) := Lib.hid (by
          have := HD.out
          rwa [if_pos hcN, show l - N = 0 by omega, show c - N = 0 by omega] at this)
        subst hcN
        go_wp2_with (at_builtin; go_must (refine wpList_app rfl (.tmp 23) (.tmp 29) rfl w1.heap.size (.slice (some ⟨w1.heap.size, 0, none⟩) 0 0) [] ts (.slice (some a) c c) rfl rfl HO1.out HT1.out (by rw [HTL.out]; have := HLE.out; simp only [List.length_nil]; omega) HOK1.out.size ?_; rw [List.length_nil, HTL.out, Nat.zero_add, HSL.out]; intro A' c' w3 hown3 hbel3; have hok3 : Ok w1 w3 := Below.trans HOK1.out hbel3; have HOW := Lib.hid hown3; have c0 := hok3.cell h0; have f0 : w3.frozen? ⟨g, 0, none⟩ = false := (by rw [Below.frozen hok3 (p := ⟨g, 0, none⟩) hgs]; exact h3); have HOK3 := Lib.hid hok3; clear hown3 hbel3 hok3))
        go_ret
        exact HEND.out _ _ _ _ HOW.out HOK3.out HD2.out
      · have HD2 : Hid (BytesIn W0 (.slice (some (a.add N)) (l - N) (c - N)) ds) := Lib.hid (by
          have := HD.out
          rwa [if_neg hcN] at this)
        go_wp2_with (at_builtin; go_must (refine wpList_app rfl (.tmp 23) (.tmp 29) rfl w1.heap.size (.slice (some ⟨w1.heap.size, 0, none⟩) 0 0) [] ts (.slice (some a) N c) rfl rfl HO1.out HT1.out (by rw [HTL.out]; have := HLE.out; simp only [List.length_nil]; omega) HOK1.out.size ?_; rw [List.length_nil, HTL.out, Nat.zero_add, HSL.out]; intro A' c' w3 hown3 hbel3; have hok3 : Ok w1 w3 := Below.trans HOK1.out hbel3; have HOW := Lib.hid hown3; have c0 := hok3.cell h0; have f0 : w3.frozen? ⟨g, 0, none⟩ = false := (by rw [Below.frozen hok3 (p := ⟨g, 0, none⟩) hgs]; exact h3); have HOK3 := Lib.hid hok3; clear hown3 hbel3 hok3))
        go_ret
        exact HEND.out _ _ _ _ HOW.out HOK3.out HD2.out
end Go.Proofs.YtebhcadolnjplaaGreat
