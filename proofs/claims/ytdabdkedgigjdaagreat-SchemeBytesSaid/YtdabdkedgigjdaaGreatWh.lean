/- A handoff read by the document. -/
import Derived.Test.YtdabdkedgigjdaaGreatWg
import Derived.Test.YtdabdkedgigjdaaGreatWe
import Derived.Laws.IdiomStrings
import Derived.Test.YtdabdkedgigjdaaGreatMw
namespace Go.Proofs.YtdabdkedgigjdaaGreat
open Go.RowKit
/-- A row read: the bytes, what is left, whether it has failed. -/
def rowM (m : Nat) (xs : List B8) (f : Bool) : List B8 × List B8 × Bool :=
  if (numM m xs f).2.2 = true then ([], (numM m xs f).2.1, true) else if (numM m xs f).2.1.length < (numM m xs f).1 then ([], [], true) else ((numM m xs f).2.1.take (numM m xs f).1, (numM m xs f).2.1.drop (numM m xs f).1, false)
theorem numM_zero (m : Nat) (xs : List B8) (f : Bool) (h : (numM m xs f).2.2 = true) : (numM m xs f).1 = 0 := by
  unfold numM at h ⊢
  split
  · rfl
  · rename_i hf
    rw [if_neg hf] at h
    cases hr : rd m xs with
    | none => rfl
    | some p => rw [hr] at h; cases h
theorem rowM_ok (m : Nat) (xs : List B8) (f : Bool) (h : f = true → xs = []) : (rowM m xs f).2.2 = true → (rowM m xs f).2.1 = [] := by
  unfold rowM
  split
  · rename_i h2; intro _; exact numM_ok m xs f h h2
  · split
    · intro _; rfl
    · intro e; cases e
theorem rowM_dead (m : Nat) (xs : List B8) : rowM m xs true = ([], xs, true) := rfl
/-- Live: too few left, or these. -/
theorem rowM_few (m : Nat) (xs : List B8) (f : Bool) (h : (numM m xs f).2.1.length < (numM m xs f).1) : rowM m xs f = ([], [], true) := by
  unfold rowM
  rw [if_pos h]
  split
  · rename_i h2; have := numM_zero m xs f h2; omega
  · rfl
theorem rowM_take (m : Nat) (xs : List B8) (h : ¬ (numM m xs false).2.1.length < (numM m xs false).1) : rowM m xs false = ((numM m xs false).2.1.take (numM m xs false).1, (numM m xs false).2.1.drop (numM m xs false).1, (numM m xs false).2.2) := by
  unfold rowM
  rw [if_neg h]
  split
  · rename_i h2
    have h3 := numM_ok m xs false (fun e => by cases e) h2
    rw [h3, h2]; simp
  · rename_i h2
    rw [show (numM m xs false).2.2 = false by simpa using h2]
theorem rowM_fail (m : Nat) (xs : List B8) (f : Bool) (h : (numM m xs f).2.2 = true) : rowM m xs f = ([], (numM m xs f).2.1, true) := by
  unfold rowM
  rw [if_pos h]
theorem rowM_live (m : Nat) (xs : List B8) (f : Bool) (h : (numM m xs f).2.2 = false) (h2 : ¬ (numM m xs f).2.1.length < (numM m xs f).1) : rowM m xs f = ((numM m xs f).2.1.take (numM m xs f).1, (numM m xs f).2.1.drop (numM m xs f).1, false) := by
  unfold rowM
  rw [if_neg (by rw [h]; decide), if_neg h2]
/-- The text that bytes are. -/
def toStr (zs : List B8) : ByteArray := ⟨(zs.map fun b => UInt8.ofNat b.toNat).toArray⟩
theorem toStr_size (zs : List B8) : (toStr zs).size = zs.length := by
  show (zs.map _).toArray.size = _
  simp
theorem conv_str {w : World} {v : Value} {zs : List B8} (h : BytesIn w v zs) : (convert 49 9 v).run Tryz.prog w = .ok (.string (toStr zs)) w := by
  rcases h with ⟨rfl, A, c, rfl, _⟩ | ⟨b, o, c, rfl, _, _, hc⟩
  · cases A with
    | none =>
      rw [run_convert_bytes_string w 49 9 5 none 0 c Tryz.underlying49 Tryz.underlying5 Tryz.underlying9]
      simp [Conv.bytesToString]
      rfl
    | some a =>
      have := run_convert_bytes_back (P := Tryz.prog) w 49 9 5 a c [] Tryz.underlying49 Tryz.underlying5 Tryz.underlying9 (fun j hj => by simp at hj)
      simpa [toStr] using this
  · have := run_convert_bytes_back (P := Tryz.prog) w 49 9 5 ⟨b, o, none⟩ c (zs.map fun b => UInt8.ofNat b.toNat) Tryz.underlying49 Tryz.underlying5 Tryz.underlying9 (fun j hj => by
      have hj2 : j < zs.length := by simpa using hj
      rw [Addr.add_lit, hc j hj2]
      simp [ub, hj2])
    rwa [List.length_map] at this
def RowR (W0 : World) (g : Nat) (w : World) (zs ys : List B8) (f : Bool) (e : Ending) (w' : World) : Prop := ∃ v, e = .returned v ∧ BytesIn W0 v zs ∧ Rd W0 g w' ys f ∧ Only g w w'
set_option maxRecDepth 100000 in
set_option maxHeartbeats 2000000 in
theorem placeRow_r (W0 : World) (g : Nat) (w : World) (xs : List B8) (m : Nat) (hm : m ≤ topN) (h : Rd W0 g w xs false) :
    Calls Tryz.prog 120 #[.pointer (some ⟨g, 0, none⟩), .int .i64 (m : Int)] w (RowR W0 g w (rowM m xs false).1 (rowM m xs false).2.1 (rowM m xs false).2.2) := by
  have HN := Lib.hid (number_r W0 g w xs m hm h)
  have HFEW := Lib.hid (rowM_few m xs false)
  have HTAKE := Lib.hid (rowM_take m xs)
  have HNM : Hid (numM m xs false = (resN (rd m xs), resL (rd m xs), resF (rd m xs))) := Lib.hid rfl
  clear h
  rw [HNM.out] at HFEW HTAKE
  clear HNM
  generalize rowM m xs false = R at *
  generalize resN (rd m xs) = N at *
  generalize resL (rd m xs) = ys at *
  generalize resF (rd m xs) = ff at *
  simp only at HFEW HTAKE
  go_enter Tryz.func120, Tryz.ntmps120
  go_wp2_with fail
  refine HN.out.mono ?_
  rintro _ w1 ⟨rfl, hr, ho⟩
  have HR := Lib.hid hr
  have HO := Lib.hid ho
  obtain ⟨_, _, ⟨v, hv, h0⟩, h1, h2, h3, h4⟩ := hr
  clear ho HN h1
  obtain ⟨A, c, rfl, _⟩ := hv.form
  obtain ⟨l, hl⟩ : ∃ l, ys.length = l := ⟨_, rfl⟩
  rw [hl] at hv h0 HFEW HTAKE
  have HL := Lib.hid hl
  have HV := Lib.hid hv
  have hlc : l ≤ c := by
    rcases hv with ⟨rfl, _⟩ | ⟨_, _, _, e, hc, _⟩
    · simp at hl; omega
    · simp only [Value.slice.injEq] at e; omega
  clear hv hl
  by_cases hlt : l < N
  · have HZ := Lib.hid (HFEW.out hlt)
    have d1 : decide ((l : Int) < (N : Int)) = true := decide_eq_true (by omega)
    have d3 : decide (l < N) = true := decide_eq_true (by omega)
    clear HFEW HTAKE hlt
    go_wp2_with fail
    refine (fail_r W0 g _ _ _ HR.out).mono ?_
    rintro _ w2 ⟨rfl, hr2, ho2⟩
    have HR2 := Lib.hid hr2
    have HO2 := Lib.hid ho2
    clear hr2 ho2
    go_wp2_with fail
    go_ret
    rw [HZ.out]
    exact ⟨_, rfl, BytesIn.nil W0, HR2.out, HO.out.trans HO2.out⟩
  · have HZ := Lib.hid (HTAKE.out hlt)
    have d1 : decide ((l : Int) < (N : Int)) = false := decide_eq_false (by omega)
    have d3 : decide (l < N) = false := decide_eq_false (by omega)
    have HT := Lib.hid (bytes_take HV.out (show N ≤ ys.length by have := HL.out; omega))
    have HD := Lib.hid (bytes_drop HV.out (show N ≤ ys.length by have := HL.out; omega))
    have HF : Hid (∀ V, BytesIn W0 V (ys.drop N) → Rd W0 g (w1.setCell ⟨g, 0, none⟩ V) (ys.drop N) ff) := Lib.hid fun V hV =>
      HR.out.set hV ((Only.refl g w1).set 0 _) (by go_simp) (by have h5 := HR.out.2.2.2.1; go_simp) (by go_simp) (by go_simp) (by go_simp)
    have hNl : N ≤ l := by omega
    have hNc : N ≤ c := by omega
    have hN0 : (0 : Int) ≤ (N : Int) := by omega
    have hN1 : (N : Int) ≤ (l : Int) := by omega
    have hN2 : (N : Int) ≤ (c : Int) := by omega
    have HEND : Hid (∀ v V, BytesIn W0 v (ys.take N) → BytesIn W0 V (ys.drop N) → RowR W0 g w R.1 R.2.1 R.2.2 (.returned v) (w1.setCell ⟨g, 0, none⟩ V)) := Lib.hid fun v V h1 h2 => by
      rw [HZ.out]
      exact ⟨v, rfl, h1, HF.out V h2, HO.out.trans ((Only.refl g w1).set 0 _)⟩
    clear HFEW HTAKE hlt HF HZ
    cases A with
    | none =>
      have HD2 : Hid (BytesIn W0 (.slice none (l - N) (c - N)) (ys.drop N)) := Lib.hid (by
        have := HD.out
        split at this <;> exact this)
      go_wp2_with fail
      go_ret
      exact HEND.out _ _ HT.out HD2.out
    | some a =>
      by_cases hcN : c = N
      · have HD2 : Hid (BytesIn W0 (.slice (some a) 0 0) (ys.drop N)) := Lib.hid (by
          have := HD.out
          rwa [if_pos hcN, show l - N = 0 by omega, show c - N = 0 by omega] at this)
        subst hcN
        go_wp2_with fail
        go_ret
        exact HEND.out _ _ HT.out HD2.out
      · have HD2 : Hid (BytesIn W0 (.slice (some (a.add N)) (l - N) (c - N)) (ys.drop N)) := Lib.hid (by
          have := HD.out
          rwa [if_neg hcN] at this)
        go_wp2_with fail
        go_ret
        exact HEND.out _ _ HT.out HD2.out
set_option maxHeartbeats 400000 in
theorem Text_any (W0 : World) (g : Nat) (w : World) (xs : List B8) (f : Bool) (m : Nat) (hm : m ≤ topN) (h : Rd W0 g w xs f) :
    Calls Tryz.prog 91 #[.pointer (some ⟨g, 0, none⟩), .int .i64 (m : Int)] w (RdPost W0 g w (.string (toStr (rowM m xs f).1)) (rowM m xs f).2.1 (rowM m xs f).2.2) := by
  have HR := Lib.hid h
  clear h
  cases f with
  | true =>
    rw [rowM_dead]
    go_enter Tryz.func91, Tryz.ntmps91
    go_wp2_with fail
    refine (dead_r W0 g w _ true HR.out).mono ?_
    rintro e w' ⟨rfl, rfl⟩
    go_wp2_with fail
    go_ret
    exact ⟨rfl, HR.out, Only.refl _ _⟩
  | false =>
    have HP := Lib.hid (placeRow_r W0 g w xs m hm HR.out)
    generalize rowM m xs false = R at *
    obtain ⟨zs, ys, ff⟩ := R
    simp only at HP ⊢
    go_enter Tryz.func91, Tryz.ntmps91
    go_wp2_with fail
    refine (dead_r W0 g w _ false HR.out).mono ?_
    rintro e w' ⟨rfl, rfl⟩
    go_wp2_with fail
    refine HP.out.mono ?_
    rintro _ w2 ⟨v, rfl, hz, hr2, ho2⟩
    have hcv := conv_str (hr2.2.1.bytes hz)
    have HR2 := Lib.hid hr2
    have HO2 := Lib.hid ho2
    clear hr2 ho2 hz
    go_wp2_with fail
    clear hcv
    go_ret
    exact ⟨rfl, HR2.out, HO2.out⟩
end Go.Proofs.YtdabdkedgigjdaaGreat
namespace Go.Proofs.YtdabdkedgigjdaaGreat
open Go.RowKit
/-- At most block g has turned of what was there. -/
structure Alo (g : Nat) (w w' : World) : Prop where
  os : w'.os = w.os
  tape : w'.tape = w.tape
  output : w'.output = w.output
  size : w.heap.size ≤ w'.heap.size
  block : ∀ k, k ≠ g → k < w.heap.size → w'.heap[k]? = w.heap[k]?
theorem Alo.refl (g : Nat) (w : World) : Alo g w w := ⟨rfl, rfl, rfl, Nat.le_refl _, fun _ _ _ => rfl⟩
theorem Alo.trans {g : Nat} {a b c : World} (h : Alo g a b) (k : Alo g b c) : Alo g a c :=
  ⟨k.os.trans h.os, k.tape.trans h.tape, k.output.trans h.output, Nat.le_trans h.size k.size, fun i hi hj => (k.block i hi (Nat.lt_of_lt_of_le hj h.size)).trans (h.block i hi hj)⟩
theorem Alo.only {g : Nat} {a b : World} (h : Only g a b) : Alo g a b := ⟨h.1, h.2.1, h.2.2.1, Nat.le_of_eq h.2.2.2.1.symm, fun k hk _ => h.2.2.2.2 k hk⟩
theorem Alo.ok {g : Nat} {a b : World} (h : Ok a b) : Alo g a b := ⟨h.os, h.tape, h.output, h.size, fun k _ hk => h.block k hk⟩
theorem Alo.below {g : Nat} {a b : World} (h : Alo g a b) {B : Nat} (hB : B ≤ g) (hs : B ≤ a.heap.size) : Below B a b :=
  ⟨h.os, h.tape, h.output, h.size, fun k hk => h.block k (by omega) (by omega)⟩
theorem Rf.ok {W0 : World} {m : Nat} {w w' : World} {xs : List B8} {f : Bool} (h : Rf W0 m w xs f) (k : Ok w w') : Rf W0 m w' xs f := by
  obtain ⟨h1, h2, ⟨v, hv, h0⟩, h3, h4, h5⟩ := h
  have hm : m < w.heap.size := World.block_lt_of_cell? _ _ h0
  exact ⟨h1, Ok.trans h2 k, ⟨v, hv, k.cell h0⟩, k.cell h3, by rw [Below.frozen k (p := ⟨m, 0, none⟩) hm]; exact h4, by rw [Below.frozen k (p := ⟨m, 1, none⟩) hm]; exact h5⟩
theorem Rf.lt {W0 : World} {m : Nat} {w : World} {xs : List B8} {f : Bool} (h : Rf W0 m w xs f) : m < w.heap.size := by
  obtain ⟨v, _, h0⟩ := h.2.2.1
  exact World.block_lt_of_cell? _ _ h0
theorem own_zero (w : World) : OwnN (w.alloc (.cells #[] 5)) w.heap.size (.slice (some ⟨w.heap.size, 0, none⟩) 0 0) [] :=
  ⟨rfl, .inr ⟨w.heap.size, 0, #[], rfl, Nat.le_refl _, heap_alloc_new w _, Nat.le_refl _, by unfold maxLen; omega, rfl, rfl⟩⟩
def RowF (W0 : World) (g : Nat) (w : World) (zs ys : List B8) (f : Bool) (e : Ending) (w' : World) : Prop := ∃ v, e = .returned v ∧ BytesIn w' v zs ∧ Rf W0 g w' ys f ∧ Alo g w w'
set_option maxRecDepth 100000 in
set_option maxHeartbeats 2000000 in
theorem Row_any (W0 : World) (g : Nat) (w : World) (xs : List B8) (f : Bool) (m : Nat) (hm : m ≤ 1000000) (h : Rf W0 g w xs f) :
    Calls Tryz.prog 93 #[.pointer (some ⟨g, 0, none⟩), .int .i64 (m : Int)] w (RowF W0 g w (rowM m xs f).1 (rowM m xs f).2.1 (rowM m xs f).2.2) := by
  have HN := Lib.hid (rnum_w W0 g w xs f m (by unfold topN; omega) h)
  have HFAIL := Lib.hid (rowM_fail m xs f)
  have HFEW := Lib.hid (rowM_few m xs f)
  have HLIVE := Lib.hid (rowM_live m xs f)
  have HLE := Lib.hid (numM_le m xs f)
  clear h
  generalize rowM m xs f = R at *
  generalize numM m xs f = Z at *
  obtain ⟨N, ys, ff⟩ := Z
  simp only at HN HFEW HFAIL HLIVE HLE
  go_enter Tryz.func93, Tryz.ntmps93
  go_wp2_with fail
  refine HN.out.mono ?_
  rintro _ w1 ⟨rfl, hr, ho⟩
  have HR := Lib.hid hr
  have HO := Lib.hid ho
  obtain ⟨_, _, ⟨v, hv, h0⟩, h1, h3, h4⟩ := hr
  have hgs := HR.out.lt
  clear ho HN
  cases ff with
  | true =>
    have HZ := Lib.hid (HFAIL.out rfl)
    clear HFEW HLIVE HFAIL hv
    go_wp2_with fail
    go_ret
    rw [HZ.out]
    exact ⟨_, rfl, BytesIn.nil _, HR.out, Alo.only HO.out⟩
  | false =>
  obtain ⟨A, c, rfl, _⟩ := hv.form
  obtain ⟨l, hl⟩ : ∃ l, ys.length = l := ⟨_, rfl⟩
  rw [hl] at hv h0 HFEW HLIVE
  have HL := Lib.hid hl
  have HV := Lib.hid hv
  have hlc : l ≤ c := by
    rcases hv with ⟨rfl, _⟩ | ⟨_, _, _, e, hc, _⟩
    · simp at hl; omega
    · simp only [Value.slice.injEq] at e; omega
  clear hv hl HFAIL
  by_cases hlt : l < N
  · have HZ := Lib.hid (HFEW.out hlt)
    have d1 : decide ((l : Int) < (N : Int)) = true := decide_eq_true (by omega)
    have d3 : decide (l < N) = true := decide_eq_true (by omega)
    clear HFEW HLIVE hlt
    go_wp2_with fail
    refine (rfail_w W0 g _ _ _ HR.out).mono ?_
    rintro _ w2 ⟨rfl, hr2, ho2⟩
    have HR2 := Lib.hid hr2
    have HO2 := Lib.hid ho2
    clear hr2 ho2
    go_wp2_with fail
    go_ret
    rw [HZ.out]
    exact ⟨_, rfl, BytesIn.nil _, HR2.out, Alo.only (HO.out.trans HO2.out)⟩
  · have HZ := Lib.hid (HLIVE.out rfl hlt)
    have d1 : decide ((l : Int) < (N : Int)) = false := decide_eq_false (by omega)
    have d3 : decide (l < N) = false := decide_eq_false (by omega)
    have HT := Lib.hid (bytes_take HV.out (show N ≤ ys.length by have := HL.out; omega))
    have HD := Lib.hid (bytes_drop HV.out (show N ≤ ys.length by have := HL.out; omega))
    have HTL : Hid ((ys.take N).length = N) := Lib.hid (by rw [List.length_take]; have := HL.out; omega)
    have hNl : N ≤ l := by omega
    have hNc : N ≤ c := by omega
    have hN0 : (0 : Int) ≤ (N : Int) := by omega
    have hN1 : (N : Int) ≤ (l : Int) := by omega
    have hN2 : (N : Int) ≤ (c : Int) := by omega
    generalize hts : ys.take N = ts at *
    generalize hds : ys.drop N = ds at *
    clear hts hds HFEW HLIVE hlt
    have HO1 := Lib.hid (own_zero w1)
    have HOK1 : Hid (Ok w1 (w1.alloc (.cells #[] 5))) := Lib.hid ((Ok.refl w1).alloc _)
    have HT1 : Hid (BytesIn (w1.alloc (.cells #[] 5)) (.slice A N c) ts) := Lib.hid (HOK1.out.bytes (HR.out.2.1.bytes HT.out))
    have HEND : Hid (∀ (A' : Option Addr) (c' : Nat) (w3 : World) (V : Value), OwnN w3 w1.heap.size (.slice A' N c') ts → Ok w1 w3 → BytesIn W0 V ds → RowF W0 g w R.1 R.2.1 R.2.2 (.returned (.slice A' N c')) (w3.setCell ⟨g, 0, none⟩ V)) := Lib.hid fun A' c' w3 V h1 h2 h3 => by
      have hr3 := HR.out.ok h2
      have hlt3 : ∀ b, (Value.slice A' N c').ownBlock = some b → b ≠ g := fun b hb => by
        have := (World.ownsRow.lt h1 b hb).1; omega
      obtain ⟨_, _, ⟨v, _, k0⟩, k1, k3, k4⟩ := hr3
      rw [HZ.out]
      refine ⟨_, rfl, (h1.bytes (by rw [HTL.out]; have := HLE.out; omega)).same fun b hb => Below.heap_setCell _ _ _ _ (hlt3 b hb), ?_, (Alo.only HO.out).trans ((Alo.ok h2).trans (Alo.only ((Only.refl g w3).set 0 _)))⟩
      exact (HR.out.ok h2).set h3 ((Only.refl g w3).set 0 _) (by go_simp) (by go_simp) (by go_simp) (by go_simp)
    have HSL : Hid ([] ++ ts = ts) := Lib.hid rfl
    clear HZ HR HO
    cases A with
    | none =>
      have HD2 : Hid (BytesIn W0 (.slice none (l - N) (c - N)) ds) := Lib.hid (by
        have := HD.out
        split at this <;> exact this)
      go_wp2_with (at_builtin; go_must (refine wpList_app rfl (.tmp 23) (.tmp 29) rfl w1.heap.size (.slice (some ⟨w1.heap.size, 0, none⟩) 0 0) [] ts (.slice none N c) rfl rfl HO1.out HT1.out (by rw [HTL.out]; have := HLE.out; simp only [List.length_nil]; omega) HOK1.out.size ?_; rw [List.length_nil, HTL.out, Nat.zero_add, HSL.out]; intro A' c' w3 hown3 hbel3; have hok3 : Ok w1 w3 := Below.trans HOK1.out hbel3; have HOW := Lib.hid hown3; have c0 := hok3.cell h0; have f0 : w3.frozen? ⟨g, 0, none⟩ = false := (by rw [Below.frozen hok3 (p := ⟨g, 0, none⟩) hgs]; exact h3); have HOK3 := Lib.hid hok3; clear hown3 hbel3 hok3))
      go_ret
      exact HEND.out _ _ _ _ HOW.out HOK3.out HD2.out
    | some a =>
      by_cases hcN : c = N
      · have HD2 : Hid (BytesIn W0 (.slice (some a) 0 0) ds) := Lib.hid (by
          have := HD.out
          rwa [if_pos hcN, show l - N = 0 by omega, show c - N = 0 by omega] at this)
        subst hcN
        go_wp2_with (at_builtin; go_must (refine wpList_app rfl (.tmp 23) (.tmp 29) rfl w1.heap.size (.slice (some ⟨w1.heap.size, 0, none⟩) 0 0) [] ts (.slice (some a) c c) rfl rfl HO1.out HT1.out (by rw [HTL.out]; have := HLE.out; simp only [List.length_nil]; omega) HOK1.out.size ?_; rw [List.length_nil, HTL.out, Nat.zero_add, HSL.out]; intro A' c' w3 hown3 hbel3; have hok3 : Ok w1 w3 := Below.trans HOK1.out hbel3; have HOW := Lib.hid hown3; have c0 := hok3.cell h0; have f0 : w3.frozen? ⟨g, 0, none⟩ = false := (by rw [Below.frozen hok3 (p := ⟨g, 0, none⟩) hgs]; exact h3); have HOK3 := Lib.hid hok3; clear hown3 hbel3 hok3))
        go_ret
        exact HEND.out _ _ _ _ HOW.out HOK3.out HD2.out
      · have HD2 : Hid (BytesIn W0 (.slice (some (a.add N)) (l - N) (c - N)) ds) := Lib.hid (by
          have := HD.out
          rwa [if_neg hcN] at this)
        go_wp2_with (at_builtin; go_must (refine wpList_app rfl (.tmp 23) (.tmp 29) rfl w1.heap.size (.slice (some ⟨w1.heap.size, 0, none⟩) 0 0) [] ts (.slice (some a) N c) rfl rfl HO1.out HT1.out (by rw [HTL.out]; have := HLE.out; simp only [List.length_nil]; omega) HOK1.out.size ?_; rw [List.length_nil, HTL.out, Nat.zero_add, HSL.out]; intro A' c' w3 hown3 hbel3; have hok3 : Ok w1 w3 := Below.trans HOK1.out hbel3; have HOW := Lib.hid hown3; have c0 := hok3.cell h0; have f0 : w3.frozen? ⟨g, 0, none⟩ = false := (by rw [Below.frozen hok3 (p := ⟨g, 0, none⟩) hgs]; exact h3); have HOK3 := Lib.hid hok3; clear hown3 hbel3 hok3))
        go_ret
        exact HEND.out _ _ _ _ HOW.out HOK3.out HD2.out
end Go.Proofs.YtdabdkedgigjdaaGreat
namespace Go.Proofs.YtdabdkedgigjdaaGreat
open Go.RowKit
theorem numA (W0 : World) (g : Nat) (w : World) (xs : List B8) (f : Bool) (h : Rd W0 g w xs f) :
    Calls Tryz.prog 90 #[.pointer (some ⟨g, 0, none⟩), .int .i64 1073741824] w (RdPost W0 g w (.int .i64 ((numM 1073741824 xs f).1 : Int)) (numM 1073741824 xs f).2.1 (numM 1073741824 xs f).2.2) := Num_any W0 g w xs f 1073741824 (by decide) h
theorem numB (W0 : World) (g : Nat) (w : World) (xs : List B8) (f : Bool) (h : Rd W0 g w xs f) :
    Calls Tryz.prog 90 #[.pointer (some ⟨g, 0, none⟩), .int .i64 4] w (RdPost W0 g w (.int .i64 ((numM 4 xs f).1 : Int)) (numM 4 xs f).2.1 (numM 4 xs f).2.2) := Num_any W0 g w xs f 4 (by decide) h
theorem numC (W0 : World) (g : Nat) (w : World) (xs : List B8) (f : Bool) (h : Rd W0 g w xs f) :
    Calls Tryz.prog 90 #[.pointer (some ⟨g, 0, none⟩), .int .i64 9] w (RdPost W0 g w (.int .i64 ((numM 9 xs f).1 : Int)) (numM 9 xs f).2.1 (numM 9 xs f).2.2) := Num_any W0 g w xs f 9 (by decide) h
theorem txtA (W0 : World) (g : Nat) (w : World) (xs : List B8) (f : Bool) (h : Rd W0 g w xs f) :
    Calls Tryz.prog 91 #[.pointer (some ⟨g, 0, none⟩), .int .i64 20] w (RdPost W0 g w (.string (toStr (rowM 20 xs f).1)) (rowM 20 xs f).2.1 (rowM 20 xs f).2.2) := Text_any W0 g w xs f 20 (by decide) h
/-- What is read as a handoff, right or not; what is left; whether the reader has failed. -/
def scRd (xs : List B8) (f : Bool) : Sc × List B8 × Bool :=
  let r1 := numM 1073741824 xs f
  let r2 := rowM 20 r1.2.1 r1.2.2
  let r3 := rowM 20 r2.2.1 r2.2.2
  let r4 := numM 4 r3.2.1 r3.2.2
  let r5 := numM 4 r4.2.1 r4.2.2
  let r6 := numM 1073741824 r5.2.1 r5.2.2
  let r7 := numM 1073741824 r6.2.1 r6.2.2
  let r8 := numM 9 r7.2.1 r7.2.2
  (⟨r1.1, ⟨toStr r2.1, toStr r3.1⟩, r4.1, r5.1, r6.1, r7.1, r8.1⟩, r8.2.1, r8.2.2)
theorem scRd_steps (xs : List B8) (f : Bool) : ∃ n1 x1 f1 z2 x2 f2 z3 x3 f3 n4 x4 f4 n5 x5 f5 n6 x6 f6 n7 x7 f7 n8 x8 f8, numM 1073741824 xs f = (n1, x1, f1) ∧ rowM 20 x1 f1 = (z2, x2, f2) ∧ rowM 20 x2 f2 = (z3, x3, f3) ∧ numM 4 x3 f3 = (n4, x4, f4) ∧ numM 4 x4 f4 = (n5, x5, f5) ∧ numM 1073741824 x5 f5 = (n6, x6, f6) ∧ numM 1073741824 x6 f6 = (n7, x7, f7) ∧ numM 9 x7 f7 = (n8, x8, f8) ∧ scRd xs f = (⟨n1, ⟨toStr z2, toStr z3⟩, n4, n5, n6, n7, n8⟩, x8, f8) :=
  ⟨_, _, _, _, _, _, _, _, _, _, _, _, _, _, _, _, _, _, _, _, _, _, _, _, rfl, rfl, rfl, rfl, rfl, rfl, rfl, rfl, rfl⟩
/-- One that failed has no stage. -/
theorem scRd_bad (xs : List B8) (f : Bool) (h : (scRd xs f).2.2 = true) : scB (scRd xs f).1 = false := by
  obtain ⟨n1, x1, f1, z2, x2, f2, z3, x3, f3, n4, x4, f4, n5, x5, f5, n6, x6, f6, n7, x7, f7, n8, x8, f8, -, -, -, -, -, -, -, e8, e⟩ := scRd_steps xs f
  rw [e] at h ⊢
  have h8 := numM_zero 9 x7 f7 (by rw [e8]; exact h)
  rw [e8] at h8
  obtain rfl : n8 = 0 := h8
  simp [scB, sc2, stB]
theorem scRd_ok (xs : List B8) (f : Bool) (h : f = true → xs = []) : (scRd xs f).2.2 = true → (scRd xs f).2.1 = [] := by
  obtain ⟨n1, x1, f1, z2, x2, f2, z3, x3, f3, n4, x4, f4, n5, x5, f5, n6, x6, f6, n7, x7, f7, n8, x8, f8, e1, e2, e3, e4, e5, e6, e7, e8, e⟩ := scRd_steps xs f
  have h1 := numM_ok 1073741824 xs f h
  rw [e1] at h1
  have h2 := rowM_ok 20 x1 f1 h1
  rw [e2] at h2
  have h3 := rowM_ok 20 x2 f2 h2
  rw [e3] at h3
  have h4 := numM_ok 4 x3 f3 h3
  rw [e4] at h4
  have h5 := numM_ok 4 x4 f4 h4
  rw [e5] at h5
  have h6 := numM_ok 1073741824 x5 f5 h5
  rw [e6] at h6
  have h7 := numM_ok 1073741824 x6 f6 h6
  rw [e7] at h7
  have h8 := numM_ok 9 x7 f7 h7
  rw [e8] at h8
  rw [e]
  exact h8
theorem Rd.lt {W0 : World} {g : Nat} {w : World} {xs : List B8} {f : Bool} (h : Rd W0 g w xs f) : g < w.heap.size := by
  obtain ⟨v, _, h0⟩ := h.2.2.1
  exact World.block_lt_of_cell? _ _ h0
theorem Rd.below {W0 : World} {g p : Nat} {w w' : World} {xs : List B8} {f : Bool} (h : Rd W0 g w xs f) (k : Below p w w') (hp : g < p) : Rd W0 g w' xs f := by
  obtain ⟨h1, h2, ⟨v, hv, h0⟩, h3, h4, h5, h6⟩ := h
  exact ⟨h1, Below.trans h2 (k.mono (by omega)), ⟨v, hv, by rw [k.cell (p := ⟨g, 0, none⟩) hp]; exact h0⟩, by rw [k.cell (p := ⟨g, 1, none⟩) hp]; exact h3, by rw [k.cell (p := ⟨g, 2, none⟩) hp]; exact h4, by rw [k.frozen (p := ⟨g, 0, none⟩) hp]; exact h5, by rw [k.frozen (p := ⟨g, 1, none⟩) hp]; exact h6⟩
theorem Rf.below {W0 : World} {g p : Nat} {w w' : World} {xs : List B8} {f : Bool} (h : Rf W0 g w xs f) (k : Below p w w') (hp : g < p) : Rf W0 g w' xs f := by
  obtain ⟨h1, h2, ⟨v, hv, h0⟩, h3, h5, h6⟩ := h
  exact ⟨h1, Below.trans h2 (k.mono (by omega)), ⟨v, hv, by rw [k.cell (p := ⟨g, 0, none⟩) hp]; exact h0⟩, by rw [k.cell (p := ⟨g, 1, none⟩) hp]; exact h3, by rw [k.frozen (p := ⟨g, 0, none⟩) hp]; exact h5, by rw [k.frozen (p := ⟨g, 1, none⟩) hp]; exact h6⟩
theorem Alo.tail {g : Nat} {w a b : World} (h : Alo g w a) (k : Below w.heap.size a b) : Alo g w b :=
  ⟨k.os.trans h.os, k.tape.trans h.tape, k.output.trans h.output, Nat.le_trans h.size k.size, fun i hi hj => (k.block i hj).trans (h.block i hi hj)⟩
theorem Alo.cell {g : Nat} {w w' : World} (h : Alo g w w') {b o : Nat} {v : Value} (hb : b ≠ g) (hc : w.cell? ⟨b, o, none⟩ = some v) : w'.cell? ⟨b, o, none⟩ = some v := by
  have hl := World.block_lt_of_cell? _ _ hc
  rw [World.cell?_of_block (a := ⟨b, o, none⟩) (h.block b hb hl)]; exact hc
theorem Alo.frozen {g : Nat} {w w' : World} (h : Alo g w w') {b o : Nat} (hb : b ≠ g) (hl : b < w.heap.size) (hc : w.frozen? ⟨b, o, none⟩ = false) : w'.frozen? ⟨b, o, none⟩ = false := by
  have := h.block b hb hl
  unfold World.frozen? at hc ⊢
  simp only at hc ⊢
  rw [this]; exact hc
theorem frz_raw {w : World} {p ty : Nat} {cs : Array Value} (h : w.heap[p]? = some (.cells cs ty (0, 0))) (i : Nat) : w.frozen? ⟨p, i, none⟩ = false := by
  simp [World.frozen?, h]
theorem scs_at {w : World} {n : Nat} (x : Sc) (h : w.heap.size = n) : ScsAt (w.alloc (.cells #[.int .i64 x.num, .string x.sp.lo, .string x.sp.hi, .int .i64 x.fr, .int .i64 x.to, .int .i64 x.ep, .int .i64 x.un, .int .u8 x.st] 52)) (some ⟨n, 0, none⟩) [x] := h ▸ scs_one w x
theorem all_one (x : Sc) : [x].all scB = scB x := by simp
def ReadP (W0 : World) (g : Nat) (w : World) (y : Sc) (b : Bool) (ys : List B8) (f : Bool) (e : Ending) (w' : World) : Prop := e = .returned (.tuple #[scV y, .bool b]) ∧ Rd W0 g w' ys f ∧ Alo g w w'
def scIf (x : Sc) : Sc := if scB x = true then x else sc0
set_option maxRecDepth 100000 in
set_option maxHeartbeats 4000000 in
theorem scRead_w (W0 : World) (g : Nat) (w : World) (xs : List B8) (f : Bool) (h : Rd W0 g w xs f) :
    Calls Tryz.prog 45 #[.pointer (some ⟨g, 0, none⟩)] w (ReadP W0 g w (scIf (scRd xs f).1) (scB (scRd xs f).1) (scRd xs f).2.1 (scRd xs f).2.2) := by
  obtain ⟨n1, x1, f1, z2, x2, f2, z3, x3, f3, n4, x4, f4, n5, x5, f5, n6, x6, f6, n7, x7, f7, n8, x8, f8, e1, e2, e3, e4, e5, e6, e7, e8, e⟩ := scRd_steps xs f
  have HLE : Hid (n8 ≤ 9) := Lib.hid (by have := numM_le 9 x7 f7; rw [e8] at this; exact this)
  rw [e]
  simp only
  obtain ⟨R, hR⟩ : ∃ R, scB ⟨n1, ⟨toStr z2, toStr z3⟩, n4, n5, n6, n7, n8⟩ = R := ⟨_, rfl⟩
  obtain ⟨Y, hY⟩ : ∃ Y, scIf ⟨n1, ⟨toStr z2, toStr z3⟩, n4, n5, n6, n7, n8⟩ = Y := ⟨_, rfl⟩
  have HY : Hid (Y = if R = true then ⟨n1, ⟨toStr z2, toStr z3⟩, n4, n5, n6, n7, n8⟩ else sc0) := Lib.hid (by rw [← hY, scIf, hR])
  rw [hR, hY]
  have HRR := Lib.hid hR
  clear hR hY
  have hg := h.lt
  have HR0 := Lib.hid (h.below (((Below.refl w.heap.size w)).alloc (Nat.le_refl _) (.cells #[.int .i64 0, .string ⟨#[]⟩, .string ⟨#[]⟩, .int .i64 0, .int .i64 0, .int .i64 0, .int .i64 0, .int .u8 0] 52)) hg)
  have E1 := Lib.hid e1
  have E2 := Lib.hid e2
  have E3 := Lib.hid e3
  have E4 := Lib.hid e4
  have E5 := Lib.hid e5
  have E6 := Lib.hid e6
  have E7 := Lib.hid e7
  have E8 := Lib.hid e8
  clear e1 e2 e3 e4 e5 e6 e7 e8 e h
  obtain ⟨p, hp⟩ : ∃ p, w.heap.size = p := ⟨_, rfl⟩
  go_enter Tryz.func45, Tryz.ntmps45
  go_wp2_with fail
  have Z0 : (w.alloc (.cells #[.int .i64 0, .string ⟨#[]⟩, .string ⟨#[]⟩, .int .i64 0, .int .i64 0, .int .i64 0, .int .i64 0, .int .u8 0] 52)).heap.size = p + 1 := by simp [hp]
  have ZB := blk_new (o := .cells #[.int .i64 0, .string ⟨#[]⟩, .string ⟨#[]⟩, .int .i64 0, .int .i64 0, .int .i64 0, .int .i64 0, .int .u8 0] 52) hp
  have HA0 := Lib.hid (Alo.ok (g := g) ((Ok.refl w).alloc (.cells #[.int .i64 0, .string ⟨#[]⟩, .string ⟨#[]⟩, .int .i64 0, .int .i64 0, .int .i64 0, .int .i64 0, .int .u8 0] 52)))
  generalize w.alloc (.cells #[.int .i64 0, .string ⟨#[]⟩, .string ⟨#[]⟩, .int .i64 0, .int .i64 0, .int .i64 0, .int .i64 0, .int .u8 0] 52) = V0 at *
  have hgp : g < p := by omega
  have HP := Lib.hid hp
  have HZB := Lib.hid ZB
  have HZ0 := Lib.hid Z0
  clear hp ZB Z0 hg
  refine (by have C := numA W0 g V0 xs f HR0.out; rw [E1.out] at C; exact C : Calls Tryz.prog 90 _ V0 (RdPost W0 g V0 (.int .i64 (n1 : Int)) x1 f1)).mono ?_
  rintro _ w1 ⟨rfl, hr1, o1⟩
  have HR1 := Lib.hid hr1
  have O1 := Lib.hid o1
  clear hr1 o1 HR0 E1
  go_wp2_with fail
  refine (by have C := txtA W0 g w1 x1 f1 HR1.out; rw [E2.out] at C; exact C : Calls Tryz.prog 91 _ w1 (RdPost W0 g w1 (.string (toStr z2)) x2 f2)).mono ?_
  rintro _ w2 ⟨rfl, hr2, o2⟩
  have HR2 := Lib.hid hr2
  have O2 := Lib.hid (O1.out.trans o2)
  clear hr2 o2 O1 HR1 E2
  go_wp2_with fail
  refine (by have C := txtA W0 g w2 x2 f2 HR2.out; rw [E3.out] at C; exact C : Calls Tryz.prog 91 _ w2 (RdPost W0 g w2 (.string (toStr z3)) x3 f3)).mono ?_
  rintro _ w3 ⟨rfl, hr3, o3⟩
  have HR3 := Lib.hid hr3
  have O3 := Lib.hid (O2.out.trans o3)
  clear hr3 o3 O2 HR2 E3
  go_wp2_with fail
  refine (by have C := numB W0 g w3 x3 f3 HR3.out; rw [E4.out] at C; exact C : Calls Tryz.prog 90 _ w3 (RdPost W0 g w3 (.int .i64 (n4 : Int)) x4 f4)).mono ?_
  rintro _ w4 ⟨rfl, hr4, o4⟩
  have HR4 := Lib.hid hr4
  have O4 := Lib.hid (O3.out.trans o4)
  clear hr4 o4 O3 HR3 E4
  go_wp2_with fail
  refine (by have C := numB W0 g w4 x4 f4 HR4.out; rw [E5.out] at C; exact C : Calls Tryz.prog 90 _ w4 (RdPost W0 g w4 (.int .i64 (n5 : Int)) x5 f5)).mono ?_
  rintro _ w5 ⟨rfl, hr5, o5⟩
  have HR5 := Lib.hid hr5
  have O5 := Lib.hid (O4.out.trans o5)
  clear hr5 o5 O4 HR4 E5
  go_wp2_with fail
  refine (by have C := numA W0 g w5 x5 f5 HR5.out; rw [E6.out] at C; exact C : Calls Tryz.prog 90 _ w5 (RdPost W0 g w5 (.int .i64 (n6 : Int)) x6 f6)).mono ?_
  rintro _ w6 ⟨rfl, hr6, o6⟩
  have HR6 := Lib.hid hr6
  have O6 := Lib.hid (O5.out.trans o6)
  clear hr6 o6 O5 HR5 E6
  go_wp2_with fail
  refine (by have C := numA W0 g w6 x6 f6 HR6.out; rw [E7.out] at C; exact C : Calls Tryz.prog 90 _ w6 (RdPost W0 g w6 (.int .i64 (n7 : Int)) x7 f7)).mono ?_
  rintro _ w7 ⟨rfl, hr7, o7⟩
  have HR7 := Lib.hid hr7
  have O7 := Lib.hid (O6.out.trans o7)
  clear hr7 o7 O6 HR6 E7
  go_wp2_with fail
  refine (by have C := numC W0 g w7 x7 f7 HR7.out; rw [E8.out] at C; exact C : Calls Tryz.prog 90 _ w7 (RdPost W0 g w7 (.int .i64 (n8 : Int)) x8 f8)).mono ?_
  rintro _ w8 ⟨rfl, hr8, o8⟩
  have HR8 := Lib.hid hr8
  have O8 := Lib.hid (O7.out.trans o8)
  have hm8 : (n8 : Int) % 256 = n8 := by have := HLE.out; omega
  clear hr8 o8 O7 HR7 E8
  go_wp2_with fail
  clear hm8
  have HRT := Lib.hid (scRight_w (some ⟨w8.heap.size + 1, 0, none⟩) 1 1 [⟨n1, ⟨toStr z2, toStr z3⟩, n4, n5, n6, n7, n8⟩] rfl (by decide) _ (scs_at (w := w8.alloc (.cells #[.int .i64 n1, .string (toStr z2), .string (toStr z3), .int .i64 n4, .int .i64 n5, .int .i64 n6, .int .i64 n7, .int .u8 n8] 52)) ⟨n1, ⟨toStr z2, toStr z3⟩, n4, n5, n6, n7, n8⟩ (by simp)))
  rw [all_one, HRR.out] at HRT
  have HB4 := Lib.hid (blk_old (o' := .cells #[.int .i64 n1, .string (toStr z2), .string (toStr z3), .int .i64 n4, .int .i64 n5, .int .i64 n6, .int .i64 n7, .int .u8 n8] 52) (blk_new (w := w8) (o := .cells #[.int .i64 n1, .string (toStr z2), .string (toStr z3), .int .i64 n4, .int .i64 n5, .int .i64 n6, .int .i64 n7, .int .u8 n8] 52) rfl))
  have HK4 := Lib.hid (((Ok.refl w8).alloc (.cells #[.int .i64 n1, .string (toStr z2), .string (toStr z3), .int .i64 n4, .int .i64 n5, .int .i64 n6, .int .i64 n7, .int .u8 n8] 52)).alloc (.cells #[.int .i64 n1, .string (toStr z2), .string (toStr z3), .int .i64 n4, .int .i64 n5, .int .i64 n6, .int .i64 n7, .int .u8 n8] 52))
  generalize (w8.alloc (.cells #[.int .i64 n1, .string (toStr z2), .string (toStr z3), .int .i64 n4, .int .i64 n5, .int .i64 n6, .int .i64 n7, .int .u8 n8] 52)).alloc (.cells #[.int .i64 n1, .string (toStr z2), .string (toStr z3), .int .i64 n4, .int .i64 n5, .int .i64 n6, .int .i64 n7, .int .u8 n8] 52) = V8 at *
  have HPB := Lib.hid ((O8.out.2.2.2.2 p (by omega)).trans HZB.out)
  have hp4 : p < w8.heap.size := by have h1 := O8.out.2.2.2.1; have h2 := HZ0.out; omega
  have HP4 := Lib.hid hp4
  obtain ⟨p4, hp4e⟩ : ∃ q, w8.heap.size = q := ⟨_, rfl⟩
  rw [hp4e] at HB4 HP4 hp4 HRT ⊢
  have HE4 := Lib.hid hp4e
  clear hp4e hp4
  refine HRT.out.mono ?_
  rintro _ w9 ⟨rfl, o9⟩
  have hb4 := blk_ok o9 HB4.out
  have hbp := blk_ok o9 (blk_ok HK4.out HPB.out)
  obtain ⟨B0, B1, B2, B3, B4, B5, B6, B7⟩ := sc_raw hb4
  obtain ⟨C0, C1, C2, C3, C4, C5, C6, C7⟩ := sc_raw hbp
  have F0 := frz_raw hbp 0; have F1 := frz_raw hbp 1; have F2 := frz_raw hbp 2; have F3 := frz_raw hbp 3; have F4 := frz_raw hbp 4; have F5 := frz_raw hbp 5; have F6 := frz_raw hbp 6; have F7 := frz_raw hbp 7
  have HBL : Hid (Below p w8 w9) := Lib.hid (Below.mono (Ok.trans HK4.out o9) (by rw [HE4.out]; have := HP4.out; omega))
  have HEND : Hid (∀ y b (w' : World), Below p w9 w' → ReadP W0 g w y b x8 f8 (.returned (.tuple #[scV y, .bool b])) w') := Lib.hid fun y b w' k => ⟨rfl, HR8.out.below (HBL.out.trans k) hgp, (HA0.out.trans (Alo.only O8.out)).tail (by rw [HP.out]; exact HBL.out.trans k)⟩
  clear hb4 hbp o9 HRT HB4 HK4 HPB HZB HA0 O8 HR8 HBL HLE
  have S8 : Sc8 w9 p sc0 := ⟨C0, C1, C2, C3, C4, C5, C6, C7⟩
  cases R with
  | true =>
    have HYY : Hid (Y = ⟨n1, ⟨toStr z2, toStr z3⟩, n4, n5, n6, n7, n8⟩) := Lib.hid (HY.out.trans (if_pos rfl))
    have HS8 := Lib.hid (S8.put8 ⟨n1, ⟨toStr z2, toStr z3⟩, n4, n5, n6, n7, n8⟩)
    clear HY S8 HRR
    go_wp2_with fail
    (try simp only [Exit.inBlock, Exit.then])
    change bodyPost Tryz.prog _ _ Exit.ret _ (put8 w9 p ⟨n1, ⟨toStr z2, toStr z3⟩, n4, n5, n6, n7, n8⟩)
    have k8 : Below p w9 (put8 w9 p ⟨n1, ⟨toStr z2, toStr z3⟩, n4, n5, n6, n7, n8⟩) := by unfold put8; exact (((((((((Below.refl p w9).setCell (Nat.le_refl _) _).setCell (Nat.le_refl _) _).setCell (Nat.le_refl _) _).setCell (Nat.le_refl _) _).setCell (Nat.le_refl _) _).setCell (Nat.le_refl _) _).setCell (Nat.le_refl _) _).setCell (Nat.le_refl _) _)
    obtain ⟨b0, b1, b2, b3, b4, b5, b6, b7⟩ := HS8.out
    generalize put8 w9 p ⟨n1, ⟨toStr z2, toStr z3⟩, n4, n5, n6, n7, n8⟩ = Z at *
    refine bodyPost_ret (by simp [results, Tryz.results45, go_sem, b0, b1, b2, b3, b4, b5, b6, b7]; try rfl) rfl ?_
    rw [HYY.out]
    exact HEND.out _ _ _ k8
  | false =>
    have HYY : Hid (Y = sc0) := Lib.hid (HY.out.trans (if_neg (by decide)))
    have HS8 := Lib.hid (S8.put8 sc0)
    clear HY S8 HRR
    go_wp2_with fail
    (try simp only [Exit.inBlock, Exit.then])
    change bodyPost Tryz.prog _ _ Exit.ret _ (put8 w9 p sc0)
    have k8 : Below p w9 (put8 w9 p sc0) := by unfold put8; exact (((((((((Below.refl p w9).setCell (Nat.le_refl _) _).setCell (Nat.le_refl _) _).setCell (Nat.le_refl _) _).setCell (Nat.le_refl _) _).setCell (Nat.le_refl _) _).setCell (Nat.le_refl _) _).setCell (Nat.le_refl _) _).setCell (Nat.le_refl _) _)
    obtain ⟨b0, b1, b2, b3, b4, b5, b6, b7⟩ := HS8.out
    generalize put8 w9 p sc0 = Z at *
    refine bodyPost_ret (by simp [results, Tryz.results45, go_sem, b0, b1, b2, b3, b4, b5, b6, b7]; try rfl) rfl ?_
    rw [HYY.out]
    exact HEND.out _ _ _ k8
end Go.Proofs.YtdabdkedgigjdaaGreat
namespace Go.Proofs.YtdabdkedgigjdaaGreat
open Go.RowKit
theorem rnumA (W0 : World) (g : Nat) (w : World) (xs : List B8) (f : Bool) (h : Rf W0 g w xs f) :
    Calls Tryz.prog 92 #[.pointer (some ⟨g, 0, none⟩), .int .i64 1073741824] w (RfPost W0 g w (.int .i64 ((numM 1073741824 xs f).1 : Int)) (numM 1073741824 xs f).2.1 (numM 1073741824 xs f).2.2) := rnum_w W0 g w xs f 1073741824 (by decide) h
theorem rnumB (W0 : World) (g : Nat) (w : World) (xs : List B8) (f : Bool) (h : Rf W0 g w xs f) :
    Calls Tryz.prog 92 #[.pointer (some ⟨g, 0, none⟩), .int .i64 4] w (RfPost W0 g w (.int .i64 ((numM 4 xs f).1 : Int)) (numM 4 xs f).2.1 (numM 4 xs f).2.2) := rnum_w W0 g w xs f 4 (by decide) h
theorem rnumC (W0 : World) (g : Nat) (w : World) (xs : List B8) (f : Bool) (h : Rf W0 g w xs f) :
    Calls Tryz.prog 92 #[.pointer (some ⟨g, 0, none⟩), .int .i64 9] w (RfPost W0 g w (.int .i64 ((numM 9 xs f).1 : Int)) (numM 9 xs f).2.1 (numM 9 xs f).2.2) := rnum_w W0 g w xs f 9 (by decide) h
theorem rrowA (W0 : World) (g : Nat) (w : World) (xs : List B8) (f : Bool) (h : Rf W0 g w xs f) :
    Calls Tryz.prog 93 #[.pointer (some ⟨g, 0, none⟩), .int .i64 20] w (RowF W0 g w (rowM 20 xs f).1 (rowM 20 xs f).2.1 (rowM 20 xs f).2.2) := Row_any W0 g w xs f 20 (by decide) h
/-- A handoff's block. -/
def HasSc (w : World) (p : Nat) (num : Int) (lo hi : Str) (fr tt ep un st : Int) : Prop := w.heap[p]? = some (.cells #[.int .i64 num, .string lo, .string hi, .int .i64 fr, .int .i64 tt, .int .i64 ep, .int .i64 un, .int .u8 st] 52 (0, 0))
/-- What stands while a handoff is read: the reader; the new block p for what is told; the handoff so far at q. -/
structure Rs (W0 : World) (g : Nat) (w : World) (p q : Nat) (W : World) (xs : List B8) (f : Bool) (num : Int) (lo hi : Str) (fr tt ep un st : Int) : Prop where
  rf : Rf W0 g W xs f
  alo : Alo g w W
  hp : HasSc W p 0 ⟨#[]⟩ ⟨#[]⟩ 0 0 0 0 0
  hx : HasSc W q num lo hi fr tt ep un st
theorem Rs.call {W0 : World} {g : Nat} {w : World} {p q : Nat} {W W' : World} {xs ys : List B8} {f f' : Bool} {num : Int} {lo hi : Str} {fr tt ep un st : Int} (h : Rs W0 g w p q W xs f num lo hi fr tt ep un st) (hp : p ≠ g) (hq : q ≠ g) (r : Rf W0 g W' ys f') (k : Alo g W W') : Rs W0 g w p q W' ys f' num lo hi fr tt ep un st where
  rf := r
  alo := h.alo.trans k
  hp := (k.block p hp (Array.getElem?_eq_some_iff.1 h.hp).1).trans h.hp
  hx := (k.block q hq (Array.getElem?_eq_some_iff.1 h.hx).1).trans h.hx
theorem set_sc {W : World} {p : Nat} {cs : Array Value} (h : W.heap[p]? = some (.cells cs 52 (0, 0))) (i : Nat) (v : Value) : (W.setCell ⟨p, i, none⟩ v).heap[p]? = some (.cells (cs.setIfInBounds i v) 52 (0, 0)) := by
  exact heap_setCell_same W p i cs 52 v h
theorem Rs.set {W0 : World} {g : Nat} {w : World} {p q : Nat} {W : World} {xs : List B8} {f : Bool} {num : Int} {lo hi : Str} {fr tt ep un st : Int} (h : Rs W0 g w p q W xs f num lo hi fr tt ep un st) (hq : g < q) (hqw : w.heap.size ≤ q) (hpq : p ≠ q) (i : Nat) (v : Value) {num' : Int} {lo' hi' : Str} {fr' tt' ep' un' st' : Int}
    (e : (#[.int .i64 num, .string lo, .string hi, .int .i64 fr, .int .i64 tt, .int .i64 ep, .int .i64 un, .int .u8 st] : Array Value).setIfInBounds i v = #[.int .i64 num', .string lo', .string hi', .int .i64 fr', .int .i64 tt', .int .i64 ep', .int .i64 un', .int .u8 st']) : Rs W0 g w p q (W.setCell ⟨q, i, none⟩ v) xs f num' lo' hi' fr' tt' ep' un' st' where
  rf := h.rf.below ((Below.refl q W).setCell (Nat.le_refl _) _) hq
  alo := h.alo.tail ((Below.refl _ W).setCell hqw _)
  hp := (Below.heap_setCell _ _ _ _ hpq).trans h.hp
  hx := by
    have := set_sc h.hx i v
    rw [e] at this
    exact this
theorem HasSc.raw {w : World} {p : Nat} {num fr tt ep un st : Int} {lo hi : Str} (h : HasSc w p num lo hi fr tt ep un st) : (w.cell? ⟨p, 0, none⟩ = some (.int .i64 num) ∧ w.cell? ⟨p, 1, none⟩ = some (.string lo) ∧ w.cell? ⟨p, 2, none⟩ = some (.string hi) ∧ w.cell? ⟨p, 3, none⟩ = some (.int .i64 fr) ∧ w.cell? ⟨p, 4, none⟩ = some (.int .i64 tt) ∧ w.cell? ⟨p, 5, none⟩ = some (.int .i64 ep) ∧ w.cell? ⟨p, 6, none⟩ = some (.int .i64 un) ∧ w.cell? ⟨p, 7, none⟩ = some (.int .u8 st)) ∧ (∀ i, w.frozen? ⟨p, i, none⟩ = false) := ⟨sc_raw h, frz_raw h⟩
def ReadF (W0 : World) (g : Nat) (w : World) (y : Sc) (b : Bool) (ys : List B8) (f : Bool) (e : Ending) (w' : World) : Prop := e = .returned (.tuple #[scV y, .bool b]) ∧ Rf W0 g w' ys f ∧ Alo g w w'
set_option maxRecDepth 100000 in
set_option maxHeartbeats 4000000 in
theorem rscRead_w (W0 : World) (g : Nat) (w : World) (xs : List B8) (f : Bool) (h : Rf W0 g w xs f) :
    Calls Tryz.prog 46 #[.pointer (some ⟨g, 0, none⟩)] w (ReadF W0 g w (scIf (scRd xs f).1) (scB (scRd xs f).1) (scRd xs f).2.1 (scRd xs f).2.2) := by
  have HBAD := Lib.hid (scRd_bad xs f)
  obtain ⟨n1, x1, f1, z2, x2, f2, z3, x3, f3, n4, x4, f4, n5, x5, f5, n6, x6, f6, n7, x7, f7, n8, x8, f8, e1, e2, e3, e4, e5, e6, e7, e8, e⟩ := scRd_steps xs f
  have HLE : Hid (n8 ≤ 9) := Lib.hid (by have := numM_le 9 x7 f7; rw [e8] at this; exact this)
  rw [e] at HBAD ⊢
  simp only at HBAD ⊢
  obtain ⟨R, hR⟩ : ∃ R, scB ⟨n1, ⟨toStr z2, toStr z3⟩, n4, n5, n6, n7, n8⟩ = R := ⟨_, rfl⟩
  obtain ⟨Y, hY⟩ : ∃ Y, scIf ⟨n1, ⟨toStr z2, toStr z3⟩, n4, n5, n6, n7, n8⟩ = Y := ⟨_, rfl⟩
  have HY : Hid (Y = if R = true then ⟨n1, ⟨toStr z2, toStr z3⟩, n4, n5, n6, n7, n8⟩ else sc0) := Lib.hid (by rw [← hY, scIf, hR])
  rw [hR] at HBAD
  rw [hR, hY]
  have HRR := Lib.hid hR
  clear hR hY
  have hg := h.lt
  have HR0 := Lib.hid (h.ok ((Ok.refl w).alloc (.cells #[.int .i64 0, .string ⟨#[]⟩, .string ⟨#[]⟩, .int .i64 0, .int .i64 0, .int .i64 0, .int .i64 0, .int .u8 0] 52)))
  have E1 := Lib.hid e1
  have E2 := Lib.hid e2
  have E3 := Lib.hid e3
  have E4 := Lib.hid e4
  have E5 := Lib.hid e5
  have E6 := Lib.hid e6
  have E7 := Lib.hid e7
  have E8 := Lib.hid e8
  clear e1 e2 e3 e4 e5 e6 e7 e8 e h
  obtain ⟨p, hp⟩ : ∃ p, w.heap.size = p := ⟨_, rfl⟩
  go_enter Tryz.func46, Tryz.ntmps46
  go_wp2_with fail
  have Z0 : (w.alloc (.cells #[.int .i64 0, .string ⟨#[]⟩, .string ⟨#[]⟩, .int .i64 0, .int .i64 0, .int .i64 0, .int .i64 0, .int .u8 0] 52)).heap.size = p + 1 := by simp [hp]
  have HZB := Lib.hid (blk_new (o := .cells #[.int .i64 0, .string ⟨#[]⟩, .string ⟨#[]⟩, .int .i64 0, .int .i64 0, .int .i64 0, .int .i64 0, .int .u8 0] 52) hp)
  have HA0 := Lib.hid (Alo.ok (g := g) ((Ok.refl w).alloc (.cells #[.int .i64 0, .string ⟨#[]⟩, .string ⟨#[]⟩, .int .i64 0, .int .i64 0, .int .i64 0, .int .i64 0, .int .u8 0] 52)))
  generalize w.alloc (.cells #[.int .i64 0, .string ⟨#[]⟩, .string ⟨#[]⟩, .int .i64 0, .int .i64 0, .int .i64 0, .int .i64 0, .int .u8 0] 52) = V0 at *
  have hgp : g < p := by omega
  have HP := Lib.hid hp
  have HZ0 := Lib.hid Z0
  clear hp Z0 hg
  refine (by have C := rnumA W0 g V0 xs f HR0.out; rw [E1.out] at C; exact C : Calls Tryz.prog 92 _ V0 (RfPost W0 g V0 (.int .i64 (n1 : Int)) x1 f1)).mono ?_
  rintro _ w1 ⟨rfl, hr1, o1⟩
  have HRR1 := Lib.hid hr1
  have HAL1 := Lib.hid (HA0.out.trans (Alo.only o1))
  have HPB1 := Lib.hid ((o1.2.2.2.2 p (by omega)).trans HZB.out)
  obtain ⟨q, hq⟩ : ∃ q, w1.heap.size = q := ⟨_, rfl⟩
  have hpq : p < q := by have h1 := o1.2.2.2.1; have h2 := HZ0.out; omega
  clear hr1 o1 HR0 E1 HA0 HZB
  go_wp2_with fail
  have HS : Hid (Rs W0 g w p q (w1.alloc (.cells #[.int .i64 n1, .string ⟨#[]⟩, .string ⟨#[]⟩, .int .i64 0, .int .i64 0, .int .i64 0, .int .i64 0, .int .u8 0] 52)) x1 f1 n1 ⟨#[]⟩ ⟨#[]⟩ 0 0 0 0 0) := Lib.hid ⟨HRR1.out.ok ((Ok.refl w1).alloc _), HAL1.out.trans (Alo.ok ((Ok.refl w1).alloc _)), blk_old HPB1.out, blk_new hq⟩
  generalize w1.alloc (.cells #[.int .i64 n1, .string ⟨#[]⟩, .string ⟨#[]⟩, .int .i64 0, .int .i64 0, .int .i64 0, .int .i64 0, .int .u8 0] 52) = V1 at *
  have HQW : Hid (w.heap.size ≤ q) := Lib.hid (by have := HP.out; omega)
  clear hq HRR1 HAL1 HPB1
  refine (by have C := rrowA W0 g V1 x1 f1 HS.out.rf; rw [E2.out] at C; exact C : Calls Tryz.prog 93 _ V1 (RowF W0 g V1 z2 x2 f2)).mono ?_
  rintro _ w2 ⟨v, rfl, hz, hr, ho⟩
  have hcv := conv_str hz
  replace HS := Lib.hid (HS.out.call (by omega) (by omega) hr ho)
  clear hz hr ho E2
  obtain ⟨⟨B0, B1, B2, B3, B4, B5, B6, B7⟩, FF⟩ := HS.out.hx.raw
  have F0 := FF 1
  clear FF
  go_wp2_with fail
  clear hcv
  have HS2 : Hid (Rs W0 g w p q (w2.setCell ⟨q, 1, none⟩ (.string (toStr z2))) x2 f2 n1 (toStr z2) ⟨#[]⟩ 0 0 0 0 0) := Lib.hid (HS.out.set (by omega) HQW.out (by omega) 1 (.string (toStr z2)) rfl)
  clear B0 B1 B2 B3 B4 B5 B6 B7 F0
  generalize w2.setCell ⟨q, 1, none⟩ (.string (toStr z2)) = V2 at *
  have HS := HS2
  clear HS2
  refine (by have C := rrowA W0 g V2 x2 f2 HS.out.rf; rw [E3.out] at C; exact C : Calls Tryz.prog 93 _ V2 (RowF W0 g V2 z3 x3 f3)).mono ?_
  rintro _ w3 ⟨v, rfl, hz, hr, ho⟩
  have hcv := conv_str hz
  replace HS := Lib.hid (HS.out.call (by omega) (by omega) hr ho)
  clear hz hr ho E3
  obtain ⟨⟨B0, B1, B2, B3, B4, B5, B6, B7⟩, FF⟩ := HS.out.hx.raw
  have F0 := FF 2
  clear FF
  go_wp2_with fail
  clear hcv
  have HS2 : Hid (Rs W0 g w p q (w3.setCell ⟨q, 2, none⟩ (.string (toStr z3))) x3 f3 n1 (toStr z2) (toStr z3) 0 0 0 0 0) := Lib.hid (HS.out.set (by omega) HQW.out (by omega) 2 (.string (toStr z3)) rfl)
  clear B0 B1 B2 B3 B4 B5 B6 B7 F0
  generalize w3.setCell ⟨q, 2, none⟩ (.string (toStr z3)) = V3 at *
  have HS := HS2
  clear HS2
  refine (by have C := rnumB W0 g V3 x3 f3 HS.out.rf; rw [E4.out] at C; exact C : Calls Tryz.prog 92 _ V3 (RfPost W0 g V3 (.int .i64 (n4 : Int)) x4 f4)).mono ?_
  rintro _ w4 ⟨rfl, hr, ho⟩
  replace HS := Lib.hid (HS.out.call (by omega) (by omega) hr (Alo.only ho))
  clear hr ho E4
  obtain ⟨⟨B0, B1, B2, B3, B4, B5, B6, B7⟩, FF⟩ := HS.out.hx.raw
  have F0 := FF 3
  clear FF
  go_wp2_with fail
  have HS2 : Hid (Rs W0 g w p q (w4.setCell ⟨q, 3, none⟩ (.int .i64 n4)) x4 f4 n1 (toStr z2) (toStr z3) n4 0 0 0 0) := Lib.hid (HS.out.set (by omega) HQW.out (by omega) 3 (.int .i64 n4) rfl)
  clear B0 B1 B2 B3 B4 B5 B6 B7 F0
  generalize w4.setCell ⟨q, 3, none⟩ (.int .i64 n4) = V4 at *
  have HS := HS2
  clear HS2
  refine (by have C := rnumB W0 g V4 x4 f4 HS.out.rf; rw [E5.out] at C; exact C : Calls Tryz.prog 92 _ V4 (RfPost W0 g V4 (.int .i64 (n5 : Int)) x5 f5)).mono ?_
  rintro _ w5 ⟨rfl, hr, ho⟩
  replace HS := Lib.hid (HS.out.call (by omega) (by omega) hr (Alo.only ho))
  clear hr ho E5
  obtain ⟨⟨B0, B1, B2, B3, B4, B5, B6, B7⟩, FF⟩ := HS.out.hx.raw
  have F0 := FF 4
  clear FF
  go_wp2_with fail
  have HS2 : Hid (Rs W0 g w p q (w5.setCell ⟨q, 4, none⟩ (.int .i64 n5)) x5 f5 n1 (toStr z2) (toStr z3) n4 n5 0 0 0) := Lib.hid (HS.out.set (by omega) HQW.out (by omega) 4 (.int .i64 n5) rfl)
  clear B0 B1 B2 B3 B4 B5 B6 B7 F0
  generalize w5.setCell ⟨q, 4, none⟩ (.int .i64 n5) = V5 at *
  have HS := HS2
  clear HS2
  refine (by have C := rnumA W0 g V5 x5 f5 HS.out.rf; rw [E6.out] at C; exact C : Calls Tryz.prog 92 _ V5 (RfPost W0 g V5 (.int .i64 (n6 : Int)) x6 f6)).mono ?_
  rintro _ w6 ⟨rfl, hr, ho⟩
  replace HS := Lib.hid (HS.out.call (by omega) (by omega) hr (Alo.only ho))
  clear hr ho E6
  obtain ⟨⟨B0, B1, B2, B3, B4, B5, B6, B7⟩, FF⟩ := HS.out.hx.raw
  have F0 := FF 5
  clear FF
  go_wp2_with fail
  have HS2 : Hid (Rs W0 g w p q (w6.setCell ⟨q, 5, none⟩ (.int .i64 n6)) x6 f6 n1 (toStr z2) (toStr z3) n4 n5 n6 0 0) := Lib.hid (HS.out.set (by omega) HQW.out (by omega) 5 (.int .i64 n6) rfl)
  clear B0 B1 B2 B3 B4 B5 B6 B7 F0
  generalize w6.setCell ⟨q, 5, none⟩ (.int .i64 n6) = V6 at *
  have HS := HS2
  clear HS2
  refine (by have C := rnumA W0 g V6 x6 f6 HS.out.rf; rw [E7.out] at C; exact C : Calls Tryz.prog 92 _ V6 (RfPost W0 g V6 (.int .i64 (n7 : Int)) x7 f7)).mono ?_
  rintro _ w7 ⟨rfl, hr, ho⟩
  replace HS := Lib.hid (HS.out.call (by omega) (by omega) hr (Alo.only ho))
  clear hr ho E7
  obtain ⟨⟨B0, B1, B2, B3, B4, B5, B6, B7⟩, FF⟩ := HS.out.hx.raw
  have F0 := FF 6
  clear FF
  go_wp2_with fail
  have HS2 : Hid (Rs W0 g w p q (w7.setCell ⟨q, 6, none⟩ (.int .i64 n7)) x7 f7 n1 (toStr z2) (toStr z3) n4 n5 n6 n7 0) := Lib.hid (HS.out.set (by omega) HQW.out (by omega) 6 (.int .i64 n7) rfl)
  clear B0 B1 B2 B3 B4 B5 B6 B7 F0
  generalize w7.setCell ⟨q, 6, none⟩ (.int .i64 n7) = V7 at *
  have HS := HS2
  clear HS2
  refine (by have C := rnumC W0 g V7 x7 f7 HS.out.rf; rw [E8.out] at C; exact C : Calls Tryz.prog 92 _ V7 (RfPost W0 g V7 (.int .i64 (n8 : Int)) x8 f8)).mono ?_
  rintro _ w8 ⟨rfl, hr, ho⟩
  replace HS := Lib.hid (HS.out.call (by omega) (by omega) hr (Alo.only ho))
  clear hr ho E8
  obtain ⟨⟨B0, B1, B2, B3, B4, B5, B6, B7⟩, FF⟩ := HS.out.hx.raw
  have F0 := FF 7
  clear FF
  have hm8 : (n8 : Int) % 256 = n8 := by have := HLE.out; omega
  obtain ⟨v1, hv1, g0⟩ := HS.out.rf.2.2.1
  have g1 := HS.out.rf.2.2.2.1
  clear hv1
  go_upto_region 9 with fail
  have HS2 : Hid (Rs W0 g w p q (w8.setCell ⟨q, 7, none⟩ (.int .u8 n8)) x8 f8 n1 (toStr z2) (toStr z3) n4 n5 n6 n7 n8) := Lib.hid (HS.out.set (by omega) HQW.out (by omega) 7 (.int .u8 n8) rfl)
  clear B0 B1 B2 B3 B4 B5 B6 B7 F0 hm8 g0 g1
  generalize w8.setCell ⟨q, 7, none⟩ (.int .u8 n8) = V8 at *
  have HS := HS2
  clear HS2 HLE
  have g1 := HS.out.rf.2.2.2.1
  obtain ⟨⟨B0, B1, B2, B3, B4, B5, B6, B7⟩, -⟩ := HS.out.hx.raw
  obtain ⟨⟨C0, C1, C2, C3, C4, C5, C6, C7⟩, FF⟩ := HS.out.hp.raw
  have HBP := Lib.hid HS.out.hp
  have HBX := Lib.hid HS.out.hx
  have F0 := FF 0; have F1 := FF 1; have F2 := FF 2; have F3 := FF 3; have F4 := FF 4; have F5 := FF 5; have F6 := FF 6; have F7 := FF 7
  clear FF
  have HEND : Hid (∀ y b (w' : World), Below p V8 w' → ReadF W0 g w y b x8 f8 (.returned (.tuple #[scV y, .bool b])) w') := Lib.hid fun y b w' k => ⟨rfl, HS.out.rf.below k hgp, HS.out.alo.tail (by rw [HP.out]; exact k)⟩
  have HVS : Hid (p ≤ V8.heap.size) := Lib.hid (Nat.le_of_lt (Array.getElem?_eq_some_iff.1 HS.out.hp).1)
  clear HS
  cases f8 with
  | true =>
    obtain rfl : R = false := HBAD.out rfl
    have HYY : Hid (Y = sc0) := Lib.hid (HY.out.trans (if_neg (by decide)))
    clear HY HRR HBAD
    have S8 : Sc8 V8 p sc0 := ⟨C0, C1, C2, C3, C4, C5, C6, C7⟩
    have HS8 := Lib.hid (S8.put8 sc0)
    clear S8
    go_wp2_with fail
    (try simp only [Exit.inBlock, Exit.then])
    change bodyPost Tryz.prog _ _ Exit.ret _ (put8 V8 p sc0)
    have k8 : Below p V8 (put8 V8 p sc0) := by unfold put8; exact (((((((((Below.refl p V8).setCell (Nat.le_refl _) _).setCell (Nat.le_refl _) _).setCell (Nat.le_refl _) _).setCell (Nat.le_refl _) _).setCell (Nat.le_refl _) _).setCell (Nat.le_refl _) _).setCell (Nat.le_refl _) _).setCell (Nat.le_refl _) _)
    obtain ⟨b0, b1, b2, b3, b4, b5, b6, b7⟩ := HS8.out
    generalize put8 V8 p sc0 = Z at *
    refine bodyPost_ret (by simp [results, Tryz.results46, go_sem, b0, b1, b2, b3, b4, b5, b6, b7]; try rfl) rfl ?_
    rw [HYY.out]
    exact HEND.out _ _ _ k8
  | false =>
    have HON := Lib.hid (ronb_w ⟨n1, ⟨toStr z2, toStr z3⟩, n4, n5, n6, n7, n8⟩ V8)
    rw [HRR.out] at HON
    unfold scV at HON
    simp only at HON
    go_wp2_with fail
    (with_reducible refine HON.out.mono ?_)
    rintro _ w9 ⟨rfl, o9⟩
    have HO9 := Lib.hid (Below.mono o9 HVS.out)
    obtain ⟨B0, B1, B2, B3, B4, B5, B6, B7⟩ := sc_raw (blk_ok o9 HBX.out)
    obtain ⟨⟨C0, C1, C2, C3, C4, C5, C6, C7⟩, FF⟩ := HasSc.raw (blk_ok o9 HBP.out)
    have F0 := FF 0; have F1 := FF 1; have F2 := FF 2; have F3 := FF 3; have F4 := FF 4; have F5 := FF 5; have F6 := FF 6; have F7 := FF 7
    clear FF o9 HON HBP HBX HBAD
    cases R with
    | true =>
      have HYY : Hid (Y = ⟨n1, ⟨toStr z2, toStr z3⟩, n4, n5, n6, n7, n8⟩) := Lib.hid (HY.out.trans (if_pos rfl))
      clear HY HRR
      have S8 : Sc8 w9 p sc0 := ⟨C0, C1, C2, C3, C4, C5, C6, C7⟩
      have HS8 := Lib.hid (S8.put8 ⟨n1, ⟨toStr z2, toStr z3⟩, n4, n5, n6, n7, n8⟩)
      clear S8
      go_wp2_with fail
      (try simp only [Exit.inBlock, Exit.then])
      change bodyPost Tryz.prog _ _ Exit.ret _ (put8 w9 p ⟨n1, ⟨toStr z2, toStr z3⟩, n4, n5, n6, n7, n8⟩)
      have k8 : Below p w9 (put8 w9 p ⟨n1, ⟨toStr z2, toStr z3⟩, n4, n5, n6, n7, n8⟩) := by unfold put8; exact (((((((((Below.refl p w9).setCell (Nat.le_refl _) _).setCell (Nat.le_refl _) _).setCell (Nat.le_refl _) _).setCell (Nat.le_refl _) _).setCell (Nat.le_refl _) _).setCell (Nat.le_refl _) _).setCell (Nat.le_refl _) _).setCell (Nat.le_refl _) _)
      obtain ⟨b0, b1, b2, b3, b4, b5, b6, b7⟩ := HS8.out
      generalize put8 w9 p ⟨n1, ⟨toStr z2, toStr z3⟩, n4, n5, n6, n7, n8⟩ = Z at *
      refine bodyPost_ret (by simp [results, Tryz.results46, go_sem, b0, b1, b2, b3, b4, b5, b6, b7]; try rfl) rfl ?_
      rw [HYY.out]
      exact HEND.out _ _ _ (HO9.out.trans k8)
    | false =>
      have HYY : Hid (Y = sc0) := Lib.hid (HY.out.trans (if_neg (by decide)))
      clear HY HRR
      have S8 : Sc8 w9 p sc0 := ⟨C0, C1, C2, C3, C4, C5, C6, C7⟩
      have HS8 := Lib.hid (S8.put8 sc0)
      clear S8
      go_wp2_with fail
      (try simp only [Exit.inBlock, Exit.then])
      change bodyPost Tryz.prog _ _ Exit.ret _ (put8 w9 p sc0)
      have k8 : Below p w9 (put8 w9 p sc0) := by unfold put8; exact (((((((((Below.refl p w9).setCell (Nat.le_refl _) _).setCell (Nat.le_refl _) _).setCell (Nat.le_refl _) _).setCell (Nat.le_refl _) _).setCell (Nat.le_refl _) _).setCell (Nat.le_refl _) _).setCell (Nat.le_refl _) _).setCell (Nat.le_refl _) _)
      obtain ⟨b0, b1, b2, b3, b4, b5, b6, b7⟩ := HS8.out
      generalize put8 w9 p sc0 = Z at *
      refine bodyPost_ret (by simp [results, Tryz.results46, go_sem, b0, b1, b2, b3, b4, b5, b6, b7]; try rfl) rfl ?_
      rw [HYY.out]
      exact HEND.out _ _ _ (HO9.out.trans k8)
end Go.Proofs.YtdabdkedgigjdaaGreat
