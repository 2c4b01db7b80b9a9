/- Texts read: the program's, the document's. -/
import Derived.Test.YtebhcadolnjplaaGreatXj
import Derived.Test.YtebhcadolnjplaaGreatXi
import Derived.Laws.IdiomStrings
namespace Go.Proofs.YtebhcadolnjplaaGreat
open Go.RowKit
/-- A row read: the bytes, what is left, whether it has failed. -/
def rowM (m : Nat) (xs : List B8) (f : Bool) : List B8 × List B8 × Bool :=
  if (numM m xs f).2.2 = true then ([], (numM m xs f).2.1, true) else if (numM m xs f).2.1.length < (numM m xs f).1 then ([], [], true) else ((numM m xs f).2.1.take (numM m xs f).1, (numM m xs f).2.1.drop (numM m xs f).1, false)
theorem numM_zero (m : Nat) (xs : List B8) (f : Bool) (h : (numM m xs f).2.2 = true) : (numM m xs f).1 = 0 := by
  unfold numM at h ⊢
  split
  · rfl
  · rename_i hf
    rw [if_neg hf] at h
    cases hr : rd m xs with
    | none => rfl
    | some p => rw [hr] at h; cases h
theorem rowM_ok (m : Nat) (xs : List B8) (f : Bool) (h : f = true → xs = []) : (rowM m xs f).2.2 = true → (rowM m xs f).2.1 = [] := by
  unfold rowM
  split
  · rename_i h2; intro _; exact numM_ok m xs f h h2
  · split
    · intro _; rfl
    · intro e; cases e
theorem rowM_dead (m : Nat) (xs : List B8) : rowM m xs true = ([], xs, true) := rfl
/-- Live: too few left, or these. -/
theorem rowM_few (m : Nat) (xs : List B8) (f : Bool) (h : (numM m xs f).2.1.length < (numM m xs f).1) : rowM m xs f = ([], [], true) := by
  unfold rowM
  rw [if_pos h]
  split
  · rename_i h2; have := numM_zero m xs f h2; omega
  · rfl
theorem rowM_take (m : Nat) (xs : List B8) (h : ¬ (numM m xs false).2.1.length < (numM m xs false).1) : rowM m xs false = ((numM m xs false).2.1.take (numM m xs false).1, (numM m xs false).2.1.drop (numM m xs false).1, (numM m xs false).2.2) := by
  unfold rowM
  rw [if_neg h]
  split
  · rename_i h2
    have h3 := numM_ok m xs false (fun e => by cases e) h2
    rw [h3, h2]; simp
  · rename_i h2
    rw [show (numM m xs false).2.2 = false by simpa using h2]
theorem rowM_fail (m : Nat) (xs : List B8) (f : Bool) (h : (numM m xs f).2.2 = true) : rowM m xs f = ([], (numM m xs f).2.1, true) := by
  unfold rowM
  rw [if_pos h]
theorem rowM_live (m : Nat) (xs : List B8) (f : Bool) (h : (numM m xs f).2.2 = false) (h2 : ¬ (numM m xs f).2.1.length < (numM m xs f).1) : rowM m xs f = ((numM m xs f).2.1.take (numM m xs f).1, (numM m xs f).2.1.drop (numM m xs f).1, false) := by
  unfold rowM
  rw [if_neg (by rw [h]; decide), if_neg h2]
/-- The text that bytes are. -/
def toStr (zs : List B8) : ByteArray := ⟨(zs.map fun b => UInt8.ofNat b.toNat).toArray⟩
theorem toStr_size (zs : List B8) : (toStr zs).size = zs.length := by
  show (zs.map _).toArray.size = _
  simp
theorem conv_str {w : World} {v : Value} {zs : List B8} (h : BytesIn w v zs) : (convert 50 9 v).run Tryz.prog w = .ok (.string (toStr zs)) w := by
  rcases h with ⟨rfl, A, c, rfl, _⟩ | ⟨b, o, c, rfl, _, _, hc⟩
  · cases A with
    | none =>
      rw [run_convert_bytes_string w 50 9 5 none 0 c Tryz.underlying50 Tryz.underlying5 Tryz.underlying9]
      simp [Conv.bytesToString]
      rfl
    | some a =>
      have := run_convert_bytes_back (P := Tryz.prog) w 50 9 5 a c [] Tryz.underlying50 Tryz.underlying5 Tryz.underlying9 (fun j hj => by simp at hj)
      simpa [toStr] using this
  · have := run_convert_bytes_back (P := Tryz.prog) w 50 9 5 ⟨b, o, none⟩ c (zs.map fun b => UInt8.ofNat b.toNat) Tryz.underlying50 Tryz.underlying5 Tryz.underlying9 (fun j hj => by
      have hj2 : j < zs.length := by simpa using hj
      rw [Addr.add_lit, hc j hj2]
      simp [ub, hj2])
    rwa [List.length_map] at this
def RowR (W0 : World) (g : Nat) (w : World) (zs ys : List B8) (f : Bool) (e : Ending) (w' : World) : Prop := ∃ v, e = .returned v ∧ BytesIn W0 v zs ∧ Rd W0 g w' ys f ∧ Only g w w'
set_option maxRecDepth 100000 in
set_option maxHeartbeats 2000000 in
theorem placeRow_r (W0 : World) (g : Nat) (w : World) (xs : List B8) (m : Nat) (hm : m ≤ topN) (h : Rd W0 g w xs false) :
    Calls Tryz.prog 132 #[.pointer (some ⟨g, 0, none⟩), .int .i64 (m : Int)] w (RowR W0 g w (rowM m xs false).1 (rowM m xs false).2.1 (rowM m xs false).2.2) := by
  have HN := Lib.hid (number_r W0 g w xs m hm h)
  have HFEW := Lib.hid (rowM_few m xs false)
  have HTAKE := Lib.hid (rowM_take m xs)
  have HNM : Hid (numM m xs false = (resN (rd m xs), resL (rd m xs), resF (rd m xs))) := Lib.hid rfl
  clear h
  rw [HNM.out] at HFEW HTAKE
  clear HNM
  generalize rowM m xs false = R at *
  generalize resN (rd m xs) = N at *
  generalize resL (rd m xs) = ys at *
  generalize resF (rd m xs) = ff at *
  simp only at HFEW HTAKE
  go_enter Tryz.func132, Tryz.ntmps132
  go_wp2_with fail
  refine HN.out.mono ?_
  rintro _ w1 ⟨rfl, hr, ho⟩
  have HR := Lib.hid hr
  have HO := Lib.hid ho
  obtain ⟨_, _, ⟨v, hv, h0⟩, h1, h2, h3, h4⟩ := hr
  clear ho HN h1
  obtain ⟨A, c, rfl, _⟩ := hv.form
  obtain ⟨l, hl⟩ : ∃ l, ys.length = l := ⟨_, rfl⟩
  rw [hl] at hv h0 HFEW HTAKE
  have HL := Lib.hid hl
  have HV := Lib.hid hv
  have hlc : l ≤ c := by
    rcases hv with ⟨rfl, _⟩ | ⟨_, _, _, e, hc, _⟩
    · simp at hl; omega
    · simp only [Value.slice.injEq] at e; omega
  clear hv hl
  by_cases hlt : l < N
  · have HZ := Lib.hid (HFEW.out hlt)
    have d1 : decide ((l : Int) < (N : Int)) = true := decide_eq_true (by omega)
    have d3 : decide (l < N) = true := decide_eq_true (by omega)
    clear HFEW HTAKE hlt
    go_wp2_with fail
    refine (fail_r W0 g _ _ _ HR.out).mono ?_
    rintro _ w2 ⟨rfl, hr2, ho2⟩
    have HR2 := Lib.hid hr2
    have HO2 := Lib.hid ho2
    clear hr2 ho2
    go_wp2_with fail
    go_ret
    rw [HZ.out]
    exact ⟨_, rfl, BytesIn.nil W0, HR2.out, HO.out.trans HO2.out⟩
  · have HZ := Lib.hid (HTAKE.out hlt)
    have d1 : decide ((l : Int) < (N : Int)) = false := decide_eq_false (by omega)
    have d3 : decide (l < N) = false := decide_eq_false (by omega)
    have HT := Lib.hid (bytes_take HV.out (show N ≤ ys.length by have := HL.out; omega))
    have HD := Lib.hid (bytes_drop HV.out (show N ≤ ys.length by have := HL.out; omega))
    have HF : Hid (∀ V, BytesIn W0 V (ys.drop N) → Rd W0 g (w1.setCell ⟨g, 0, none⟩ V) (ys.drop N) ff) := Lib.hid fun V hV =>
      HR.out.set hV ((Only.refl g w1).set 0 _) (by go_simp) (by have h5 := HR.out.2.2.2.1; go_simp) (by go_simp) (by go_simp) (by go_simp)
    have hNl : N ≤ l := by omega
    have hNc : N ≤ c := by omega
    have hN0 : (0 : Int) ≤ (N : Int) := by omega
    have hN1 : (N : Int) ≤ (l : Int) := by omega
    have hN2 : (N : Int) ≤ (c : Int) := by omega
    have HEND : Hid (∀ v V, BytesIn W0 v (ys.take N) → BytesIn W0 V (ys.drop N) → RowR W0 g w R.1 R.2.1 R.2.2 (.returned v) (w1.setCell ⟨g, 0, none⟩ V)) := Lib.hid fun v V h1 h2 => by
      rw [HZ.out]
      exact ⟨v, rfl, h1, HF.out V h2, HO.out.trans ((Only.refl g w1).set 0 _)⟩
    clear HFEW HTAKE hlt HF HZ
    cases A with
    | none =>
      have HD2 : Hid (BytesIn W0 (.slice none (l - N) (c - N)) (ys.drop N)) := Lib.hid (by
        have := HD.out
        split at this <;> exact this)
      go_wp2_with fail
      go_ret
      exact HEND.out _ _ HT.out HD2.out
    | some a =>
      by_cases hcN : c = N
      · have HD2 : Hid (BytesIn W0 (.slice (some a) 0 0) (ys.drop N)) := Lib.hid (by
          have := HD.out
          rwa [if_pos hcN, show l - N = 0 by omega, show c - N = 0 by omega] at this)
        subst hcN
        go_wp2_with fail
        go_ret
        exact HEND.out _ _ HT.out HD2.out
      · have HD2 : Hid (BytesIn W0 (.slice (some (a.add N)) (l - N) (c - N)) (ys.drop N)) := Lib.hid (by
          have := HD.out
          rwa [if_neg hcN] at this)
        go_wp2_with fail
        go_ret
        exact HEND.out _ _ HT.out HD2.out
set_option maxHeartbeats 400000 in
theorem Text_any (W0 : World) (g : Nat) (w : World) (xs : List B8) (f : Bool) (m : Nat) (hm : m ≤ topN) (h : Rd W0 g w xs f) :
    Calls Tryz.prog 85 #[.pointer (some ⟨g, 0, none⟩), .int .i64 (m : Int)] w (RdPost W0 g w (.string (toStr (rowM m xs f).1)) (rowM m xs f).2.1 (rowM m xs f).2.2) := by
  have HR := Lib.hid h
  clear h
  cases f with
  | true =>
    rw [rowM_dead]
    go_enter Tryz.func85, Tryz.ntmps85
    go_wp2_with fail
    refine (dead_r W0 g w _ true HR.out).mono ?_
    rintro e w' ⟨rfl, rfl⟩
    go_wp2_with fail
    go_ret
    exact ⟨rfl, HR.out, Only.refl _ _⟩
  | false =>
    have HP := Lib.hid (placeRow_r W0 g w xs m hm HR.out)
    generalize rowM m xs false = R at *
    obtain ⟨zs, ys, ff⟩ := R
    simp only at HP ⊢
    go_enter Tryz.func85, Tryz.ntmps85
    go_wp2_with fail
    refine (dead_r W0 g w _ false HR.out).mono ?_
    rintro e w' ⟨rfl, rfl⟩
    go_wp2_with fail
    refine HP.out.mono ?_
    rintro _ w2 ⟨v, rfl, hz, hr2, ho2⟩
    have hcv := conv_str (hr2.2.1.bytes hz)
    have HR2 := Lib.hid hr2
    have HO2 := Lib.hid ho2
    clear hr2 ho2 hz
    go_wp2_with fail
    clear hcv
    go_ret
    exact ⟨rfl, HR2.out, HO2.out⟩
end Go.Proofs.YtebhcadolnjplaaGreat
