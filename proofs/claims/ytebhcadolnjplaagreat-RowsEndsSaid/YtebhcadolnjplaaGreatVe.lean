/- The document's own rows: Put. -/
import Derived.Test.YtebhcadolnjplaaGreatVd
namespace Go.Proofs.YtebhcadolnjplaaGreat
open Go.RowKit

/-- What Put tells, and leaves. -/
def PutDoc (m : Nat) (A : Option Addr) (l xs : List Rw) (W : World) (e : Ending) (w' : World) : Prop :=
  (allR xs = false ∧ e = .returned (.int .i64 2) ∧ Ok W w') ∨
  (allR xs = true ∧ ∃ l', LaidAll l xs l' ∧ ((400 < l'.length ∧ e = .returned (.int .i64 8) ∧ Ok W w') ∨
    (l'.length ≤ 400 ∧ e = .returned (.int .i64 0) ∧ (∃ A' n' c', RfA m A' n' c' l' w' ∧ (A' = A ∨ ∀ a, A' = some a → W.heap.size ≤ a.block ∧ a.block < w'.heap.size) ∧ (0 < xs.length → OwnR w' W.heap.size A' n' c' l')) ∧ K2 m none W w')))
set_option maxRecDepth 100000 in
set_option maxHeartbeats 4000000 in
theorem rPut_f (m : Nat) (A : Option Addr) (n c : Nat) (l : List Rw) (B : Option Addr) (q d : Nat) (xs : List Rw) (W : World) (h : RfA m A n c l W) (hn : n ≤ 1000) (hr : Rises l) (hq : xs.length = q) (hq6 : q ≤ 2000) (hx : RowsIn W B xs) :
    Calls Tryz.prog 19 #[.pointer (some ⟨m, 0, none⟩), .slice B q d] W (PutDoc m A l xs W) := by
  have HA := Lib.hid h
  have HR := Lib.hid hr
  have HQ := Lib.hid hq
  have HX := Lib.hid hx
  have HALL := Lib.hid (allR_iff xs)
  have c0 := h.c0
  clear h hr hq hx
  go_enter Tryz.func19, Tryz.ntmps19
  go_wp2_with fail
  go_loopw [6] (fun v6 wr => ∃ k : Nat, k ≤ q ∧ v6 = .int .i64 k ∧ Ok W wr ∧ ∀ j, j < k → rowB (rwA xs j) = true) (fun v6 _ => q - (intOf v6).toNat)
  case atStart => exact ⟨0, Nat.zero_le _, rfl, Ok.refl _, fun j hj => absurd hj (Nat.not_lt_zero _)⟩
  case round =>
    obtain ⟨k, hk, rfl, okr, hall⟩ := hrel
    have HO := Lib.hid okr
    have HRT := Lib.hid hall
    clear okr hall
    by_cases hlt : k < q
    · have d1 : decide ((k : Int) < (q : Int)) = true := decide_eq_true (by omega)
      have d1n : decide (k < q) = true := decide_eq_true (by omega)
      obtain ⟨b, off, rfl, x0, x1⟩ := HX.out.ok HO.out k (by rw [HQ.out]; exact hlt)
      have i0 : (0 : Int) ≤ (k : Int) := Int.natCast_nonneg _
      have i1 : (k : Int) < (q : Int) := by omega
      have ek : IntKind.i64.wrap ((k : Int) + 1) = (k : Int) + 1 := IntWalk.i64_in _ (by omega)
      have HLT : Hid (q - ((k : Int) + 1).toNat < q - (k : Int).toNat) := Lib.hid (by omega)
      obtain ⟨rb, hrb⟩ : ∃ rb, rowB ⟨(rwA xs k).key, (rwA xs k).val⟩ = rb := ⟨_, rfl⟩
      have HRB := Lib.hid hrb
      have hrf := fun V => rright_f (rwA xs k).key (rwA xs k).val V
      rw [hrb] at hrf
      clear hrb
      generalize hkm : (rwA xs k).key = km at *
      generalize hvm : (rwA xs k).val = vm at *
      have HKV := Lib.hid (And.intro hkm hvm)
      clear hkm hvm
      go_wp2_with fail
      (with_reducible refine (hrf _).mono ?_)
      clear hrf
      rintro _ w2 ⟨rfl, o2⟩
      have HO2 := Lib.hid (Ok.trans HO.out o2)
      clear o2 x0 x1
      have HRBE : Hid (rowB (rwA xs k) = rb) := Lib.hid (by rw [← HRB.out, ← HKV.out.1, ← HKV.out.2])
      cases rb with
      | false =>
        have HNA : Hid (allR xs = false) := Lib.hid (by
          cases ha : allR xs with
          | false => rfl
          | true =>
            have := HALL.out.1 ha k (by rw [HQ.out]; exact hlt)
            rw [HRBE.out] at this; cases this)
        go_wp2_with fail
        go_ret
        exact .inl ⟨HNA.out, rfl, HO2.out⟩
      | true =>
        have HRN : Hid (∀ j, j < k + 1 → rowB (rwA xs j) = true) := Lib.hid fun j hj => by
          by_cases hjk : j < k
          · exact HRT.out j hjk
          · obtain rfl : j = k := by omega
            exact HRBE.out
        go_wp2_with fail
        exact ⟨⟨k + 1, hlt, rfl, HO2.out, HRN.out⟩, HLT.out⟩
    · have d1 : decide ((k : Int) < (q : Int)) = false := decide_eq_false (by omega)
      have d1n : decide (k < q) = false := decide_eq_false (by omega)
      have HAL : Hid (allR xs = true) := Lib.hid (HALL.out.2 fun j hj => HRT.out j (by rw [HQ.out] at hj; omega))
      obtain ⟨w0, hw0⟩ : ∃ x, x = wr := ⟨_, rfl⟩
      subst hw0
      have HW0 := HO
      clear HRT hlt hk HO
      go_wp2_with fail
      clear d1 d1n
      go_loopw [5, 7] (fun v5 v7 wr => ∃ (k n1 : Nat) (A1 : Option Addr) (c1 : Nat) (l1 : List Rw), k ≤ q ∧ v7 = .int .i64 k ∧ v5 = .slice A1 n1 c1 ∧ LaidAll l (xs.take k) l1 ∧ l1.length = n1 ∧ RowsIn wr A1 l1 ∧ (A1 = none → c1 = 0) ∧ n1 ≤ c1 ∧ (A1 = A ∨ ∀ a, A1 = some a → W.heap.size ≤ a.block ∧ a.block < wr.heap.size) ∧ Ok W wr ∧ (k = 0 ∨ OwnR wr W.heap.size A1 n1 c1 l1)) (fun _ v7 _ => q - (intOf v7).toNat)
      case atStart => exact ⟨0, n, A, c, l, Nat.zero_le _, rfl, rfl, LaidAll.nil, HA.out.len, HA.out.rows.ok HW0.out, HA.out.nil, HA.out.cap, .inl rfl, HW0.out, .inl rfl⟩
      case round =>
        obtain ⟨k, n1, A1, c1, l1, hk, rfl, rfl, hla, hl1, hro, hnil, hcap, hfr, okr, how0⟩ := hrel
        have HOW0 := Lib.hid how0
        clear how0
        have HLA := Lib.hid hla
        have HL1 := Lib.hid hl1
        have HRO := Lib.hid hro
        have HFR := Lib.hid hfr
        have HO := Lib.hid okr
        have HSP := Lib.hid (hla.spec HR.out)
        have hnb : n1 ≤ 3000 := by
          have h1 := HSP.out.2
          rw [HL1.out, HA.out.len, List.length_take, HQ.out] at h1
          omega
        clear hla hl1 hro hfr okr
        by_cases hlt : k < q
        · have d1 : decide ((k : Int) < (q : Int)) = true := decide_eq_true (by omega)
          have d1n : decide (k < q) = true := decide_eq_true (by omega)
          obtain ⟨b, off, rfl, x0, x1⟩ := HX.out.ok HO.out k (by rw [HQ.out]; exact hlt)
          have i0 : (0 : Int) ≤ (k : Int) := Int.natCast_nonneg _
          have i1 : (k : Int) < (q : Int) := by omega
          have ek : IntKind.i64.wrap ((k : Int) + 1) = (k : Int) + 1 := IntWalk.i64_in _ (by omega)
          have HLT : Hid (q - ((k : Int) + 1).toNat < q - (k : Int).toNat) := Lib.hid (by omega)
          have HTK : Hid (xs.take (k + 1) = xs.take k ++ [⟨(rwA xs k).key, (rwA xs k).val⟩]) := Lib.hid (by
            have hkl : k < xs.length := by rw [HQ.out]; exact hlt
            rw [List.take_succ_eq_append_getElem hkl]
            congr 1
            simp [rwA, List.getD, hkl])
          generalize (rwA xs k).key = km at *
          generalize (rwA xs k).val = vm at *
          have HP := Lib.hid (rput1_f A1 n1 c1 l1 km vm wr HL1.out (by omega) HRO.out hnil hcap HSP.out.1)
          go_wp2_with fail
          (with_reducible refine HP.out.mono ?_)
          clear HP
          rintro _ w2 ⟨A2, n2, c2, l2, rfl, hlaid, how, ok2⟩
          have HOW := Lib.hid how
          have HLA2 : Hid (LaidAll l (xs.take (k + 1)) l2) := Lib.hid (by rw [HTK.out]; exact LaidAll.snoc HLA.out hlaid)
          have HO2 := Lib.hid (Ok.trans HO.out ok2)
          have HFR2 : Hid (∀ a, A2 = some a → W.heap.size ≤ a.block ∧ a.block < w2.heap.size) := Lib.hid fun a e => ⟨Nat.le_trans HO.out.size (how.2.lt a.block (by rw [e]; rfl)).1, (how.2.lt a.block (by rw [e]; rfl)).2⟩
          have HOWN : Hid (OwnR w2 W.heap.size A2 n2 c2 l2) := Lib.hid (how.mono HO.out.size)
          clear how hlaid ok2 x0 x1
          go_wp2_with fail
          exact ⟨⟨k + 1, n2, A2, c2, l2, hlt, rfl, rfl, HLA2.out, HOW.out.1, HOW.out.rows, HOW.out.nil', HOW.out.cap, .inr HFR2.out, HO2.out, .inr HOWN.out⟩, HLT.out⟩
        · have d1 : decide ((k : Int) < (q : Int)) = false := decide_eq_false (by omega)
          have d1n : decide (k < q) = false := decide_eq_false (by omega)
          have HFI : Hid (LaidAll l xs l1) := Lib.hid (by have := HLA.out; rwa [List.take_of_length_le (by rw [HQ.out]; omega)] at this)
          have f0 : wr.frozen? ⟨m, 0, none⟩ = false := by rw [Below.frozen HO.out (p := ⟨m, 0, none⟩) HA.out.lt]; exact HA.out.f
          have c0w := HO.out.cell c0
          by_cases hbig : 400 < n1
          · have d2 : decide ((400 : Int) < (n1 : Int)) = true := decide_eq_true (by omega)
            go_wp2_with fail
            go_ret
            exact .inr ⟨HAL.out, l1, HFI.out, .inl ⟨by rw [HL1.out]; exact hbig, rfl, HO.out⟩⟩
          · have d2 : decide ((400 : Int) < (n1 : Int)) = false := decide_eq_false (by omega)
            have HNE : Hid (∀ a, A1 = some a → a.block ≠ m) := Lib.hid fun a e => by
              rcases HFR.out with h1 | h1
              · exact HA.out.ne a (h1 ▸ e)
              · have := (h1 a e).1; have := HA.out.lt; omega
            have HRS : Hid (RowsIn (wr.setCell ⟨m, 0, none⟩ (.slice A1 n1 c1)) A1 l1) := Lib.hid fun j hj => by
              obtain ⟨b, off, e, h1, h2⟩ := HRO.out j hj
              have hb := HNE.out _ e
              exact ⟨b, off, e, by rw [World.cell?_setCell_other _ _ _ _ (fun q => hb (by have h9 := congrArg Addr.block q; first | exact h9 | exact h9.symm))]; exact h1, by rw [World.cell?_setCell_other _ _ _ _ (fun q => hb (by have h9 := congrArg Addr.block q; first | exact h9 | exact h9.symm))]; exact h2⟩
            have HOWE : Hid (0 < xs.length → OwnR (wr.setCell ⟨m, 0, none⟩ (.slice A1 n1 c1)) W.heap.size A1 n1 c1 l1) := Lib.hid fun h0 => by
              rcases HOW0.out with h1 | h1
              · exfalso; rw [HQ.out] at h0; omega
              · exact h1.far HA.out.lt 0 _
            have HKK := Lib.hid (k2_set (m := m) HO.out (.slice A1 n1 c1))
            have HC0 : Hid ((wr.setCell ⟨m, 0, none⟩ (.slice A1 n1 c1)).cell? ⟨m, 0, none⟩ = some (.slice A1 n1 c1) ∧ (wr.setCell ⟨m, 0, none⟩ (.slice A1 n1 c1)).frozen? ⟨m, 0, none⟩ = false) := Lib.hid ⟨by go_simp, by go_simp⟩
            go_wp2_with fail
            go_ret
            exact .inr ⟨HAL.out, l1, HFI.out, .inr ⟨by rw [HL1.out]; omega, rfl, ⟨A1, n1, c1, ⟨HC0.out.1, HC0.out.2, HL1.out, HRS.out, hnil, hcap, HNE.out⟩, by rw [World.size_setCell]; exact HFR.out, HOWE.out⟩, HKK.out⟩⟩
end Go.Proofs.YtebhcadolnjplaaGreat
