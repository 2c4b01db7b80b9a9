/- The law's total and files. -/
import Derived.Test.YtfchjdhjbepocaaNh
namespace Go.Proofs.Ytfchjdhjbepocaa
open Go Go.RowKit

def sumF (D : Dk) (l : List Str) : Nat := (l.map fun k => (D.file k).length).sum
theorem sumF_take (D : Dk) (l : List Str) (k : Nat) (h : k < l.length) : sumF D (l.take (k + 1)) = sumF D (l.take k) + (D.file (txA l k)).length := by
  rw [tx_take l k h]
  unfold sumF
  rw [List.map_append, List.sum_append]
  simp
theorem keys_files {D : Dk} (ho : Once D.fs) : (D.fs.map Prod.fst).map (fun k => (k, D.file k)) = D.fs := by
  rw [List.map_map]
  have : ∀ x ∈ D.fs, ((fun k => (k, D.file k)) ∘ Prod.fst) x = x := fun x hx => by
    have := Tb.mem_at ho hx
    show (x.1, D.file x.1) = x
    unfold Dk.file
    rw [this]
    rfl
  rw [List.map_congr_left this, List.map_id']
theorem sumF_all {D : Dk} (ho : Once D.fs) {l : List Str} (h : l.Perm (D.fs.map Prod.fst)) : sumF D l = used D.fs := by
  have h1 : sumF D l = sumF D (D.fs.map Prod.fst) := List.Perm.sum_nat (h.map _)
  rw [h1]
  have h2 := congrArg used (keys_files ho)
  rw [← h2]
  unfold sumF used
  rw [List.map_map, List.map_map, List.map_map]
  rfl
theorem sumF_le {D : Dk} (ho : Once D.fs) {l : List Str} (h : l.Perm (D.fs.map Prod.fst)) (k : Nat) : sumF D (l.take k) ≤ used D.fs := by
  rw [← sumF_all ho h]
  unfold sumF
  have : l.map (fun k => (D.file k).length) = (l.take k).map (fun k => (D.file k).length) ++ (l.drop k).map (fun k => (D.file k).length) := by rw [← List.map_append, List.take_append_drop]
  rw [this, List.sum_append]
  omega
set_option maxRecDepth 100000 in
set_option maxHeartbeats 2000000 in
theorem total_f (p : Nat) (D : Dk) (pv : Sl) (mb : Nat) (vs : Tb Sl) (W : World) (h : DkAt p D pv mb vs W) (hs : Small D) (hf : Few D) : Calls Try.prog 32 #[.pointer (some ⟨p, 0, none⟩)] W (Ret W (.int .i64 (used D.fs : Int))) := by
  have hnm := names_f p D pv mb vs W h hf
  have HD := Lib.hid h
  have HSM := Lib.hid hs
  have HF := Lib.hid hf
  clear h hs hf
  go_enter Try.func32, Try.ntmps32
  go_wp2_with fail
  refine hnm.mono ?_
  clear hnm
  rintro _ w1 ⟨A, c, l, rfl, hp, hc, ho⟩
  have HP := Lib.hid hp
  have HC := Lib.hid hc
  have HO := Lib.hid ho
  have HLN : Hid (l.length ≤ 1000000) := Lib.hid (by rw [hp.length_eq, List.length_map]; exact HF.out.ct)
  clear hp hc ho
  go_wp2_with fail
  go_loopw [3, 5, 6, 7, 16] (fun v i _ _ _ wr => ∃ k : Nat, k ≤ l.length ∧ i = .int .i64 (k : Int) ∧ v = .int .i64 (sumF D (l.take k) : Int) ∧ Ok w1 wr) (fun _ i _ _ _ _ => l.length - (intOf i).toNat)
  case atStart => exact ⟨0, Nat.zero_le _, rfl, rfl, Ok.refl _⟩
  case round =>
    obtain ⟨k, hk, rfl, rfl, okr⟩ := hrel
    have HOK := Lib.hid okr
    clear okr
    by_cases hlt : k < l.length
    · have d1 : decide (k < l.length) = true := decide_eq_true hlt
      obtain ⟨g, rfl, -, hcell⟩ : ∃ g, A = some ⟨g, 0, none⟩ ∧ W.heap.size ≤ g ∧ ∀ j, j < l.length → w1.cell? ⟨g, j, none⟩ = some (.string (txA l j)) := by
        rcases HC.out with e | e
        · rw [e] at hlt; simp at hlt
        · exact e
      have x0 := HOK.out.cell (hcell k hlt)
      clear hcell
      have HST := Lib.hid (sumF_take D l k hlt)
      have HSL := Lib.hid (sumF_le HD.out.inv.once HP.out (k + 1))
      have HUS := HSM.out.us
      generalize txA l k = nm at *
      have hrd := read_f p D pv mb vs nm wr (HD.out.ok (HO.out.trans HOK.out)) HSM.out
      obtain ⟨q, hq⟩ : ∃ q, sumF D (l.take k) = q := ⟨_, rfl⟩
      rw [hq] at HST ⊢
      clear hq
      have hi0 : (0 : Int) ≤ (k : Int) := Int.natCast_nonneg _
      have hi1 : (k : Int) < (l.length : Int) := by omega
      have e1 : IntKind.i64.wrap ((k : Int) + 1) = (k : Int) + 1 := IntWalk.i64_in _ (by have := HLN.out; omega)
      have e2 : IntKind.i64.wrap ((q : Int) + ((D.file nm).length : Int)) = (q : Int) + ((D.file nm).length : Int) := IntWalk.i64_in _ (by have := HST.out; have := HSL.out; omega)
      have HMS : Hid (l.length - ((k : Int) + 1).toNat < l.length - (k : Int).toNat) := Lib.hid (by omega)
      clear HUS
      go_wp2_with fail
      refine hrd.mono ?_
      clear hrd x0
      rintro _ w2 ⟨s', rfl, h1, h2, h3, h4⟩
      have HO2 := Lib.hid (HOK.out.trans h4)
      have hsn : (s'.n : Int) = ((D.file nm).length : Int) := by rw [h3]
      have hsn2 : s'.n = (D.file nm).length := h3
      clear h1 h2 h3 h4
      unfold Sl.v
      go_wp2_with fail
      exact ⟨⟨k + 1, hlt, rfl, by rw [HST.out]; rfl, HO2.out⟩, HMS.out⟩
    · have d1 : decide (k < l.length) = false := decide_eq_false hlt
      obtain rfl : k = l.length := by omega
      have HE : Hid (sumF D (l.take l.length) = used D.fs) := Lib.hid (by rw [List.take_of_length_le (Nat.le_refl _)]; exact sumF_all HD.out.inv.once HP.out)
      go_wp2_with fail
      go_ret
      exact ⟨by rw [← HE.out]; rfl, HO.out.trans HOK.out⟩
end Go.Proofs.Ytfchjdhjbepocaa
