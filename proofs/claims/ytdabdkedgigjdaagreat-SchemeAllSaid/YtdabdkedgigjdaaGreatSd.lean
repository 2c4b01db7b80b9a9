/- Shares: whether they are right; the place of the first that is meant; the share. -/
import Derived.Test.YtdabdkedgigjdaaGreatSc
namespace Go.Proofs.YtdabdkedgigjdaaGreat
open Go.RowKit

theorem idxI_any (q : Sh → Bool) (xs : List Sh) : decide (0 ≤ idxI q xs) = xs.any q := by
  unfold idxI
  cases h : xs.findIdx? q with
  | none =>
    rw [List.findIdx?_eq_none_iff] at h
    have : xs.any q = false := by rw [List.any_eq_false]; intro x hx; rw [h x hx]; simp
    rw [this]; rfl
  | some i =>
    rw [List.findIdx?_eq_some_iff_getElem] at h
    obtain ⟨hi, hq, _⟩ := h
    have : xs.any q = true := List.any_eq_true.2 ⟨xs[i], List.getElem_mem hi, hq⟩
    rw [this]
    simp
theorem any_not (ep : Int) (xs : List Sh) : (!xs.any fun x => !shOkB ep x) = xs.all (shOkB ep) := by
  rw [List.not_any_eq_all_not]
  simp

set_option maxRecDepth 100000 in
set_option maxHeartbeats 4000000 in
theorem sharesRight_w (ep : Int) (A : Option Addr) (n c : Nat) (xs : List Sh) (hn : xs.length = n) (hn6 : n ≤ 1000) (w : World) (hI : SharesAt w A xs) :
    Calls Tryz.prog 19 #[.agg #[.int .i64 ep, .slice A n c]] w (Ret w (.bool (sharesB ep xs))) := by
  have hsp := spans_w ep A n c xs hn hn6
  have hcn := contains_w 67 (w.heap.size + 1) (fun x => !shOkB ep x) A n c xs hn (by omega)
  have hpl : (xs.map (·.sp)).length = n := by rw [List.length_map, hn]
  have hpt := fun A' c' => parts_w A' n c' (xs.map (·.sp)) hpl (by omega)
  obtain ⟨R, hR⟩ : ∃ R, sharesB ep xs = R := ⟨_, rfl⟩
  rw [hR]
  have er : Hid (R = (decide (n ≤ 40) && decide (1 ≤ ep) && decide (ep ≤ 1073741824) && partsM (xs.map (·.sp)) && !(decide (0 ≤ idxI (fun x => !shOkB ep x) xs)))) := Lib.hid (by
    rw [← hR, sharesB, idxI_any, any_not, hn])
  clear hR
  have HSP := Lib.hid hsp
  have HCN := Lib.hid hcn
  have HPT := Lib.hid hpt
  have HPL := Lib.hid hpl
  have HI := Lib.hid hI
  clear hsp hcn hpt hpl hI hn
  generalize decide (0 ≤ idxI (fun x => !shOkB ep x) xs) = y at er HCN
  generalize partsM (xs.map (·.sp)) = z at er HPT
  generalize xs.map (·.sp) = ps at HSP HPT HPL
  by_cases h1 : n ≤ 40
  · have d1 : decide ((40 : Int) < (n : Int)) = false := decide_eq_false (by omega)
    rw [decide_eq_true h1] at er
    by_cases h2 : 1 ≤ ep
    · have d2 : decide (ep < 1) = false := decide_eq_false (by omega)
      rw [decide_eq_true h2] at er
      by_cases h3 : ep ≤ 1073741824
      · have d3 : decide (1073741824 < ep) = false := decide_eq_false (by omega)
        rw [decide_eq_true h3] at er
        go_enter Tryz.func19, Tryz.ntmps19
        go_wp2_with fail
        generalize hW : (w.alloc (.cells #[.int .i64 ep, .slice A n c] 24)).alloc (.cells #[.int .i64 ep, .slice A n c] 85) = W
        have oW : Ok w W := by subst hW; exact Ok.alloc (Ok.alloc (Ok.refl w) _) _
        have E0 : W.cell? ⟨w.heap.size + 1, 0, none⟩ = some (.int .i64 ep) := by subst hW; go_cell
        have E1 : W.cell? ⟨w.heap.size + 1, 1, none⟩ = some (.slice A n c) := by subst hW; go_cell
        clear hW
        refine (HSP.out W (HI.out.ok oW)).mono ?_
        rintro _ w1 ⟨A1, c1, rfl, hsa, o1⟩
        rw [HPL.out]
        have E0 := Ok.cell o1 E0
        have E1 := Ok.cell o1 E1
        go_wp2_with fail
        refine (HPT.out _ _ _ hsa).mono ?_
        rintro _ w2 ⟨rfl, o2⟩
        have E0 := Ok.cell o2 E0
        have E1 := Ok.cell o2 E1
        have ok2 := Lib.hid (Ok.call (Ok.call oW o1) o2)
        cases z with
        | false =>
          go_wp2
          go_ret
          exact ⟨by rw [er.out]; first | rfl | simp, ok2.out⟩
        | true =>
          have h62 := fun x w' (k' : Ok w2 w') => notRight_c ep A n c (w.heap.size + 1) x w' (Ok.cell k' E0) (Ok.cell k' E1)
          go_wp2_with fail
          refine (HCN.out w2 (HI.out.ok ok2.out) call62 h62).mono ?_
          rintro _ w3 ⟨rfl, o3⟩
          go_wp2
          go_ret
          exact ⟨by rw [er.out]; first | rfl | simp, Ok.call ok2.out o3⟩
      · have d3 : decide (1073741824 < ep) = true := decide_eq_true (by omega)
        rw [decide_eq_false h3] at er
        go_enter Tryz.func19, Tryz.ntmps19
        go_wp2
        go_ret
        exact ⟨by rw [er.out]; first | rfl | simp, Ok.alloc (Ok.alloc (Ok.refl w) _) _⟩
    · have d2 : decide (ep < 1) = true := decide_eq_true (by omega)
      rw [decide_eq_false h2] at er
      go_enter Tryz.func19, Tryz.ntmps19
      go_wp2
      go_ret
      exact ⟨by rw [er.out]; first | rfl | simp, Ok.alloc (Ok.alloc (Ok.refl w) _) _⟩
  · have d1 : decide ((40 : Int) < (n : Int)) = true := decide_eq_true (by omega)
    rw [decide_eq_false h1] at er
    go_enter Tryz.func19, Tryz.ntmps19
    go_wp2
    go_ret
    exact ⟨by rw [er.out]; first | rfl | simp, Ok.alloc (Ok.alloc (Ok.refl w) _) _⟩

/-- What find tells: the place, and whether there is one. -/
def findV (ep : Int) (xs : List Sh) (q : Sh → Bool) : Value := if sharesB ep xs = true then .tuple #[.int .i64 (if 0 ≤ idxI q xs then idxI q xs else 0), .bool (decide (0 ≤ idxI q xs))] else .tuple #[.int .i64 0, .bool false]

set_option maxRecDepth 100000 in
set_option maxHeartbeats 4000000 in
theorem find_w (fn p : Nat) (q : Sh → Bool) (ep : Int) (A : Option Addr) (n c : Nat) (xs : List Sh) (hn : xs.length = n) (hn6 : n ≤ 1000) (w : World) (hI : SharesAt w A xs)
    (hc : ∀ args w, (callFunc fn args).run Tryz.prog w = .ok (.enter fn args) w) (hf : ∀ x w', Ok w w' → Calls Tryz.prog fn #[shV x, .pointer (some ⟨p, 0, none⟩)] w' (Ret w' (.bool (q x)))) :
    Calls Tryz.prog 51 #[.agg #[.int .i64 ep, .slice A n c], .func (.func fn) #[] #[.pointer (some ⟨p, 0, none⟩)]] w (Ret w (findV ep xs q)) := by
  have hr := sharesRight_w ep A n c xs hn hn6
  have hx := idx_w fn p q A n c xs hn (by omega)
  have HI := Lib.hid hI
  have HF := Lib.hid hf
  have HC := Lib.hid hc
  obtain ⟨R, hR⟩ : ∃ R, findV ep xs q = R := ⟨_, rfl⟩
  rw [hR]
  have er := Lib.hid hR
  clear hR hI hf hc
  unfold findV at er
  generalize idxI q xs = i at er hx
  cases h1 : sharesB ep xs with
  | false =>
    rw [h1] at hr er
    go_enter Tryz.func51, Tryz.ntmps51
    go_wp2_with fail
    refine (hr _ (HI.out.ok (Ok.alloc (Ok.refl w) _))).mono ?_
    rintro _ w1 ⟨rfl, o1⟩
    go_wp2
    go_returns
    exact ⟨by rw [← er.out]; rfl, Ok.call (Ok.alloc (Ok.refl w) _) o1⟩
  | true =>
    rw [h1] at hr er
    have HX := Lib.hid hx
    clear hx
    go_enter Tryz.func51, Tryz.ntmps51
    go_wp2_with fail
    refine (hr _ (HI.out.ok (Ok.alloc (Ok.refl w) _))).mono ?_
    rintro _ w1 ⟨rfl, o1⟩
    have E1 : w1.cell? ⟨w.heap.size, 1, none⟩ = some (.slice A n c) := Ok.cell o1 (by go_cell)
    have ok1 : Ok w w1 := Ok.call (Ok.alloc (Ok.refl w) _) o1
    go_wp2_with fail
    refine (HX.out w1 (HI.out.ok ok1) HC.out (fun x w' k' => HF.out x w' (Ok.call ok1 k'))).mono ?_
    rintro _ w2 ⟨rfl, o2⟩
    by_cases hi : 0 ≤ i
    · have hd : decide (0 ≤ i) = true := decide_eq_true hi
      rw [if_pos hi, hd] at er
      go_wp2
      go_returns
      exact ⟨by rw [← er.out]; simp; omega, Ok.call ok1 o2⟩
    · have hd : decide (0 ≤ i) = false := decide_eq_false hi
      rw [if_neg hi, hd] at er
      go_wp2
      go_returns
      exact ⟨by rw [← er.out]; simp; omega, Ok.call ok1 o2⟩
end Go.Proofs.YtdabdkedgigjdaaGreat
