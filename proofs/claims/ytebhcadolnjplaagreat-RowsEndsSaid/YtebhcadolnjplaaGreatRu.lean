/- Rows in memory; the place of a key. -/
import Derived.Test.YtebhcadolnjplaaGreatRt
namespace Go.Proofs.YtebhcadolnjplaaGreat
open Go.RowKit

def rw0 : Rw := ⟨⟨#[]⟩, ⟨#[]⟩⟩
def rwA (l : List Rw) (j : Nat) : Rw := l.getD j rw0
def Rw.cells (r : Rw) : List Value := [.string r.key, .string r.val]
def flat2 (l : List Rw) : List Value := l.flatMap Rw.cells
theorem flat2_append (a b : List Rw) : flat2 (a ++ b) = flat2 a ++ flat2 b := by simp [flat2]
theorem flat2_len (l : List Rw) : (flat2 l).length = l.length * 2 := by
  induction l with
  | nil => rfl
  | cons r l ih => simp only [flat2, List.flatMap_cons, List.length_append, List.length_cons] at ih ⊢; rw [ih]; simp [Rw.cells]; omega
theorem flat2_at (l : List Rw) (j k : Nat) (hj : j < l.length) (hk : k < 2) : (flat2 l)[j * 2 + k]? = (rwA l j).cells[k]? := by
  induction l generalizing j with
  | nil => simp at hj
  | cons r l ih =>
    have hl : r.cells.length = 2 := rfl
    cases j with
    | zero =>
      simp only [flat2, List.flatMap_cons, rwA]
      rw [List.getElem?_append_left (by rw [hl]; omega)]
      simp
    | succ j =>
      simp only [flat2, List.flatMap_cons] at ih ⊢
      rw [List.getElem?_append_right (by rw [hl]; omega), hl, show (j + 1) * 2 + k - 2 = j * 2 + k from by omega]
      rw [show rwA (r :: l) (j + 1) = rwA l j from by simp [rwA]]
      exact ih j (by simpa using hj)
theorem flat2_one (l : List Rw) : ∀ v ∈ flat2 l, v.oneCell' = true := by
  intro v hv
  obtain ⟨r, _, h⟩ := List.mem_flatMap.1 hv
  simp only [Rw.cells, List.mem_cons, List.not_mem_nil, or_false] at h
  rcases h with rfl | rfl <;> rfl
/-- Rows that lie there. -/
def RowsIn (w : World) (A : Option Addr) (l : List Rw) : Prop := ∀ j, j < l.length → ∃ b off, A = some ⟨b, off, none⟩ ∧ w.cell? ⟨b, off + j * 2, none⟩ = some (.string (rwA l j).key) ∧ w.cell? ⟨b, off + j * 2 + 1, none⟩ = some (.string (rwA l j).val)
theorem RowsIn.ok {w w' : World} {A : Option Addr} {l : List Rw} (h : RowsIn w A l) (k : Ok w w') : RowsIn w' A l := fun j hj => by
  obtain ⟨b, off, e, h1, h2⟩ := h j hj
  exact ⟨b, off, e, k.cell h1, k.cell h2⟩
def OwnR (w : World) (B : Nat) (A : Option Addr) (n c : Nat) (l : List Rw) : Prop := l.length = n ∧ w.ownsRow B 48 2 (.slice A n c) n (flat2 l)
theorem OwnR.ok {w w' : World} {B : Nat} {A : Option Addr} {n c : Nat} {l : List Rw} (h : OwnR w B A n c l) (k : Ok w w') : OwnR w' B A n c l := by
  refine ⟨h.1, h.2.1, ?_⟩
  rcases h.2.2 with q | ⟨g, cap, cur, e, hb, hg, rest⟩
  · exact .inl q
  · exact .inr ⟨g, cap, cur, e, hb, by rw [k.block g (Array.getElem?_eq_some_iff.1 hg).1]; exact hg, rest⟩
theorem OwnR.rows {w : World} {B : Nat} {A : Option Addr} {n c : Nat} {l : List Rw} (h : OwnR w B A n c l) : RowsIn w A l := fun j hj => by
  rcases h.2.2 with ⟨_, q⟩ | ⟨g, cap, cur, e, _⟩
  · have := h.1; omega
  · simp only [Value.slice.injEq] at e
    have hc : ∀ k v, (flat2 l)[k]? = some v → w.cell? ⟨g, k, none⟩ = some v := fun k v hv => by
      have := World.ownsRow.cells h.2 (g := g) (by rw [e.1]; rfl) k v hv
      have e2 : (⟨g, 0, none⟩ : Addr).add k = ⟨g, k, none⟩ := by unfold Addr.add; split <;> simp_all
      rwa [e2] at this
    refine ⟨g, 0, e.1, ?_, ?_⟩
    · rw [Nat.zero_add]; exact hc _ _ (by have := flat2_at l j 0 hj (by decide); simpa [Rw.cells] using this)
    · rw [Nat.zero_add]; exact hc _ _ (by have := flat2_at l j 1 hj (by decide); simpa [Rw.cells] using this)
/-- Rising by key. -/
def Rises (l : List Rw) : Prop := ∀ i j, i < j → j < l.length → ltB (rwA l i).key (rwA l j).key = true
/-- The place of a key: how many are ahead of it. -/
structure Place (l : List Rw) (t : Str) (k : Nat) : Prop where
  le : k ≤ l.length
  low : ∀ j, j < k → ltB (rwA l j).key t = true
  high : ∀ j, k ≤ j → j < l.length → ltB (rwA l j).key t = false
def foundB (l : List Rw) (t : Str) (k : Nat) : Bool := decide (k < l.length) && decide ((rwA l k).key = t)
theorem lt_trans' {a b c : Str} (h1 : ltB a b = true) (h2 : ltB b c = true) : ltB a c = true := less_trans _ _ _ h1 h2
theorem lt_irr (a : Str) : ltB a a = false := less_irrefl _
theorem call146 (args : Array Value) (w : World) : (callFunc 55 args).run Tryz.prog w = .ok (.enter 55 args) w := by
  have hn : ¬ Tryz.f55.name = "runtime.NumGoroutine" := by decide
  have hb : ¬ Tryz.f55.body = none := fun h => by
    have h2 : Tryz.f55.body.isNone = false := by kernel_rfl
    rw [h] at h2; cases h2
  simp [callFunc, go_sem, hn, hb]
def SearchP (l : List Rw) (t : Str) (W : World) (e : Ending) (w' : World) : Prop := ∃ k, Place l t k ∧ e = .returned (.tuple #[.int .i64 (k : Int), .bool (foundB l t k)]) ∧ Ok W w'
theorem half_lt (i j : Nat) (h : i < j) : i ≤ (i + j) / 2 ∧ (i + j) / 2 < j := by omega
set_option maxRecDepth 100000 in
set_option maxHeartbeats 4000000 in
theorem search_f (A : Option Addr) (n c : Nat) (l : List Rw) (t : Str) (W : World) (hn : l.length = n) (hn6 : n ≤ 1000000) (h : RowsIn W A l) (hr : Rises l) :
    Calls Tryz.prog 54 #[.slice A n c, .string t, .func (.func 55) #[] #[]] W (SearchP l t W) := by
  have HI := Lib.hid h
  have HN := Lib.hid hn
  have HR := Lib.hid hr
  have hcall := call146
  clear h hn hr
  go_enter Tryz.func54, Tryz.ntmps54
  go_wp2_with fail
  go_loopw [9, 10, 11] (fun vi vj _ wr => ∃ i j : Nat, vi = .int .i64 i ∧ vj = .int .i64 j ∧ i ≤ j ∧ j ≤ n ∧ (∀ q, q < i → ltB (rwA l q).key t = true) ∧ (∀ q, j ≤ q → q < n → ltB (rwA l q).key t = false) ∧ Ok W wr) (fun vi vj _ _ => (intOf vj).toNat - (intOf vi).toNat)
  case atStart => exact ⟨0, n, rfl, rfl, Nat.zero_le _, Nat.le_refl _, fun q hq => absurd hq (Nat.not_lt_zero _), fun q h1 h2 => by omega, Ok.refl _⟩
  case round =>
    obtain ⟨i, j, rfl, rfl, hij, hjn, hlo, hhi, okr⟩ := hrel
    have HLO := Lib.hid hlo
    have HHI := Lib.hid hhi
    have HOK := Lib.hid okr
    clear hlo hhi okr
    by_cases hlt : i < j
    · have d1 : decide ((i : Int) < (j : Int)) = true := decide_eq_true (by omega)
      obtain ⟨m, hm⟩ : ∃ m, m = (i + j) / 2 := ⟨_, rfl⟩
      have HM : Hid (i ≤ m ∧ m < j) := Lib.hid (by rw [hm]; exact half_lt i j hlt)
      have e1 : IntKind.i64.wrap ((i : Int) + (j : Int)) = (i : Int) + (j : Int) := IntWalk.i64_in _ (by omega)
      go_upto_region 5 with fail
      rw [show ((i : Int) + (j : Int)) / 2 = (m : Int) from by omega]
      clear e1 hm d1
      have hmn : m < n := by have := HM.out; omega
      obtain ⟨b, off, rfl, c0, c1⟩ := HI.out.ok HOK.out m (by rw [HN.out]; exact hmn)
      have HRK : Hid (decide (cmpI (rwA l m).key t < 0) = ltB (rwA l m).key t) := Lib.hid (cmpI_lt _ _)
      have HLO2 : Hid (ltB (rwA l m).key t = true → ∀ q, q < m + 1 → ltB (rwA l q).key t = true) := Lib.hid fun hk q hq => by
        by_cases h1 : q = m
        · subst h1; exact hk
        · exact lt_trans' (HR.out q m (by omega) (by rw [HN.out]; exact hmn)) hk
      have HHI2 : Hid (ltB (rwA l m).key t = false → ∀ q, m ≤ q → q < n → ltB (rwA l q).key t = false) := Lib.hid fun hk q h1 h2 => by
        by_cases h3 : q = m
        · subst h3; exact hk
        · cases hq : ltB (rwA l q).key t with
          | false => rfl
          | true =>
            have := lt_trans' (HR.out m q (by omega) (by rw [HN.out]; exact h2)) hq
            rw [hk] at this; cases this
      have hi0 : (0 : Int) ≤ (m : Int) := Int.natCast_nonneg _
      have hi1 : (m : Int) < (n : Int) := by omega
      have hcf := cmpFn_f (rwA l m).key (rwA l m).val t wr
      generalize (rwA l m).key = km at *
      generalize (rwA l m).val = vm at *
      go_wp2_with fail
      refine hcf.mono ?_
      clear hcf c0 c1
      rintro _ w1 ⟨rfl, o1⟩
      have HO1 := Lib.hid (HOK.out.trans o1)
      clear o1
      obtain ⟨x, hx⟩ : ∃ x, cmpI km t = x := ⟨_, rfl⟩
      rw [hx] at HRK ⊢
      clear hx
      cases hk : ltB km t with
      | true =>
        have HLO3 := Lib.hid (HLO2.out hk)
        have d2 : decide (x < 0) = true := HRK.out.trans hk
        clear hk HLO2 HHI2
        have e2 : IntKind.i64.wrap ((m : Int) + 1) = (m : Int) + 1 := IntWalk.i64_in _ (by omega)
        go_wp2_with fail
        have hmm := HM.out
        refine ⟨⟨m + 1, j, by push_cast; rfl, rfl, by omega, hjn, HLO3.out, HHI.out, HO1.out⟩, ?_⟩
        show (j : Int).toNat - ((m : Int) + 1).toNat < (j : Int).toNat - (i : Int).toNat
        omega
      | false =>
        have HHI3 := Lib.hid (HHI2.out hk)
        have d2 : decide (x < 0) = false := HRK.out.trans hk
        clear hk HLO2 HHI2
        go_wp2_with fail
        have hmm := HM.out
        refine ⟨⟨i, m, rfl, rfl, by omega, by omega, HLO.out, HHI3.out, HO1.out⟩, ?_⟩
        show (m : Int).toNat - (i : Int).toNat < (j : Int).toNat - (i : Int).toNat
        omega
    · have d1 : decide ((i : Int) < (j : Int)) = false := decide_eq_false (by omega)
      obtain rfl : i = j := by omega
      have HP : Hid (Place l t i) := Lib.hid ⟨by rw [HN.out]; exact hjn, HLO.out, fun q h1 h2 => HHI.out q h1 (by rw [← HN.out]; exact h2)⟩
      clear hlt hij HLO HHI
      by_cases hin : i < n
      · have d2 : decide ((i : Int) < (n : Int)) = true := decide_eq_true (by omega)
        obtain ⟨b, off, rfl, c0, c1⟩ := HI.out.ok HOK.out i (by rw [HN.out]; exact hin)
        have HF : Hid (foundB l t i = decide ((rwA l i).key = t)) := Lib.hid (by unfold foundB; rw [HN.out, decide_eq_true hin, Bool.true_and])
        have HE : Hid ((cmpI (rwA l i).key t == 0) = decide ((rwA l i).key = t)) := Lib.hid (by
          rw [Bool.eq_iff_iff, beq_iff_eq, decide_eq_true_eq]; exact cmpI_eq _ _)
        have hi0 : (0 : Int) ≤ (i : Int) := Int.natCast_nonneg _
        have hi1 : (i : Int) < (n : Int) := by omega
        have hcf := cmpFn_f (rwA l i).key (rwA l i).val t wr
        rw [← HE.out] at HF
        clear HE
        generalize (rwA l i).key = km at *
        generalize (rwA l i).val = vm at *
        go_wp2_with fail
        refine hcf.mono ?_
        clear hcf c0 c1
        rintro _ w1 ⟨rfl, o1⟩
        have HO1 := Lib.hid (HOK.out.trans o1)
        clear o1
        generalize cmpI km t = x at *
        go_wp2_with fail
        refine bodyPost_ret (v := .tuple #[.int .i64 (i : Int), .bool (x == 0)]) (by simp [results, Tryz.results54, go_sem]; try rfl) rfl ?_
        exact ⟨i, HP.out, by rw [HF.out], HO1.out⟩
      · have d2 : decide ((i : Int) < (n : Int)) = false := decide_eq_false (by omega)
        have HF : Hid (foundB l t i = false) := Lib.hid (by unfold foundB; rw [HN.out, decide_eq_false hin, Bool.false_and])
        go_wp2_with fail
        refine bodyPost_ret (v := .tuple #[.int .i64 (i : Int), .bool false]) (by simp [results, Tryz.results54, go_sem]; try rfl) rfl ?_
        exact ⟨i, HP.out, by rw [HF.out], HOK.out⟩
end Go.Proofs.YtebhcadolnjplaaGreat
