/- Rows: the row of a key; deeds, whether they are few. -/
import Derived.Test.YtebhcadolnjplaaGreatXd
import Derived.BigQuiet
namespace Go.Proofs.YtebhcadolnjplaaGreat
open Go.RowKit

def GetP (l : List Rw) (t : Str) (W : World) (e : Ending) (w' : World) : Prop := ∃ k, Place l t k ∧ e = .returned (.tuple #[.string (if foundB l t k = true then (rwA l k).val else ⟨#[]⟩), .bool (foundB l t k)]) ∧ Ok W w'
set_option maxRecDepth 100000 in
set_option maxHeartbeats 4000000 in
theorem get_f (p : Nat) (A : Option Addr) (n c : Nat) (l : List Rw) (t : Str) (w : World) (h : TabAt p A n c l w) (hn6 : n ≤ 1000000) (hr : Rises l) :
    Calls Tryz.prog 13 #[.pointer (some ⟨p, 0, none⟩), .string t] w (GetP l t w) := by
  have hno := none85 p w h.c1
  have HT := Lib.hid h
  have HR := Lib.hid hr
  clear h hr
  go_enter Tryz.func13, Tryz.ntmps13
  go_wp2_with fail
  refine hno.mono ?_
  clear hno
  rintro _ w1 ⟨rfl, o1⟩
  have HO1 := Lib.hid o1
  clear o1
  have hpl := place_f p A n c l t w1 (HT.out.ok HO1.out) hn6 HR.out
  go_wp2_with fail
  refine hpl.mono ?_
  clear hpl
  rintro _ w2 ⟨k, hk, rfl, o2⟩
  have HO2 := Lib.hid (HO1.out.trans o2)
  have HK := Lib.hid hk
  clear o2 HO1 hk
  cases hf : foundB l t k with
  | false =>
    have HF := Lib.hid hf
    clear hf
    go_wp2_with fail
    go_returns
    exact ⟨k, HK.out, by rw [HF.out]; rfl, HO2.out⟩
  | true =>
    have HF := Lib.hid hf
    obtain ⟨hkl, -⟩ := place_yes hf
    clear hf
    have hkn : k < n := by rw [← HT.out.own.1]; exact hkl
    have hi0 : (0 : Int) ≤ (k : Int) := Int.natCast_nonneg _
    have hi1 : (k : Int) < (n : Int) := by omega
    obtain ⟨b, off, rfl, c0, c1⟩ := (HT.out.ok HO2.out).own.rows k hkl
    have q0 := (HT.out.ok HO2.out).c0
    clear hkl

    go_wp2_with fail
    go_returns
    exact ⟨k, HK.out, by rw [HF.out]; rfl, HO2.out⟩
/-- The number that LinesOf tells. -/
def linesG (l : List Rw) : Nat → Int → Nat → Int
  | 0, v, _ => v
  | f + 1, v, k => if k < l.length ∧ v ≤ 1200 then linesG l f (v + 1 + (((rwA l k).key.size / 8 : Nat) : Int) + (((rwA l k).val.size / 8 : Nat) : Int)) (k + 1) else v
def linesM (l : List Rw) : Int := linesG l l.length 0 0
theorem linesG_lo (l : List Rw) : ∀ (f : Nat) (v : Int) (k : Nat), (k : Int) ≤ v → l.length ≤ k + f → v ≤ linesG l f v k ∧ (linesG l f v k ≤ 1200 → (l.length : Int) ≤ linesG l f v k)
  | 0, v, k, hk, hf => by
    simp only [linesG]
    exact ⟨Int.le_refl _, fun _ => by omega⟩
  | f + 1, v, k, hk, hf => by
    simp only [linesG]
    split
    · have ih := linesG_lo l f (v + 1 + (((rwA l k).key.size / 8 : Nat) : Int) + (((rwA l k).val.size / 8 : Nat) : Int)) (k + 1) (by push_cast; omega) (by omega)
      exact ⟨by omega, ih.2⟩
    · rename_i hc
      refine ⟨Int.le_refl _, fun h => ?_⟩
      have : ¬ k < l.length := fun q => hc ⟨q, h⟩
      omega
theorem linesG_hi (l : List Rw) (hs : RowsSz l) : ∀ (f : Nat) (v : Int) (k : Nat), v ≤ 35184372090033 → linesG l f v k ≤ 35184372090033
  | 0, v, k, hv => hv
  | f + 1, v, k, hv => by
    simp only [linesG]
    split
    · rename_i hc
      refine linesG_hi l hs f _ _ ?_
      have := hs k hc.1
      omega
    · exact hv
theorem linesM_spec (l : List Rw) (hs : RowsSz l) : 0 ≤ linesM l ∧ linesM l ≤ 35184372090033 ∧ (linesM l ≤ 1200 → l.length ≤ 1200) := by
  have h1 := linesG_lo l l.length 0 0 (by decide) (by omega)
  have h2 := linesG_hi l hs l.length 0 0 (by decide)
  refine ⟨h1.1, h2, fun h => ?_⟩
  have := h1.2 h
  unfold linesM at h
  omega
set_option maxRecDepth 100000 in
set_option maxHeartbeats 4000000 in
theorem lines_m (A : Option Addr) (n c : Nat) (l : List Rw) (hn : l.length = n) (hn6 : n ≤ 17592186044416) (w : World) (hA : RowsIn w A l) (hs : RowsSz l) : Calls Tryz.prog 23 #[.slice A n c, .int .i64 1200] w (Ret w (.int .i64 (linesM l))) := by
  have HA := Lib.hid hA
  have HN := Lib.hid hn
  have HS := Lib.hid hs
  have HM : Hid (linesG l n 0 0 = linesM l) := Lib.hid (by rw [linesM, hn])
  generalize linesM l = R at *
  clear hA hn hs
  go_enter Tryz.func23, Tryz.ntmps23
  go_wp2_with fail
  go_loopw [5, 6] (fun v5 v6 wr => ∃ (v : Int) (k : Nat), v5 = .int .i64 v ∧ v6 = .int .i64 k ∧ k ≤ n ∧ (k : Int) ≤ v ∧ v ≤ 35184372090033 ∧ linesG l (n - k) v k = R ∧ Ok w wr) (fun _ v6 _ => n - (intOf v6).toNat)
  case atStart => exact ⟨0, 0, rfl, rfl, Nat.zero_le _, Int.le_refl _, by decide, HM.out, Ok.refl _⟩
  case round =>
    obtain ⟨v, k, rfl, rfl, hk, hkv, hv, hg, okr⟩ := hrel
    have HO := Lib.hid okr
    have HKV : Hid ((k : Int) ≤ v) := Lib.hid hkv
    have HG := Lib.hid hg
    clear okr hkv hg HM
    by_cases hlt : k < n
    · have d1 : decide ((k : Int) < (n : Int)) = true := decide_eq_true (by omega)
      by_cases hle : v ≤ 1200
      · have d2 : decide (v ≤ 1200) = true := decide_eq_true hle
        obtain ⟨b, off, rfl, C0, C1⟩ := HA.out.ok HO.out k (by rw [HN.out]; exact hlt)
        obtain ⟨s0, s1⟩ := HS.out k (by rw [HN.out]; exact hlt)
        have HG2 : Hid (linesG l (n - (k + 1)) (v + 1 + (((rwA l k).key.size / 8 : Nat) : Int) + (((rwA l k).val.size / 8 : Nat) : Int)) (k + 1) = R) := Lib.hid (by
          have := HG.out
          rw [show n - k = (n - (k + 1)) + 1 from by omega, linesG, if_pos ⟨by rw [HN.out]; exact hlt, hle⟩] at this
          exact this)
        generalize (rwA l k).key = km at *
        generalize (rwA l k).val = vm at *
        have hi0 : (0 : Int) ≤ (k : Int) := Int.natCast_nonneg _
        have hi1 : (k : Int) < (n : Int) := by omega
        obtain ⟨a, ha⟩ : ∃ a : Nat, a = km.size / 8 := ⟨_, rfl⟩
        obtain ⟨d, hd⟩ : ∃ d : Nat, d = vm.size / 8 := ⟨_, rfl⟩
        have q1 : (km.size : Int).tdiv 8 = (a : Int) := by rw [ha, Int.tdiv_eq_ediv_of_nonneg (by omega)]; omega
        have q2 : (vm.size : Int).tdiv 8 = (d : Int) := by rw [hd, Int.tdiv_eq_ediv_of_nonneg (by omega)]; omega
        have ea : IntKind.i64.wrap (a : Int) = (a : Int) := IntWalk.i64_in _ (by omega)
        have ed : IntKind.i64.wrap (d : Int) = (d : Int) := IntWalk.i64_in _ (by omega)
        have e1 : IntKind.i64.wrap (v + 1) = v + 1 := IntWalk.i64_in _ (by have := HKV.out; omega)
        have e2 : IntKind.i64.wrap (v + 1 + (a : Int)) = v + 1 + (a : Int) := IntWalk.i64_in _ (by have := HKV.out; omega)
        have e3 : IntKind.i64.wrap (v + 1 + (a : Int) + (d : Int)) = v + 1 + (a : Int) + (d : Int) := IntWalk.i64_in _ (by have := HKV.out; omega)
        have HB : Hid (a ≤ 17592186044416 ∧ d ≤ 17592186044416) := Lib.hid (by omega)
        rw [← ha, ← hd] at HG2
        clear ha hd
        go_wp2_with fail
        go_quiet (fail)
        have hb := HB.out
        have hkv := HKV.out
        have HLT : Hid (n - ((k : Int) + 1).toNat < n - (k : Int).toNat) := Lib.hid (by omega)
        go_wp2_with fail
        exact ⟨⟨v + 1 + a + d, k + 1, rfl, rfl, hlt, by push_cast; omega, by omega, HG2.out, HO.out.drewN _⟩, HLT.out⟩
      · have d2 : decide (v ≤ 1200) = false := decide_eq_false hle
        have HE : Hid (v = R) := Lib.hid (by
          have := HG.out
          rw [show n - k = (n - (k + 1)) + 1 from by omega, linesG, if_neg (fun q => hle q.2)] at this
          exact this)
        go_wp2_with fail
        go_ret
        exact ⟨by rw [HE.out]; rfl, HO.out⟩
    · have d1 : decide ((k : Int) < (n : Int)) = false := decide_eq_false (by omega)
      obtain rfl : k = n := by omega
      have HE : Hid (v = R) := Lib.hid (by
        have := HG.out
        rw [Nat.sub_self, linesG] at this
        exact this)
      go_wp2_with fail
      go_ret
      exact ⟨by rw [HE.out]; rfl, HO.out⟩
end Go.Proofs.YtebhcadolnjplaaGreat
