/- Are acts too great? -/
import Derived.Test.YtebhcadolnjplaaGs
namespace Go.Proofs.Ytebhcadolnjplaa
open Go.RowKit

/-- The cells of an act. -/
structure AR where
  kind : Int
  index : Int
  A : Option Addr
  n : Nat
  c : Nat
  bi : Int
  bt : Int
  s : S4
structure ActAt (T : Nat → Prop) (w : World) (b off : Nat) (r : AR) (l : List En) (cf : Cfg) : Prop where
  c1 : w.cell? ⟨b, off + 1, none⟩ = some (.int .i64 r.index)
  c2 : w.cell? ⟨b, off + 2, none⟩ = some (.slice r.A r.n r.c)
  c3 : w.cell? ⟨b, off + 3, none⟩ = some (.int .i64 r.bi)
  c5 : w.cell? ⟨b, off + 5, none⟩ = some (.slice r.s.A0 r.s.n0 r.s.c0)
  c6 : w.cell? ⟨b, off + 6, none⟩ = some (.slice r.s.A1 r.s.n1 r.s.c1)
  c7 : w.cell? ⟨b, off + 7, none⟩ = some (.slice r.s.A2 r.s.n2 r.s.c2)
  c8 : w.cell? ⟨b, off + 8, none⟩ = some (.slice r.s.A3 r.s.n3 r.s.c3)
  ens : EnsIn T w r.A l
  len : l.length = r.n
  le : r.n ≤ 17592186044416
  cfg : CfgAt w r.s cf
theorem ActAt.ok {T : Nat → Prop} {w w' : World} {b off : Nat} {r : AR} {l : List En} {cf : Cfg} (h : ActAt T w b off r l cf) (o : Ok w w') : ActAt T w' b off r l cf :=
  ⟨o.cell h.c1, o.cell h.c2, o.cell h.c3, o.cell h.c5, o.cell h.c6, o.cell h.c7, o.cell h.c8, h.ens.kp (Kp.of (S := fun _ => False) o) (fun _ f => f.elim), h.len, h.le, h.cfg.ok o⟩
/-- An act that is not too great. -/
structure Light (r : AR) (l : List En) (cf : Cfg) : Prop where
  len : l.length ≤ 400
  ens : ∀ j, j < l.length → enN (enA l j) ≤ 400
  index : r.index ≤ 1073741824
  bi : r.bi ≤ 1073741824
  cfg : cfgN cf ≤ 100
def GreatP (n : Nat) (R : Nat → AR) (Ls : Nat → List En) (Cs : Nat → Cfg) (w : World) (e : Ending) (w' : World) : Prop := ∃ b, e = .returned (.bool b) ∧ Ok w w' ∧ (b = false → ∀ j, j < n → Light (R j) (Ls j) (Cs j))
set_option maxRecDepth 100000 in
set_option maxHeartbeats 4000000 in
theorem great_f (T : Nat → Prop) (b off n c : Nat) (R : Nat → AR) (Ls : Nat → List En) (Cs : Nat → Cfg) (hn : n ≤ 80) (w : World) (h : ∀ j, j < n → ActAt T w b (off + j * 9) (R j) (Ls j) (Cs j)) : Calls Try.prog 11 #[.slice (some ⟨b, off, none⟩) n c] w (GreatP n R Ls Cs w) := by
  have HI := Lib.hid h
  clear h
  have dn : decide ((n : Int) > 80) = false := decide_eq_false (by omega)
  go_enter Try.func11, Try.ntmps11
  go_wp2_with fail
  go_loopw [3] (fun i wr => ∃ k : Nat, k ≤ n ∧ i = .int .i64 k ∧ (∀ j, j < k → Light (R j) (Ls j) (Cs j)) ∧ Ok w wr) (fun i _ => n - (intOf i).toNat)
  case atStart => exact ⟨0, Nat.zero_le _, rfl, fun j hj => absurd hj (Nat.not_lt_zero _), Ok.refl _⟩
  case round =>
    obtain ⟨k, hk, rfl, hall, okr⟩ := hrel
    have HALL := Lib.hid hall
    have HOK := Lib.hid okr
    clear hall okr
    by_cases hlt : k < n
    · have d1 : decide ((k : Int) < (n : Int)) = true := decide_eq_true (by omega)
      have d2 : decide ((k : Int) < 81) = true := decide_eq_true (by omega)
      have HA := Lib.hid ((HI.out k hlt).ok HOK.out)
      have HNX : Hid (Light (R k) (Ls k) (Cs k) → ∀ j, j < k + 1 → Light (R j) (Ls j) (Cs j)) := Lib.hid fun q j hj => by
        by_cases hjk : j < k
        · exact HALL.out j hjk
        · obtain rfl : j = k := by omega
          exact q
      have HLT : Hid (n - ((k : Int) + 1).toNat < n - (k : Int).toNat) := Lib.hid (by omega)
      have hi0 : (0 : Int) ≤ (k : Int) := Int.natCast_nonneg _
      have hi1 : (k : Int) < (n : Int) := by omega
      have c2 := HA.out.c2
      have hen := entriesOf_f T (R k).A (R k).n (R k).c (Ls k) HA.out.len HA.out.le wr HA.out.ens
      clear HALL
      generalize R k = r at *
      generalize Ls k = l at *
      generalize Cs k = cf at *
      go_wp2_with fail
      refine hen.mono ?_
      clear hen c2
      rintro _ w1 ⟨v, rfl, o1, hv⟩
      have HV := Lib.hid hv
      have HO1 := Lib.hid (HOK.out.trans o1)
      have HA1 := Lib.hid (HA.out.ok o1)
      clear hv o1 HA HOK
      by_cases g1 : 400 < v
      · have e1 : decide (v > 400) = true := decide_eq_true g1
        go_wp2_with fail
        go_ret
        exact ⟨true, rfl, HO1.out, fun q => by cases q⟩
      have e1 : decide (v > 400) = false := decide_eq_false g1
      have c1 := HA1.out.c1
      by_cases g2 : 1073741824 < r.index
      · have e2 : decide (r.index > 1073741824) = true := decide_eq_true g2
        go_wp2_with fail
        go_ret
        exact ⟨true, rfl, HO1.out, fun q => by cases q⟩
      have e2 : decide (r.index > 1073741824) = false := decide_eq_false g2
      have c3 := HA1.out.c3
      by_cases g3 : 1073741824 < r.bi
      · have e3 : decide (r.bi > 1073741824) = true := decide_eq_true g3
        go_wp2_with fail
        go_ret
        exact ⟨true, rfl, HO1.out, fun q => by cases q⟩
      have e3 : decide (r.bi > 1073741824) = false := decide_eq_false g3
      have c5 := HA1.out.c5
      have c6 := HA1.out.c6
      have c7 := HA1.out.c7
      have c8 := HA1.out.c8
      have hco := configOf_f r.s cf w1 HA1.out.cfg
      obtain ⟨cn, hcn⟩ : ∃ cn, (1 + cf.vs.length + cf.os.length + cf.ls.length + cf.ws.length : Nat) = cn := ⟨_, rfl⟩
      rw [hcn] at hco
      have HCN : Hid (cfgN cf = cn) := Lib.hid hcn
      clear hcn
      have HG : Hid (¬ 400 < v ∧ ¬ 1073741824 < r.index ∧ ¬ 1073741824 < r.bi) := Lib.hid ⟨g1, g2, g3⟩
      clear g1 g2 g3
      go_wp2_with fail
      refine hco.mono ?_
      clear hco
      rintro _ w2 ⟨rfl, o2⟩
      have HO2 := Lib.hid (HO1.out.trans o2)
      clear o2
      by_cases g4 : 100 < cn
      · have e4 : decide ((cn : Int) > 100) = true := decide_eq_true (by omega)
        go_wp2_with fail
        go_ret
        exact ⟨true, rfl, HO2.out, fun q => by cases q⟩
      have e4 : decide ((cn : Int) > 100) = false := decide_eq_false (by omega)
      have HL : Hid (Light r l cf) := Lib.hid (by
        have g := HG.out
        have hv := HV.out (by omega)
        exact ⟨hv.1, hv.2, by omega, by omega, by rw [HCN.out]; omega⟩)
      go_wp2_with fail
      exact ⟨⟨k + 1, hlt, rfl, HNX.out HL.out, HO2.out⟩, HLT.out⟩
    · have d1 : decide ((k : Int) < (n : Int)) = false := decide_eq_false (by omega)
      obtain rfl : k = n := by omega
      go_wp2_with fail
      go_ret
      exact ⟨false, rfl, HOK.out, fun _ => HALL.out⟩
end Go.Proofs.Ytebhcadolnjplaa
