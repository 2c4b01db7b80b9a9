/- Take of entries that stand already. -/
import Derived.Test.YtebhcadolnjplaaGu
namespace Go.Proofs.Ytebhcadolnjplaa
open Go.RowKit

set_option maxRecDepth 100000 in
set_option maxHeartbeats 4000000 in
theorem take_st (S : Nat → Prop) (L : LG) (m : Nat) (A : Option Addr) (n c : Nat) (l : List En) (hn : l.length = n) (w : World) (h : LogAt (Sof S L) L w) (hi : EnsIn (Sof S L) w A l)
    (hm : m ≤ L.es.length) (hall : ∀ j, j < n → Stands L m l j) (hl : n ≤ 1000) : Calls Try.prog 12 #[.pointer (some ⟨L.p, 0, none⟩), .int .i64 (L.i + m + 1), .slice A n c] w (Ret w (.tuple #[.int .i64 0, .bool true])) := by
  have hno := none_f L.p w h.box.c8
  have HC0 := Lib.hid h.box.c0
  have HLA : Hid (∀ w1, Ok w w1 → _) := Lib.hid fun w1 (o : Ok w w1) => last_f L.p L.i L.AE L.es.length L.cE w1 (o.cell h.box.c0) (o.cell h.box.c6) h.lo h.hi (Nat.le_trans h.le (by decide))
  have h0 := h.lo
  have h1 := h.hi
  have h2 := h.le
  have HL := Lib.hid h
  have HI := Lib.hid hi
  have HN := Lib.hid hn
  have e1 : IntKind.i64.wrap (L.i + (L.es.length : Int) + 1) = L.i + (L.es.length : Int) + 1 := IntWalk.i64_in _ (by omega)
  have d1 : decide (L.i + (m : Int) + 1 ≤ L.i) = false := decide_eq_false (by omega)
  have d2 : decide (L.es.length < m) = false := decide_eq_false (by omega)
  have HALL := Lib.hid hall
  clear h hi hn hall
  go_enter Try.func12, Try.ntmps12
  go_wp2_with fail
  refine hno.mono ?_
  clear hno
  rintro _ w1 ⟨rfl, o1⟩
  have c0 := o1.cell HC0.out
  have hla := HLA.out w1 o1
  have HO := Lib.hid o1
  clear o1 HLA HC0
  go_wp2_with fail
  refine hla.mono ?_
  clear hla c0
  rintro _ w2 ⟨rfl, o2⟩
  have HO2 := Lib.hid (HO.out.trans o2)
  clear o2 HO
  go_wp2_with fail
  clear d1 d2 e1
  go_loopw [8] (fun i wr => ∃ k : Nat, k ≤ n ∧ i = .int .i64 k ∧ (∀ j, j < k → Stands L m l j) ∧ Ok w wr) (fun i _ => n - (intOf i).toNat)
  case atStart => exact ⟨0, Nat.zero_le _, rfl, fun j hj => absurd hj (Nat.not_lt_zero _), HO2.out⟩
  case round =>
    obtain ⟨k, hk, rfl, hst, okr⟩ := hrel
    have HST := Lib.hid hst
    have HOK := Lib.hid okr
    clear hst okr HO2
    have HMK : Hid (m + k ≤ L.es.length) := Lib.hid (by
      rcases Nat.eq_zero_or_pos k with rfl | hp
      · exact hm
      · have := (HST.out (k - 1) (by omega)).1
        omega)
    have e1 : IntKind.i64.wrap (L.i + (m : Int) + 1 + (k : Int)) = L.i + (m : Int) + 1 + (k : Int) := IntWalk.i64_in _ (by omega)
    have EQ : Hid (L.i + (m : Int) + 1 + (k : Int) = L.i + ((m + k : Nat) : Int) + 1) := Lib.hid (by push_cast; omega)
    by_cases hlt : k < n
    · have d1 : decide ((k : Int) < (n : Int)) = true := decide_eq_true (by omega)
      have d2 : ((k : Int) == (n : Int)) = false := beq_eq_false_iff_ne.2 (by omega)
      obtain ⟨b, off, r, rfl, hb, hr, hc⟩ := HI.out.kp (Kp.of (S := fun _ => False) HOK.out) (fun _ f => f.elim) k (by rw [HN.out]; exact hlt)
      have q0 : wr.cell? ⟨b, off + k * 7, none⟩ = some (.int .i64 r.term) := hc 0 (by decide)
      have HT : Hid (r.term = (enA l k).term) := Lib.hid hr.term
      have hi0 : (0 : Int) ≤ (k : Int) := Int.natCast_nonneg _
      have hi1 : (k : Int) < (n : Int) := by omega
      clear hb hr hc
      have hs := HALL.out k hlt
      have hti := termIs_at (Sof S L) L (m + k) r.term wr (HL.out.ok HOK.out) hs.1
      rw [← EQ.out, decide_eq_true (hs.2.trans HT.out.symm)] at hti
      have HNX : Hid (∀ j, j < k + 1 → Stands L m l j) := Lib.hid fun j hj => HALL.out j (by omega)
      clear hs
      go_wp2_with fail
      refine hti.mono ?_
      clear hti q0
      rintro _ w3 ⟨rfl, o3⟩
      go_wp2_with fail
      refine ⟨⟨k + 1, hlt, rfl, HNX.out, HOK.out.trans o3⟩, ?_⟩
      show n - ((k : Int) + 1).toNat < n - (k : Int).toNat
      omega
    · have d1 : decide ((k : Int) < (n : Int)) = false := decide_eq_false (by omega)
      obtain rfl : k = n := by omega
      go_wp2_with fail
      refine bodyPost_ret (v := .tuple #[.int .i64 0, .bool true]) (by simp [results, Try.results12, go_sem]; try rfl) rfl ?_
      exact ⟨rfl, HOK.out⟩
end Go.Proofs.Ytebhcadolnjplaa
