/- The contract of Parts. -/
import Derived.Test.YtdabdkedgigjdaaGreatI
namespace Go.Proofs.YtdabdkedgigjdaaGreat
open Go.RowKit

def partsGo : Str → List Sp → Bool
  | _, [] => true
  | lo, s :: r => rightB s && (s.lo.toList == lo.toList) && (noB s.hi == r.isEmpty) && partsGo s.hi r
def partsM (ps : List Sp) : Bool := !ps.isEmpty && partsGo ⟨#[]⟩ ps
def at1 (ps : List Sp) (j : Nat) : Sp := ps[j]?.getD allS
/-- These spans, from an address on. -/
def SpansAt (W : World) (A : Option Addr) (ps : List Sp) : Prop := ∀ j, j < ps.length → ∃ b off, A = some ⟨b, off, none⟩ ∧ W.cell? ⟨b, off + j * 2, none⟩ = some (.string (at1 ps j).lo) ∧ W.cell? ⟨b, off + j * 2 + 1, none⟩ = some (.string (at1 ps j).hi)
theorem SpansAt.ok {W W' : World} {A : Option Addr} {ps : List Sp} (h : SpansAt W A ps) (k : Ok W W') : SpansAt W' A ps := fun j hj => by
  obtain ⟨b, off, e, c0, c1⟩ := h j hj
  exact ⟨b, off, e, Ok.cell k c0, Ok.cell k c1⟩
theorem flat_get : ∀ (ps : List Sp) (j : Nat), j < ps.length → (flat ps)[j * 2]? = some (.string (at1 ps j).lo) ∧ (flat ps)[j * 2 + 1]? = some (.string (at1 ps j).hi)
  | [], j, h => absurd h (Nat.not_lt_zero _)
  | p :: ps, 0, _ => by simp [flat, at1]
  | p :: ps, j + 1, h => by
    have := flat_get ps j (by simpa using h)
    have e : flat (p :: ps) = .string p.lo :: .string p.hi :: flat ps := by simp [flat]
    rw [e, show (j + 1) * 2 = j * 2 + 1 + 1 from by omega, List.getElem?_cons_succ, List.getElem?_cons_succ, List.getElem?_cons_succ, List.getElem?_cons_succ]
    simpa [at1] using this
theorem OwnS.at {w : World} {B : Nat} {A : Option Addr} {n c : Nat} {ps : List Sp} (h : OwnS w B A n c ps) : SpansAt w A ps := fun j hj => by
  obtain ⟨h1, rfl⟩ := h
  rcases h1.2 with ⟨e, h5⟩ | ⟨g, cap, cur, e, r⟩
  · omega
  · obtain ⟨rfl, -, rfl⟩ : A = some ⟨g, 0, none⟩ ∧ True ∧ c = cap := by
      simp only [Value.slice.injEq] at e
      exact ⟨e.1, trivial, e.2.2⟩
    have e0 := World.ownsRow.cellAt h1 (j * 2) (by omega)
    have e1 := World.ownsRow.cellAt h1 (j * 2 + 1) (by omega)
    obtain ⟨f0, f1⟩ := flat_get ps j hj
    exact ⟨g, 0, rfl, by rw [Nat.zero_add, e0, f0], by rw [Nat.zero_add, e1, f1]⟩
theorem drop_at (ps : List Sp) (k : Nat) (h : k < ps.length) : ps.drop k = at1 ps k :: ps.drop (k + 1) := by
  rw [List.drop_eq_getElem_cons h]
  simp [at1, h]

set_option maxRecDepth 100000 in
set_option maxHeartbeats 4000000 in
theorem parts_w (A : Option Addr) (n c : Nat) (ps : List Sp) (hn : ps.length = n) (hn6 : n ≤ 1000000) (w : World) (hI : SpansAt w A ps) :
    Calls Tryz.prog 64 #[.slice A n c] w (Ret w (.bool (partsM ps))) := by
  have HI := Lib.hid hI
  have HN := Lib.hid hn
  obtain ⟨R, hR⟩ : ∃ R, partsM ps = R := ⟨_, rfl⟩
  rw [hR]
  have er := Lib.hid hR
  clear hI hn hR
  go_enter Tryz.func64, Tryz.ntmps64
  go_wp2_with fail
  go_loopw [3, 8] (fun l i wr => ∃ (k : Nat) (lo : Str), k ≤ n ∧ i = .int .i64 k ∧ l = .string lo ∧ partsGo ⟨#[]⟩ ps = partsGo lo (ps.drop k) ∧ Ok w wr) (fun _ i _ => n - (intOf i).toNat)
  case atStart => exact ⟨0, ⟨#[]⟩, Nat.zero_le _, rfl, rfl, rfl, Ok.refl _⟩
  case round =>
    obtain ⟨k, lo, hk, rfl, rfl, hgo, okr⟩ := hrel
    have HGO := Lib.hid hgo
    have HOKR := Lib.hid okr
    clear hgo okr
    by_cases hlt : k < n
    · have d1 : decide ((k : Int) < (n : Int)) = true := decide_eq_true (by omega)
      have hkl : k < ps.length := by rw [HN.out]; exact hlt
      obtain ⟨b, off, rfl, C0, C1⟩ := HI.out.ok HOKR.out k hkl
      have HD := Lib.hid (drop_at ps k hkl)
      have hne : Hid (ps.isEmpty = false) := Lib.hid (by cases ps with
        | nil => simp at hkl
        | cons a l => rfl)
      clear hkl
      obtain ⟨s, hs⟩ : ∃ s, at1 ps k = s := ⟨_, rfl⟩
      rw [hs] at C0 C1 HD
      clear hs
      obtain ⟨sl, sh⟩ := s
      have hr := right_w ⟨sl, sh⟩
      have hh := high_w ⟨sl, sh⟩
      have ho := open_w sh
      have hG : Hid (partsGo lo (ps.drop k) = (rightB ⟨sl, sh⟩ && (sl.toList == lo.toList) && (noB sh == (ps.drop (k + 1)).isEmpty) && partsGo sh (ps.drop (k + 1)))) := Lib.hid (by rw [HD.out]; rfl)
      have hE : Hid ((ps.drop (k + 1)).isEmpty = decide (k + 1 = n)) := Lib.hid (by
        rw [Bool.eq_iff_iff, List.isEmpty_iff, List.drop_eq_nil_iff, decide_eq_true_iff, HN.out]; omega)
      unfold spV at hr hh
      cases h1 : rightB ⟨sl, sh⟩ with
      | false =>
        rw [h1] at hr
        have hRf : Hid (R = false) := Lib.hid (by rw [← er.out, partsM, HGO.out, hG.out, h1]; simp)
        go_wp2_with fail
        refine (hr _).mono ?_
        rintro _ w4 ⟨rfl, o4⟩
        go_wp2
        go_ret
        exact ⟨by rw [hRf.out]; rfl, Ok.call (Ok.alloc HOKR.out _) o4⟩
      | true =>
        rw [h1] at hr hG
        cases h2 : (sl.toList == lo.toList) with
        | false =>
          have hRf : Hid (R = false) := Lib.hid (by rw [← er.out, partsM, HGO.out, hG.out, h2]; simp)
          go_wp2_with fail
          refine (hr _).mono ?_
          rintro _ w4 ⟨rfl, o4⟩
          have B0 : w4.cell? ⟨wr.heap.size, 0, none⟩ = some (.string sl) := Ok.cell o4 (by go_cell)
          go_wp2
          go_ret
          exact ⟨by rw [hRf.out]; rfl, Ok.call (Ok.alloc HOKR.out _) o4⟩
        | true =>
          have hsub : wrap64 ((n : Int) - 1) = (n : Int) - 1 := by simp only [wrap64]; omega
          by_cases hl : k + 1 = n
          · have b1 : ((k : Int) == (n : Int) - 1) = true := beq_iff_eq.2 (by omega)
            have b2 : decide ((k : Int) = (n : Int) - 1) = true := decide_eq_true (by omega)
            have hE2 : Hid ((ps.drop (k + 1)).isEmpty = true) := Lib.hid (by rw [hE.out]; exact decide_eq_true hl)
            cases h3 : noB sh with
            | true =>
              have hRt : Hid (partsGo ⟨#[]⟩ ps = partsGo sh (ps.drop (k + 1))) := Lib.hid (by rw [HGO.out, hG.out, h2, h3, hE2.out]; simp)
              rw [h3] at ho
              go_wp2_with fail
              refine (hr _).mono ?_
              rintro _ w4 ⟨rfl, o4⟩
              have B0 : w4.cell? ⟨wr.heap.size, 0, none⟩ = some (.string sl) := Ok.cell o4 (by go_cell)
              have B1 : w4.cell? ⟨wr.heap.size, 1, none⟩ = some (.string sh) := Ok.cell o4 (by go_cell)
              go_wp2_with fail
              refine (hh _).mono ?_
              rintro _ w5 ⟨rfl, o5⟩
              have B1 := Ok.cell o5 B1
              go_wp2_with fail
              refine (ho _).mono ?_
              rintro _ w6 ⟨rfl, o6⟩
              have B1 := Ok.cell o6 B1

              go_wp2
              refine ⟨⟨k + 1, sh, hlt, rfl, rfl, hRt.out, Ok.call (Ok.call (Ok.call (Ok.alloc HOKR.out _) o4) o5) o6⟩, ?_⟩
              show n - ((k : Int) + 1).toNat < n - (k : Int).toNat
              omega
            | false =>
              have hRf : Hid (R = false) := Lib.hid (by rw [← er.out, partsM, HGO.out, hG.out, h2, h3, hE2.out]; simp)
              rw [h3] at ho
              go_wp2_with fail
              refine (hr _).mono ?_
              rintro _ w4 ⟨rfl, o4⟩
              have B0 : w4.cell? ⟨wr.heap.size, 0, none⟩ = some (.string sl) := Ok.cell o4 (by go_cell)
              have B1 : w4.cell? ⟨wr.heap.size, 1, none⟩ = some (.string sh) := Ok.cell o4 (by go_cell)
              go_wp2_with fail
              refine (hh _).mono ?_
              rintro _ w5 ⟨rfl, o5⟩
              have B1 := Ok.cell o5 B1
              go_wp2_with fail
              refine (ho _).mono ?_
              rintro _ w6 ⟨rfl, o6⟩
              have B1 := Ok.cell o6 B1

              go_wp2
              go_ret
              exact ⟨by rw [hRf.out]; rfl, Ok.call (Ok.call (Ok.call (Ok.alloc HOKR.out _) o4) o5) o6⟩
          · have b1 : ((k : Int) == (n : Int) - 1) = false := beq_eq_false_iff_ne.2 (by omega)
            have b2 : decide ((k : Int) = (n : Int) - 1) = false := decide_eq_false (by omega)
            have hE2 : Hid ((ps.drop (k + 1)).isEmpty = false) := Lib.hid (by rw [hE.out]; exact decide_eq_false hl)
            cases h3 : noB sh with
            | false =>
              have hRt : Hid (partsGo ⟨#[]⟩ ps = partsGo sh (ps.drop (k + 1))) := Lib.hid (by rw [HGO.out, hG.out, h2, h3, hE2.out]; simp)
              rw [h3] at ho
              go_wp2_with fail
              refine (hr _).mono ?_
              rintro _ w4 ⟨rfl, o4⟩
              have B0 : w4.cell? ⟨wr.heap.size, 0, none⟩ = some (.string sl) := Ok.cell o4 (by go_cell)
              have B1 : w4.cell? ⟨wr.heap.size, 1, none⟩ = some (.string sh) := Ok.cell o4 (by go_cell)
              go_wp2_with fail
              refine (hh _).mono ?_
              rintro _ w5 ⟨rfl, o5⟩
              have B1 := Ok.cell o5 B1
              go_wp2_with fail
              refine (ho _).mono ?_
              rintro _ w6 ⟨rfl, o6⟩
              have B1 := Ok.cell o6 B1

              go_wp2
              refine ⟨⟨k + 1, sh, hlt, rfl, rfl, hRt.out, Ok.call (Ok.call (Ok.call (Ok.alloc HOKR.out _) o4) o5) o6⟩, ?_⟩
              show n - ((k : Int) + 1).toNat < n - (k : Int).toNat
              omega
            | true =>
              have hRf : Hid (R = false) := Lib.hid (by rw [← er.out, partsM, HGO.out, hG.out, h2, h3, hE2.out]; simp)
              rw [h3] at ho
              go_wp2_with fail
              refine (hr _).mono ?_
              rintro _ w4 ⟨rfl, o4⟩
              have B0 : w4.cell? ⟨wr.heap.size, 0, none⟩ = some (.string sl) := Ok.cell o4 (by go_cell)
              have B1 : w4.cell? ⟨wr.heap.size, 1, none⟩ = some (.string sh) := Ok.cell o4 (by go_cell)
              go_wp2_with fail
              refine (hh _).mono ?_
              rintro _ w5 ⟨rfl, o5⟩
              have B1 := Ok.cell o5 B1
              go_wp2_with fail
              refine (ho _).mono ?_
              rintro _ w6 ⟨rfl, o6⟩
              have B1 := Ok.cell o6 B1

              go_wp2
              go_ret
              exact ⟨by rw [hRf.out]; rfl, Ok.call (Ok.call (Ok.call (Ok.alloc HOKR.out _) o4) o5) o6⟩
    · have d1 : decide ((k : Int) < (n : Int)) = false := decide_eq_false (by omega)
      have hRt : Hid (R = decide ((0 : Int) < (n : Int))) := Lib.hid (by
        rw [← er.out, partsM, HGO.out, List.drop_eq_nil_of_le (by rw [HN.out]; omega), partsGo, Bool.and_true, Bool.eq_iff_iff, decide_eq_true_iff, ← HN.out]
        cases ps <;> simp)
      go_wp2
      go_ret
      exact ⟨by rw [hRt.out]; first | rfl | simp, HOKR.out⟩

end Go.Proofs.YtdabdkedgigjdaaGreat
