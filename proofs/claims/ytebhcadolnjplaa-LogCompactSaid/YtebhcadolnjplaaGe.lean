/- What a log tells: terms, entries. -/
import Derived.Test.YtebhcadolnjplaaGd
namespace Go.Proofs.Ytebhcadolnjplaa
open Go.RowKit

theorem hasB_at (L : LG) (j : Nat) (hj : j < L.es.length) : hasB L (L.i + j + 1) = true := by
  have e1 : decide (L.i < L.i + (j : Int) + 1) = true := decide_eq_true (by omega)
  have e2 : decide (L.i + (j : Int) + 1 ≤ L.i + L.es.length) = true := decide_eq_true (by omega)
  simp only [hasB, e1, e2, Bool.and_self]
set_option maxRecDepth 100000 in
theorem termIs_no (S : Nat → Prop) (L : LG) (x t : Int) (w : World) (h : LogAt S L w) (hb : hasB L x = false) : Calls Try.prog 57 #[.pointer (some ⟨L.p, 0, none⟩), .int .i64 x, .int .i64 t] w (Ret w (.bool false)) := by
  have hh := has_f S L x w h
  rw [hb] at hh
  clear h hb
  go_enter Try.func57, Try.ntmps57
  go_wp2_with fail
  refine hh.mono ?_
  rintro _ w1 ⟨rfl, o1⟩
  go_wp2_with fail
  go_ret
  exact ⟨rfl, o1⟩
set_option maxRecDepth 100000 in
theorem termIs_at (S : Nat → Prop) (L : LG) (j : Nat) (t : Int) (w : World) (h : LogAt S L w) (hj : j < L.es.length) : Calls Try.prog 57 #[.pointer (some ⟨L.p, 0, none⟩), .int .i64 (L.i + j + 1), .int .i64 t] w (Ret w (.bool (decide ((enA L.es j).term = t)))) := by
  have hh := has_f S L (L.i + j + 1) w h
  rw [hasB_at L j hj] at hh
  obtain ⟨g, r, hg, hr, hc⟩ := h.at j hj
  have HA : Hid (∀ w1, Ok w w1 → _) := Lib.hid fun w1 (k : Ok w w1) => at_f S L j w1 (h.ok k) hj g hg
  have HC := Lib.hid (hc 0 (by decide))
  have ht := hr.term
  rw [← ht]
  clear h hg hc hr ht
  go_enter Try.func57, Try.ntmps57
  go_wp2_with fail
  refine hh.mono ?_
  rintro _ w1 ⟨rfl, o1⟩
  have ha := HA.out w1 o1
  have HC1 : Hid (w1.cell? ⟨g, j * 7, none⟩ = some (.int .i64 r.term)) := Lib.hid (o1.cell HC.out)
  clear HC HA
  have HO1 := Lib.hid o1
  clear o1
  go_wp2_with fail
  refine ha.mono ?_
  rintro _ w2 ⟨rfl, o2⟩
  have c := o2.cell HC1.out
  go_wp2_with fail
  go_ret
  exact ⟨rfl, HO1.out.trans o2⟩
set_option maxRecDepth 100000 in
theorem lastM_f (S : Nat → Prop) (L : LG) (w : World) (h : LogAt S L w) : Calls Try.prog 18 #[.pointer (some ⟨L.p, 0, none⟩)] w (Ret w (.int .i64 (L.i + L.es.length))) := by
  have hn := none_f L.p w h.box.c8
  have HL : Hid (∀ w1, Ok w w1 → _) := Lib.hid fun w1 (k : Ok w w1) => last_f L.p L.i L.AE L.es.length L.cE w1 (k.cell h.box.c0) (k.cell h.box.c6) h.lo h.hi (Nat.le_trans h.le (by decide))
  clear h
  go_enter Try.func18, Try.ntmps18
  go_wp2_with fail
  refine hn.mono ?_
  rintro _ w1 ⟨rfl, o1⟩
  have hl := HL.out w1 o1
  clear HL
  have HO1 := Lib.hid o1
  clear o1
  go_wp2_with fail
  refine hl.mono ?_
  rintro _ w2 ⟨rfl, o2⟩
  go_wp2_with fail
  go_ret
  exact ⟨rfl, HO1.out.trans o2⟩
/-- The term at an index: what Term answers. -/
def termB (L : LG) (x : Int) : Int × Bool := if x = L.i then (L.t, true) else if hasB L x then ((enA L.es (x - L.i - 1).toNat).term, true) else (0, false)
theorem has_out (L : LG) (x : Int) (h : hasB L x = true) : ∃ j : Nat, j < L.es.length ∧ x = L.i + j + 1 ∧ (x - L.i - 1).toNat = j := by
  simp only [hasB, Bool.and_eq_true, decide_eq_true_eq] at h
  exact ⟨(x - L.i - 1).toNat, by omega, by omega, rfl⟩
set_option maxRecDepth 100000 in
theorem term_f (S : Nat → Prop) (L : LG) (x : Int) (w : World) (h : LogAt S L w) : Calls Try.prog 13 #[.pointer (some ⟨L.p, 0, none⟩), .int .i64 x] w (Ret w (.tuple #[.int .i64 (termB L x).1, .bool (termB L x).2])) := by
  have hn := none_f L.p w h.box.c8
  have HH : Hid (∀ w1, Ok w w1 → _) := Lib.hid fun w1 (k : Ok w w1) => has_f S L x w1 (h.ok k)
  have HC0 := Lib.hid h.box.c0
  have HC1 := Lib.hid h.box.c1
  have HX : Hid (hasB L x = true → ∃ (g : Nat × Nat) (r : Int), termB L x = (if x = L.i then (L.t, true) else (r, true)) ∧ (∀ w1, Ok w w1 → Calls Try.prog 61 #[.pointer (some ⟨L.p, 0, none⟩), .int .i64 x] w1 (Ret w1 (.pointer (some ⟨g.1, g.2, none⟩)))) ∧ w.cell? ⟨g.1, g.2, none⟩ = some (.int .i64 r)) := Lib.hid fun hb => by
    obtain ⟨j, hj, e, ej⟩ := has_out L x hb
    obtain ⟨g, r, hg, hr, hc⟩ := h.at j hj
    refine ⟨(g, j * 7), r.term, by simp only [termB, hb, ej, hr.term, if_true], fun w1 k => by rw [e]; exact at_f S L j w1 (h.ok k) hj g hg, ?_⟩
    exact hc 0 (by decide)
  have HN : Hid (hasB L x = false → termB L x = if x = L.i then (L.t, true) else (0, false)) := Lib.hid fun hb => by simp [termB, hb]
  have HQ : Hid (x = L.i → termB L x = (L.t, true)) := Lib.hid fun hb => by simp [termB, hb]
  clear h
  generalize termB L x = R at *
  go_enter Try.func13, Try.ntmps13
  go_wp2_with fail
  refine hn.mono ?_
  rintro _ w1 ⟨rfl, o1⟩
  have c0 := o1.cell HC0.out
  have c1 := o1.cell HC1.out
  have hh := HH.out w1 o1
  clear HH
  have HO1 := Lib.hid o1
  clear o1
  by_cases hx : x = L.i
  · have d1 : (x == L.i) = true := beq_iff_eq.2 hx
    have hq := HQ.out hx
    clear HQ HN HX hx
    go_wp2_with fail
    refine bodyPost_ret (v := .tuple #[.int .i64 L.t, .bool true]) (by simp [results, Try.results13, go_sem]; try rfl) rfl ?_
    exact ⟨by rw [hq], HO1.out⟩
  · have d1 : (x == L.i) = false := beq_eq_false_iff_ne.2 hx
    cases hb : hasB L x with
    | false =>
      have hq := HN.out hb
      rw [if_neg hx] at hq
      rw [hb] at hh
      clear HN HX HQ hx hb
      go_wp2_with fail
      refine hh.mono ?_
      rintro _ w2 ⟨rfl, o2⟩
      go_wp2_with fail
      refine bodyPost_ret (v := .tuple #[.int .i64 0, .bool false]) (by simp [results, Try.results13, go_sem]; try rfl) rfl ?_
      exact ⟨by rw [hq], HO1.out.trans o2⟩
    | true =>
      obtain ⟨g, r, hq, ha, hc⟩ := HX.out hb
      rw [if_neg hx] at hq
      rw [hb] at hh
      have HA := Lib.hid ha
      have HC := Lib.hid hc
      clear HN HX HQ hx hb ha hc
      go_wp2_with fail
      refine hh.mono ?_
      rintro _ w2 ⟨rfl, o2⟩
      have ha := HA.out w2 (HO1.out.trans o2)
      have HO2 := Lib.hid (HO1.out.trans o2)
      clear o2 HA
      go_wp2_with fail
      refine ha.mono ?_
      rintro _ w3 ⟨rfl, o3⟩
      have c := (HO2.out.trans o3).cell HC.out
      clear HC
      go_wp2_with fail
      refine bodyPost_ret (v := .tuple #[.int .i64 r, .bool true]) (by simp [results, Try.results13, go_sem]; try rfl) rfl ?_
      exact ⟨by rw [hq], HO2.out.trans o3⟩
end Go.Proofs.Ytebhcadolnjplaa
