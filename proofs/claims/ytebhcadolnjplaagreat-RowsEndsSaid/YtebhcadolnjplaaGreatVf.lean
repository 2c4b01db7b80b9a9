/- A table and the document's own rows side by side; whether both have the same rows. -/
import Derived.Test.YtebhcadolnjplaaGreatVe
import Derived.Deep.RegionHeld3
namespace Go.Proofs.YtebhcadolnjplaaGreat
open Go.RowKit

theorem cell_eq {w w' : World} {a : Addr} (h : w'.heap[a.block]? = w.heap[a.block]?) : w'.cell? a = w.cell? a := World.cell?_of_block h
theorem frozen_eq {w w' : World} {a : Addr} (h : w'.heap[a.block]? = w.heap[a.block]?) : w'.frozen? a = w.frozen? a := by unfold World.frozen?; rw [h]
theorem RowsIn.same {w w' : World} {A : Option Addr} {l : List Rw} (h : RowsIn w A l) (k : ∀ a, A = some a → w'.heap[a.block]? = w.heap[a.block]?) : RowsIn w' A l := fun j hj => by
  obtain ⟨b, off, e, h1, h2⟩ := h j hj
  have hb := k _ e
  exact ⟨b, off, e, by rw [cell_eq (a := ⟨b, off + j * 2, none⟩) hb]; exact h1, by rw [cell_eq (a := ⟨b, off + j * 2 + 1, none⟩) hb]; exact h2⟩
theorem OwnR.same {w w' : World} {B : Nat} {A : Option Addr} {n c : Nat} {l : List Rw} (h : OwnR w B A n c l) (k : ∀ a, A = some a → w'.heap[a.block]? = w.heap[a.block]?) : OwnR w' B A n c l :=
  ⟨h.1, h.2.1, by
    rcases h.2.2 with q | ⟨g, cap, cur, e1, e2, e3, e4⟩
    · exact .inl q
    · simp only [Value.slice.injEq] at e1
      refine .inr ⟨g, cap, cur, by rw [e1.1, e1.2.2], e2, ?_, e4⟩
      rw [k ⟨g, 0, none⟩ e1.1]; exact e3⟩
theorem TabAt.same {p : Nat} {A : Option Addr} {n c : Nat} {l : List Rw} {w w' : World} (h : TabAt p A n c l w) (kp : w'.heap[p]? = w.heap[p]?) (ka : ∀ a, A = some a → w'.heap[a.block]? = w.heap[a.block]?) : TabAt p A n c l w' :=
  ⟨by rw [cell_eq (a := ⟨p, 0, none⟩) kp]; exact h.c0, by rw [cell_eq (a := ⟨p, 1, none⟩) kp]; exact h.c1, fun j => by rw [frozen_eq (a := ⟨p, j, none⟩) kp]; exact h.f j, h.own.same ka, h.ne⟩
theorem RfA.same {m : Nat} {A : Option Addr} {n c : Nat} {l : List Rw} {w w' : World} (h : RfA m A n c l w) (km : w'.heap[m]? = w.heap[m]?) (ka : ∀ a, A = some a → w'.heap[a.block]? = w.heap[a.block]?) : RfA m A n c l w' :=
  ⟨by rw [cell_eq (a := ⟨m, 0, none⟩) km]; exact h.c0, by rw [frozen_eq (a := ⟨m, 0, none⟩) km]; exact h.f, h.len, h.rows.same ka, h.nil, h.cap, h.ne⟩
def rightL (l : List Rw) : Prop := ∀ r, r ∈ l → rowB r = true
theorem rowB_key' {r : Rw} (h : rowB r = true) : keyB r.key = true := by
  unfold rowB at h
  rw [Bool.and_eq_true] at h
  exact h.1
theorem meant_all {l : List Rw} (h : rightL l) : meant allS l = l := by
  unfold meant
  rw [List.filter_eq_self]
  intro r hr
  have h1 := rowB_key' (h r hr)
  have h2 : rightB allS = true := by kernel_rfl
  have h3 : aboveB allS.hi r.key = true := by
    unfold aboveB
    rw [show noB allS.hi = true from by kernel_rfl]; rfl
  have h4 : ltB r.key allS.lo = false := by
    cases h : ltB r.key allS.lo with
    | false => rfl
    | true =>
      have : Op.bytesLess r.key.toList (⟨#[]⟩ : ByteArray).toList = true := h
      have e : (⟨#[]⟩ : ByteArray).toList = [] := by kernel_rfl
      rw [e] at this
      cases hl : r.key.toList with
      | nil => rw [hl] at this; cases this
      | cons a b => rw [hl] at this; cases this
  simp [hasB, h1, h2, h3, h4]
/-- A table and the document's rows, all in blocks of F. -/
structure Sd (F : Nat → Prop) (p m : Nat) (l : List Rw) (w : World) : Prop where
  ex : ∃ Ap cp Am nm cm, TabAt p Ap l.length cp l w ∧ RfA m Am nm cm l w ∧ p ≠ m ∧ (∀ a, Ap = some a → a.block ≠ m ∧ F a.block) ∧ (∀ a, Am = some a → a.block ≠ p ∧ F a.block ∧ ∀ a', Ap = some a' → a.block ≠ a'.block)
  fp : F p
  fm : F m
  lt : ∀ b, F b → b < w.heap.size
  ri : Rises l
  rt : rightL l
  len : l.length ≤ 400
theorem Sd.same {F : Nat → Prop} {p m : Nat} {l : List Rw} {w w' : World} (h : Sd F p m l w) (k : ∀ b, F b → w'.heap[b]? = w.heap[b]?) (hs : w.heap.size ≤ w'.heap.size) : Sd F p m l w' := by
  obtain ⟨Ap, cp, Am, nm, cm, h1, h2, h3, h4, h5⟩ := h.ex
  exact ⟨⟨Ap, cp, Am, nm, cm, h1.same (k p h.fp) (fun a e => k _ (h4 a e).2), h2.same (k m h.fm) (fun a e => k _ (h5 a e).2.1), h3, h4, h5⟩, h.fp, h.fm, fun b hb => Nat.lt_of_lt_of_le (h.lt b hb) hs, h.ri, h.rt, h.len⟩
theorem Sd.ok {F : Nat → Prop} {p m : Nat} {l : List Rw} {w w' : World} (h : Sd F p m l w) (k : Ok w w') : Sd F p m l w' := h.same (fun b hb => k.block b (h.lt b hb)) k.size
theorem Kb {w w' : World} {a : Addr} {v : Value} (h : w.cell? a = some v) (k : Ok w w') : w'.cell? a = some v := k.cell h
set_option maxRecDepth 100000 in
set_option maxHeartbeats 4000000 in
theorem same12_f (F : Nat → Prop) (p m : Nat) (l : List Rw) (W : World) (h : Sd F p m l W) : Calls Tryz.prog 12 #[.pointer (some ⟨p, 0, none⟩), .pointer (some ⟨m, 0, none⟩)] W (Ret W (.bool true)) := by
  obtain ⟨Ap, cp, Am, nm, cm, h1, h2, -, -, -⟩ := h.ex
  have HT := Lib.hid h1
  have HF := Lib.hid h2
  have hlm := h2.len
  have H20 := Lib.hid (fun V (k : Ok W V) => many50 p Ap l.length cp l V (h1.ok k))
  have H16 : Hid (∀ V, Ok W V → Calls Tryz.prog 16 #[.pointer (some ⟨p, 0, none⟩), .agg #[.string ⟨#[]⟩, .string ⟨#[]⟩]] V (ListP l V)) := Lib.hid fun V k => by
    have := inR_f p Ap l.length cp l allS V (h1.ok k) (by have := h.len; omega)
    rw [meant_all h.rt] at this
    exact this
  have H24 := Lib.hid (fun V A n c (k : Ok W V) (hr : RowsIn V A l) (hn : l.length = n) => same_f A Am n c cm l hn (by have := h.len; omega) V hr (h2.rows.ok k))
  have c0 := (h2.ok ((Ok.refl W).drew)).c0
  have hok : Ok W W.drew := (Ok.refl W).drew
  obtain ⟨n, hn⟩ : ∃ n, l.length = n := ⟨_, rfl⟩
  rw [hn] at H20 hlm
  subst hlm
  have HN := Lib.hid hn
  have e1 : ((n : Int) == (n : Int)) = true := by simp
  clear h h1 h2 hn
  go_enter Tryz.func12, Tryz.ntmps12
  go_wp2_with fail
  go_region_held3 (fun w' => w'.cell? ⟨m, 0, none⟩ = some (.slice Am n cm))
    (first | assumption | exact Kb c0 (by assumption) | exact Kb (Kb c0 (by assumption)) (by assumption) | exact Kb (Kb (Kb c0 (by assumption)) (by assumption)) (by assumption))
    ((first
      | (go_at_call 20; (with_reducible refine (H20.out _ ?_).mono ?_); (exact hok); rintro _ w1 ⟨rfl, o1⟩)
      | (go_at_call 16; (with_reducible refine (H16.out _ ?_).mono ?_); (exact Ok.trans hok o1); rintro _ w2 ⟨A2, n2, c2, rfl, ho2, o2⟩; have hr2 := ho2.rows; have hl2 := ho2.1; obtain rfl : n2 = n := hl2.symm.trans HN.out; clear ho2)
      | (go_at_call 24; (with_reducible refine (H24.out _ _ _ _ ?_ ?_ ?_).mono ?_); (exact Ok.trans (Ok.trans hok o1) o2); (exact hr2); (exact hl2); rintro _ w3 ⟨rfl, o3⟩)))
  all_goals go_wp2_with fail
  all_goals go_ret
  all_goals exact ⟨rfl, Ok.trans (Ok.trans (Ok.trans hok o1) o2) o3⟩
end Go.Proofs.YtebhcadolnjplaaGreat
