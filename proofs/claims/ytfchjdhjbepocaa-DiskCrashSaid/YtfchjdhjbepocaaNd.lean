/- Disks: Remove; Clone. -/
import Derived.Test.YtfchjdhjbepocaaNc
import Derived.Lib.BufferMore
namespace Go.Proofs.Ytfchjdhjbepocaa
open Go Go.RowKit

set_option maxRecDepth 100000 in
set_option maxHeartbeats 2000000 in
theorem remove_f (p : Nat) (D : Dk) (pv : Sl) (mb : Nat) (vs : Tb Sl) (A : Option Addr) (n c : Nat) (l : List Str) (W : World) (h : DkAt p D pv mb vs W) (hl : D.ps.length ≤ 1000000) (hn : l.length = n) (hn6 : n ≤ 1000000)
    (ht : TxIn (Blk p pv mb vs) W A l) : Calls Try.prog 31 #[.pointer (some ⟨p, 0, none⟩), .slice A n c] W (RemsP p mb (Blk p pv mb vs) D l W) := by
  have HOA : Hid (Ok W (W.alloc (.cells #[.pointer (some ⟨p, 0, none⟩)] 25))) := Lib.hid ((Ok.refl W).alloc _)
  have HD := Lib.hid (h.ok HOA.out)
  have HL := Lib.hid hl
  have HN := Lib.hid hn
  have HN6 := Lib.hid hn6
  have HT := Lib.hid (ht.kp (Kp.of HOA.out))
  have HZ : Hid (¬ Blk p pv mb vs W.heap.size) := Lib.hid fun q => by
    have := h.lt q; omega
  have hz0 : (W.alloc (.cells #[.pointer (some ⟨p, 0, none⟩)] 25)).cell? ⟨W.heap.size, 0, none⟩ = some (.pointer (some ⟨p, 0, none⟩)) := by
    have h := heap_alloc_new W (.cells #[.pointer (some ⟨p, 0, none⟩)] 25)
    unfold World.cell?; simp only [h]; rfl
  clear h hl hn hn6 ht
  go_enter Try.func31, Try.ntmps31
  go_upto_region 1 with fail
  obtain ⟨z, hz⟩ : ∃ z, W.heap.size = z := ⟨_, rfl⟩
  rw [hz] at hz0 HZ ⊢
  have HZ0 := Lib.hid hz0
  clear hz
  generalize W.alloc (.cells #[.pointer (some ⟨p, 0, none⟩)] 25) = w0 at *
  go_wp2_with fail
  refine (eachR_f p D pv mb vs A n c l z w0 HD.out HL.out HN.out HN6.out HT.out HZ0.out HZ.out).mono ?_
  rintro _ w1 ⟨rfl, pv', vs', h1, h2, h3⟩
  have H1 := Lib.hid h1
  have H2 := Lib.hid h2
  have H3 := Lib.hid h3
  clear h1 h2 h3 hz0
  go_wp2_with fail
  go_ret
  refine ⟨rfl, pv', vs', H1.out, fun g e => ?_, (Kp.of HOA.out).then H3.out (fun _ _ e => e)⟩
  rcases H2.out g e with q | q
  · exact .inl q
  · exact .inr (Nat.le_trans HOA.out.size q)
/-- What Clone gives. -/
def CloP (l : List Pc) (W : World) (e : Ending) (w' : World) : Prop := ∃ s' : Sl, e = .returned (.slice s'.A s'.n s'.c) ∧ OwnPc w' s' l ∧ (∀ g, s'.v.ownBlock = some g → W.heap.size ≤ g) ∧ Ok W w'
def CloB (xs : List B8) (W : World) (e : Ending) (w' : World) : Prop := ∃ s' : Sl, e = .returned (.slice s'.A s'.n s'.c) ∧ OwnN w' s'.v xs ∧ (∀ g, s'.v.ownBlock = some g → W.heap.size ≤ g) ∧ s'.n = xs.length ∧ Ok W w'
theorem own_new (W : World) (e sz : Nat) : (W.alloc (.cells #[] e)).ownsRow 0 e sz (.slice (some ⟨W.heap.size, 0, none⟩) 0 0) 0 [] :=
  ⟨by simp, .inr ⟨W.heap.size, 0, #[], rfl, Nat.zero_le _, heap_alloc_new W _, Nat.le_refl _, by omega, by simp, by simp⟩⟩
theorem new_ok {W w0 w2 : World} (h : Ok W w0) (k : w0.grownBy w2 (Value.slice (some ⟨W.heap.size, 0, none⟩) 0 0).ownBlock) : Ok W w2 :=
  ⟨k.os.trans h.os, k.tape.trans h.tape, k.output.trans h.output, Nat.le_trans h.size k.size, fun j hj => (k.block j (Nat.lt_of_lt_of_le hj h.size) (fun e => by simp [Value.ownBlock] at e; omega)).trans (h.block j hj)⟩
theorem OwnPc.all {w : World} {g n c : Nat} {l : List Pc} (h : OwnPc w ⟨some ⟨g, 0, none⟩, n, c⟩ l) : ∀ j u, (pcs l)[j]? = some u → w.cell? ((⟨g, 0, none⟩ : Addr).add j) = some u := by
  intro j u hu
  rw [Addr.add_mid, Nat.zero_add]
  have hj : j < (pcs l).length := (List.getElem?_eq_some_iff.1 hu).1
  rw [pcs_len] at hj
  obtain rfl : n = l.length := h.cells.1
  have h' : w.ownsRow 0 105 2 (.slice (some ⟨g, 0, none⟩) l.length c) l.length (pcs l) := h
  rw [World.ownsRow.cellAt h' j hj, hu]
set_option maxRecDepth 100000 in
set_option maxHeartbeats 2000000 in
theorem cloneP_f (s : Sl) (l : List Pc) (W : World) (h : OwnPc W s l) (hl : l.length ≤ 1000000) : Calls Try.prog 51 #[s.v] W (CloP l W) := by
  have hq := OwnQ.of h
  unfold Sl.v
  rcases hq.nc with ⟨e1, e2, e3⟩ | ⟨g, e1⟩
  · have e0 : l = [] := List.length_eq_zero_iff.1 (by rw [hq.1, e2])
    rw [e1, e2, e3]
    clear h hq
    subst e0
    have heq := fun w => Lib.run_eql_slice_nil_nil (P := Try.prog) w 0 0 Try.underlying52
    go_enter Try.func51, Try.ntmps51
    go_wp2_with fail
    go_ret
    exact ⟨sl0, rfl, World.ownsRow_nil _ _ _ _, (fun g e => by cases e), Ok.refl _⟩
  · have e2 : s.n = l.length := hq.1.symm
    have HOA : Hid (Ok W (W.alloc (.cells #[] 105))) := Lib.hid ((Ok.refl W).alloc _)
    have HN : Hid (OwnPc (W.alloc (.cells #[] 105)) ⟨some ⟨W.heap.size, 0, none⟩, 0, 0⟩ []) := Lib.hid (own_new W 105 2)
    have HC : Hid (∀ j u, (pcs l)[j]? = some u → (W.alloc (.cells #[] 105)).cell? ((⟨g, 0, none⟩ : Addr).add j) = some u) := Lib.hid (by
      have h2 : OwnPc (W.alloc (.cells #[] 105)) ⟨some ⟨g, 0, none⟩, s.n, s.c⟩ l := by
        have := blk_eq h (fun b e => HOA.out.block b (owns_lt h e))
        rw [← e1]; exact this
      exact h2.all)
    have HL := Lib.hid hl
    rw [e1, e2]
    clear h hq e2 e1 hl
    generalize s.c = cc at *
    have heq := fun w => Lib.run_eql_slice_some_nil (P := Try.prog) w ⟨g, 0, none⟩ l.length cc Try.underlying52
    go_enter Try.func51, Try.ntmps51
    go_wp2_with (at_builtin; go_must (refine wpList_appP rfl (.tmp 5) (.tmp 6) rfl ⟨some ⟨W.heap.size, 0, none⟩, 0, 0⟩ [] rfl HN.out ⟨g, 0, none⟩ l.length cc l rfl rfl HC.out (by have := HL.out; simpa using this) ?_; intro s' w2 h1 h2 h3; have HS := Lib.hid h1; have HG := Lib.hid h2; have HF := Lib.hid h3; clear h1 h2 h3))
    go_ret
    refine ⟨s', rfl, by simpa using HS.out, fun q e => ?_, new_ok HOA.out HG.out⟩
    rcases HF.out q e with r | r
    · have : W.heap.size = q := by simpa [Sl.v, Value.ownBlock] using r
      omega
    · have := HOA.out.size; omega
set_option maxRecDepth 100000 in
set_option maxHeartbeats 2000000 in
theorem cloneB_f (s : Sl) (xs : List B8) (W : World) (h : OwnN W s.v xs) (hl : xs.length ≤ 100000000) : Calls Try.prog 52 #[.slice s.A s.n s.c] W (CloB xs W) := by
  obtain ⟨s', e, hn⟩ := h.form
  simp only [Sl.v, Value.slice.injEq] at e
  have e2 : s.n = xs.length := by rw [e.2.1, hn]
  have HB := Lib.hid (h.bytes (by omega))
  clear e hn
  rcases h.2 with ⟨e, h0⟩ | ⟨g, cap, cur, e, _⟩
  · simp only [Sl.v, Value.slice.injEq] at e
    rw [e.1, e.2.1, e.2.2]
    have e0 : xs = [] := List.length_eq_zero_iff.1 h0
    clear h HB h0 e e2
    subst e0
    have heq := fun w => Lib.run_eql_slice_nil_nil (P := Try.prog) w 0 0 Try.underlying48
    go_enter Try.func52, Try.ntmps52
    go_wp2_with fail
    go_ret
    exact ⟨sl0, rfl, World.ownsRow_nil _ _ _ _, (fun g e => by cases e), rfl, Ok.refl _⟩
  · simp only [Sl.v, Value.slice.injEq] at e
    obtain ⟨e1, -, -⟩ := e
    have HOA : Hid (Ok W (W.alloc (.cells #[] 5))) := Lib.hid ((Ok.refl W).alloc _)
    have HN : Hid (OwnN (W.alloc (.cells #[] 5)) (Sl.mk (some ⟨W.heap.size, 0, none⟩) 0 0).v []) := Lib.hid (own_new W 5 1)
    have HX : Hid (BytesIn (W.alloc (.cells #[] 5)) (.slice s.A s.n s.c) xs) := Lib.hid (HB.out.kept fun _ g _ hl => HOA.out.block g hl)
    have HL := Lib.hid hl
    rw [e1, e2] at HX ⊢
    clear h HB e1 hl
    generalize s.c = cc at *
    have heq := fun w => Lib.run_eql_slice_some_nil (P := Try.prog) w ⟨g, 0, none⟩ xs.length cc Try.underlying48
    go_enter Try.func52, Try.ntmps52
    go_wp2_with (at_builtin; go_must (refine wpList_appBo Try.underlying48 rfl (.tmp 5) (.tmp 6) rfl ⟨some ⟨W.heap.size, 0, none⟩, 0, 0⟩ [] rfl HN.out _ xs rfl HX.out (by have := HL.out; simp; omega) ?_; intro s' w2 h1 h2 h3 h4; have HS := Lib.hid h1; have HG := Lib.hid h2; have HF := Lib.hid h3; have HSN := Lib.hid h4; clear h1 h2 h3 h4))
    go_ret
    refine ⟨s', rfl, by simpa using HS.out, fun q e => ?_, by simpa using HSN.out, new_ok HOA.out HG.out⟩
    rcases HF.out q e with r | r
    · have : W.heap.size = q := by simpa [Sl.v, Value.ownBlock] using r
      omega
    · have := HOA.out.size; omega
end Go.Proofs.Ytfchjdhjbepocaa
