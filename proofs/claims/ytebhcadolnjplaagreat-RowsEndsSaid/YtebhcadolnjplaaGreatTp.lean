/- Two readers of the same bytes; what lent rows are without the marks. -/
import Derived.Test.YtebhcadolnjplaaGreatTo
import Derived.Test.YtebhcadolnjplaaGreatTe
import Derived.Deep.CutRange
import Derived.Deep.RegionHeld3
namespace Go.Proofs.YtebhcadolnjplaaGreat
open Go.RowKit

theorem newWriter_n (W : World) : Calls Tryz.prog 37 #[] W fun e w' => e = .returned (.pointer (some ⟨W.heap.size, 0, none⟩)) ∧ Wn false W.heap.size w' [] ∧ Ok W w' :=
  (newWriter_s W).mono fun _ _ ⟨he, h1, h2, _⟩ => ⟨he, ⟨none, 0, h1 _ fun _ hf => hf.elim⟩, h2⟩
theorem done_ok (g : Nat) (W : World) (zs : List B8) (h : Wn false g W zs) (hz : zs.length ≤ 140737488350000) : Calls Tryz.prog 38 #[.pointer (some ⟨g, 0, none⟩)] W (DonePost W zs) := by
  obtain ⟨A, c, h⟩ := h
  exact done_w g _ zs W h.wr hz
theorem enc_all_len (l : List Rw) (hs : Small l) (h : l.length ≤ 1300) (n : Nat) : (encsI [(n : Int)] ++ encR l).length ≤ 140737488350000 := by
  have h1 := encsI_len [(n : Int)]
  have h2 := encR_len l hs l.length (Nat.le_refl _)
  rw [List.take_length] at h2
  rw [List.length_append]
  simp only [List.length_cons, List.length_nil] at h1
  omega
theorem linesG_small (l : List Rw) : ∀ (f : Nat) (v : Int) (k : Nat), (k : Int) ≤ v → l.length ≤ k + f → linesG l f v k ≤ 1200 → ∀ j, k ≤ j → j < l.length → (((rwA l j).key.size / 8 : Nat) : Int) + (((rwA l j).val.size / 8 : Nat) : Int) ≤ linesG l f v k
  | 0, v, k, hk, hf, _, j, hj, hl => by omega
  | f + 1, v, k, hk, hf, h, j, hj, hl => by
    have hc : k < l.length ∧ v ≤ 1200 := by
      refine ⟨by omega, ?_⟩
      have := (linesG_lo l (f + 1) v k hk hf).1
      omega
    simp only [linesG, if_pos hc] at h ⊢
    have h2 := (linesG_lo l f (v + 1 + (((rwA l k).key.size / 8 : Nat) : Int) + (((rwA l k).val.size / 8 : Nat) : Int)) (k + 1) (by push_cast; omega) (by omega)).1
    by_cases hjk : j = k
    · subst hjk
      omega
    · exact linesG_small l f _ (k + 1) (by push_cast; omega) (by omega) h j (by omega) hl
theorem small_of_lines (l : List Rw) (h : linesM l ≤ 1200) : Small l := fun j hj => by
  have := linesG_small l l.length 0 0 (by decide) (by omega) h j (Nat.zero_le _) hj
  unfold linesM at h
  omega
theorem OwnR.short {w : World} {B g n m c : Nat} {l k : List Rw} (h : OwnR w B (some ⟨g, 0, none⟩) (n + m) c (l ++ k)) (hl : l.length = n) : OwnR w B (some ⟨g, 0, none⟩) n c l := by

  refine ⟨hl, by rw [flat2_len, hl], .inr ?_⟩
  rcases h.2.2 with ⟨e, _⟩ | ⟨g', cap, cur, e, r1, r2, r3, r4, r5, r6⟩
  · cases e
  · simp only [Value.slice.injEq, Option.some.injEq, Addr.mk.injEq, and_true] at e
    obtain ⟨rfl, -, rfl⟩ := e
    refine ⟨g, c, cur, rfl, r1, r2, by omega, r4, r5, ?_⟩
    have : cur.toList.take (n * 2) = (cur.toList.take ((n + m) * 2)).take (n * 2) := by rw [List.take_take, Nat.min_eq_left (by omega)]
    rw [this, r6, flat2_append, List.take_append_of_le_length (by rw [flat2_len, hl]; exact Nat.le_refl _), List.take_of_length_le (by rw [flat2_len, hl]; exact Nat.le_refl _)]
theorem rdRows_len : ∀ (n : Nat) (l : List Rw) (a : Str) (xs : List B8) (f : Bool) (l' : List Rw) (ys : List B8) (f' : Bool), rdRows n l a xs f = some (l', ys, f') → l'.length = l.length + n
  | 0, l, a, xs, f, l', ys, f', h => by
    simp only [rdRows, Option.some.injEq, Prod.mk.injEq] at h
    rw [h.1]; rfl
  | n + 1, l, a, xs, f, l', ys, f', h => by
    rw [rdRows] at h
    split at h
    · have := rdRows_len n _ _ _ _ _ _ _ h
      rw [List.length_append, List.length_singleton] at this
      omega
    · cases h
theorem readM_len (xs : List B8) (l : List Rw) (ys : List B8) (h : readM xs = some (l, ys)) : l.length ≤ 400 := by
  unfold readM at h
  cases hq : rdRows (numM 400 xs false).1 [] ⟨#[]⟩ (numM 400 xs false).2.1 (numM 400 xs false).2.2 with
  | none => rw [hq] at h; cases h
  | some x =>
    obtain ⟨l', ys', f'⟩ := x
    rw [hq] at h
    cases f' with
    | true => cases h
    | false =>
      simp only [endM, Option.some.injEq, Prod.mk.injEq] at h
      have h1 := rdRows_len _ _ _ _ _ _ _ _ hq
      have h2 := numM_le 400 xs false
      rw [← h.1, h1]
      simpa using h2
def Pair (wr : World) (zk : List B8) (vg vq : Value) (wx : World) : Prop := ∃ W0 g q, vg = .pointer (some ⟨g, 0, none⟩) ∧ vq = .pointer (some ⟨q, 0, none⟩) ∧ Rd W0 g wx zk false ∧ Rf wr q wx zk false ∧ g ≠ q ∧ wr.heap.size ≤ g ∧ wr.heap.size ≤ W0.heap.size
theorem Pair.ok {wr wx : World} {zk : List B8} {vg vq : Value} (h : Pair wr zk vg vq wx) : Ok wr wx := by
  obtain ⟨_, _, _, _, _, _, h, _⟩ := h
  exact h.2.1
theorem rf_of {wr wx : World} {zk : List B8} {v : Value} {q : Nat} (hq : wr.heap.size ≤ q) (hk : Ok wr wx) (hz : BytesIn wr v zk) (hh : wx.heap[q]? = some (.cells #[v, .bool false] 102 (0, 0))) : Rf wr q wx zk false :=
  ⟨hq, hk, ⟨v, hz, by rw [cell_of_heap hh]; rfl⟩, by rw [cell_of_heap hh]; rfl, frz_raw hh 0, frz_raw hh 1⟩
theorem Rd.below {W0 : World} {g p : Nat} {w w' : World} {xs : List B8} {f : Bool} (h : Rd W0 g w xs f) (k : Below p w w') (hp : g < p) : Rd W0 g w' xs f := by
  obtain ⟨h1, h2, ⟨v, hv, h0⟩, h3, h6, h4, h5⟩ := h
  refine ⟨h1, Below.trans h2 (Below.mono k (by omega)), ⟨v, hv, (k.cell (p := ⟨g, 0, none⟩) hp).trans h0⟩, (k.cell (p := ⟨g, 1, none⟩) hp).trans h3, (k.cell (p := ⟨g, 2, none⟩) hp).trans h6, (Below.frozen k (p := ⟨g, 0, none⟩) hp).trans h4, (Below.frozen k (p := ⟨g, 1, none⟩) hp).trans h5⟩
theorem pair1 {wr W0 w8 : World} {g : Nat} {zk : List B8} {v : Value} (h : Rd W0 g w8 zk false) (k0 : Ok wr.drew W0) (hz : BytesIn wr v zk) : Pair wr zk (.pointer (some ⟨g, 0, none⟩)) (.pointer (some ⟨w8.heap.size, 0, none⟩)) (w8.alloc (.cells #[v, .bool false] 102)) := by
  have k1 : Ok wr W0 := Ok.trans (Ok.drew (Ok.refl wr)) k0
  have k2 : Ok wr w8 := Ok.trans k1 h.2.1
  have hg := h.lt
  exact ⟨W0, g, _, rfl, rfl, h.below ((Below.refl w8.heap.size w8).alloc (Nat.le_refl _) _) hg, rf_of k2.size (k2.alloc _) hz (blk_new rfl), by omega, by have := k1.size; have := h.1; omega, k1.size⟩
theorem pair2 {wr W0 w8 : World} {g : Nat} {zk : List B8} {v : Value} (h : Rd W0 g w8 zk false) (k0 : Ok (wr.alloc (.cells #[v, .bool false] 102)).drew W0) (hz : BytesIn wr v zk) : Pair wr zk (.pointer (some ⟨g, 0, none⟩)) (.pointer (some ⟨wr.heap.size, 0, none⟩)) w8 := by
  have k1 : Ok (wr.alloc (.cells #[v, .bool false] 102)) W0 := Ok.trans (Ok.drew (Ok.refl _)) k0
  have k2 : Ok (wr.alloc (.cells #[v, .bool false] 102)) w8 := Ok.trans k1 h.2.1
  have k3 : Ok wr w8 := Ok.trans ((Ok.refl wr).alloc _) k2
  have hz1 : (wr.alloc (.cells #[v, .bool false] 102)).heap.size = wr.heap.size + 1 := by simp
  have hs := k1.size
  have hg := h.1
  exact ⟨W0, g, _, rfl, rfl, h, rf_of (Nat.le_refl _) k3 hz (blk_ok k2 (blk_new rfl)), by omega, by omega, by omega⟩
theorem Alo.cell {g : Nat} {w w' : World} (h : Alo g w w') {b o : Nat} {v : Value} (hb : b ≠ g) (hc : w.cell? ⟨b, o, none⟩ = some v) : w'.cell? ⟨b, o, none⟩ = some v := by
  rw [World.cell?_of_block (a := ⟨b, o, none⟩) (h.block b hb (World.block_lt_of_cell? _ _ hc))]; exact hc
theorem Alo.frozen {g : Nat} {w w' : World} (h : Alo g w w') {b o : Nat} (hb : b ≠ g) (hl : b < w.heap.size) (hc : w.frozen? ⟨b, o, none⟩ = false) : w'.frozen? ⟨b, o, none⟩ = false := by
  rw [World.frozen?_of_block (w := w) (h.block b hb hl)]; exact hc
theorem Rf.alo {W0 : World} {g q : Nat} {w w' : World} {xs : List B8} {f : Bool} (h : Rf W0 q w xs f) (k : Alo g w w') (hgq : g ≠ q) (hg : W0.heap.size ≤ g) : Rf W0 q w' xs f := by
  have hl := h.lt
  obtain ⟨h1, h2, ⟨v, hv, h0⟩, h3, h4, h5⟩ := h
  exact ⟨h1, Below.trans h2 (k.below hg h2.size), ⟨v, hv, k.cell (Ne.symm hgq) h0⟩, k.cell (Ne.symm hgq) h3, k.frozen (Ne.symm hgq) hl h4, k.frozen (Ne.symm hgq) hl h5⟩
theorem Rd.alo {W0 : World} {g q : Nat} {w w' : World} {xs : List B8} {f : Bool} (h : Rd W0 g w xs f) (k : Alo q w w') (hgq : g ≠ q) (hq : W0.heap.size ≤ q) : Rd W0 g w' xs f := by
  have hl := h.lt
  obtain ⟨h1, h2, ⟨v, hv, h0⟩, h3, h6, h4, h5⟩ := h
  exact ⟨h1, Below.trans h2 (k.below hq h2.size), ⟨v, hv, k.cell hgq h0⟩, k.cell hgq h3, k.cell hgq h6, k.frozen hgq hl h4, k.frozen hgq hl h5⟩
set_option maxHeartbeats 400000 in
theorem left_n (g n c : Nat) (A : Option Addr) (f : Bool) (w : World) (h0 : w.cell? ⟨g, 0, none⟩ = some (.slice A n c)) (h1 : w.cell? ⟨g, 1, none⟩ = some (.bool f)) (h2 : w.cell? ⟨g, 2, none⟩ = some (.bool true)) (hf : f = true → n = 0) :
    Calls Tryz.prog 43 #[.pointer (some ⟨g, 0, none⟩)] w fun e w' => e = .returned (.int .i64 (n : Int)) ∧ w = w' := by
  have HD : Hid (Calls Tryz.prog 89 #[.pointer (some ⟨g, 0, none⟩)] w fun e w' => e = .returned (.bool f) ∧ w = w') := Lib.hid (by
    clear h0 hf
    go_enter Tryz.func89, Tryz.ntmps89
    go_wp2
    go_ret
    exact ⟨rfl, rfl⟩)
  cases f with
  | true =>
    obtain rfl := hf rfl
    clear h0 h1 h2 hf
    go_enter Tryz.func43, Tryz.ntmps43
    go_wp2_with fail
    refine HD.out.mono ?_
    rintro e w' ⟨rfl, rfl⟩
    go_wp2_with fail
    go_ret
    exact ⟨rfl, rfl⟩
  | false =>
    clear h1 h2 hf
    go_enter Tryz.func43, Tryz.ntmps43
    go_wp2_with fail
    refine HD.out.mono ?_
    rintro e w' ⟨rfl, rfl⟩
    go_wp2_with fail
    go_ret
    exact ⟨rfl, rfl⟩
theorem left_raw (g n c : Nat) (A : Option Addr) (w : World) (h0 : w.cell? ⟨g, 0, none⟩ = some (.slice A n c)) (h1 : w.cell? ⟨g, 1, none⟩ = some (.bool false)) (h2 : w.cell? ⟨g, 2, none⟩ = some (.bool true)) : Calls Tryz.prog 43 #[.pointer (some ⟨g, 0, none⟩)] w (Ret w (.int .i64 (n : Int))) :=
  (left_n g n c A false w h0 h1 h2 (fun e => by cases e)).mono fun _ _ ⟨he, hw⟩ => ⟨he, by rw [← hw]; exact Ok.refl _⟩
end Go.Proofs.YtebhcadolnjplaaGreat
