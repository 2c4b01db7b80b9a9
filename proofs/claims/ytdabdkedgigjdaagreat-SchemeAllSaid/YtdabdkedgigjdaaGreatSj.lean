/- The contract of Turn, walked. -/
import Derived.Test.YtdabdkedgigjdaaGreatSi
namespace Go.Proofs.YtdabdkedgigjdaaGreat
open Go.RowKit

def OkS (w w' : World) : Prop := Ok w w'
theorem S3 {w w' : World} {p : Nat} {u v : Value} (h0 : w.cell? ⟨p, 0, none⟩ = some u) (h1 : w.cell? ⟨p, 1, none⟩ = some v) (k : Ok w w') : w'.cell? ⟨p, 0, none⟩ = some u ∧ w'.cell? ⟨p, 1, none⟩ = some v ∧ OkS w w' :=
  ⟨Ok.cell k h0, Ok.cell k h1, k⟩


theorem OwnSh.set {w : World} {B : Nat} {A : Option Addr} {n c : Nat} {xs : List Sh} (h : OwnSh w B A n c xs) {p : Addr} (hp : p.block < B) (v : Value) : OwnSh (w.setCell p v) B A n c xs := by
  refine ⟨⟨h.1.1, ?_⟩, h.2⟩
  rcases h.1.2 with e | ⟨g, cap, cur, e, hB, hg, r⟩
  · exact .inl e
  · refine .inr ⟨g, cap, cur, e, hB, ?_, r⟩
    rw [Below.heap_setCell _ _ _ _ (by omega)]
    exact hg

set_option maxRecDepth 100000 in
set_option maxHeartbeats 40000000 in
theorem turn_w (ep : Int) (A : Option Addr) (n c : Nat) (xs : List Sh) (i : Sp) (g : Int) (hn : xs.length = n) (hn6 : n ≤ 1000) (hnc : n ≤ c) (w : World) (hI : SharesAt w A xs) :
    Calls Tryz.prog 11 #[.agg #[.int .i64 ep, .slice A n c], spV i, .int .i64 g] w (TurnPost w ep (turnM ep xs i g)) := by
  have hsr := sharesRight_w ep A n c xs hn hn6
  have hri := right_w i
  have hgr := group_w g
  have hfi := find_w 52 (w.heap.size + 1) (fun x => withinB i x.sp) ep A n c xs hn hn6
  have hcs := cutSh_w
  have HI := Lib.hid hI
  have HN := Lib.hid hn
  have hways := turn_ways ep xs i g
  have hrp : sharesB ep xs = true → ∀ j, j < n → rightB (at2 xs j).sp = true := fun h j hj => by
    simp only [sharesB, Bool.and_eq_true] at h
    have hp := (partsM_iff _).1 h.1.2
    have h2 := (hp.2.2.2 j (by rw [List.length_map, hn]; exact hj)).1
    rw [at1_map xs j (by rw [hn]; exact hj)] at h2
    exact h2
  have hep : sharesB ep xs = true → 1 ≤ ep ∧ ep ≤ 1073741824 := fun h => by
    simp only [sharesB, Bool.and_eq_true, decide_eq_true_eq] at h
    exact ⟨h.1.1.1.2, h.1.1.2⟩
  obtain ⟨R, hR⟩ : ∃ R, turnM ep xs i g = R := ⟨_, rfl⟩
  rw [hR] at hways ⊢
  clear hR hI hn
  have HFI := Lib.hid hfi
  have HSR := Lib.hid hsr
  have HCS := Lib.hid hcs
  have HTC := Lib.hid (fun p x w' => turn_c i p x w')
  obtain ⟨il, ih⟩ := i
  unfold spV at *
  clear hfi hsr hcs
  simp only at HTC
  go_enter Tryz.func11, Tryz.ntmps11
  go_wp2_with fail
  generalize hW : (((w.alloc (.cells #[.int .i64 ep, .slice A n c] 24)).alloc (.cells #[.string il, .string ih] 26)).alloc (.cells #[.int .i64 0, .slice none 0 0] 24)).alloc (.cells #[.int .i64 ep, .slice A n c] 85) = W
  have oW : Ok w W := by subst hW; exact Ok.alloc (Ok.alloc (Ok.alloc (Ok.alloc (Ok.refl w) _) _) _) _
  have B0 : W.cell? ⟨w.heap.size, 0, none⟩ = some (.int .i64 ep) := by subst hW; go_cell
  have B1 : W.cell? ⟨w.heap.size, 1, none⟩ = some (.slice A n c) := by subst hW; go_cell
  have I0 : W.cell? ⟨w.heap.size + 1, 0, none⟩ = some (.string il) := by subst hW; go_cell
  have I1 : W.cell? ⟨w.heap.size + 1, 1, none⟩ = some (.string ih) := by subst hW; go_cell
  have R0 : W.cell? ⟨w.heap.size + 1 + 1, 0, none⟩ = some (.int .i64 0) := by subst hW; go_cell
  have R1 : W.cell? ⟨w.heap.size + 1 + 1, 1, none⟩ = some (.slice none 0 0) := by subst hW; go_cell
  have F0 : W.frozen? ⟨w.heap.size + 1 + 1, 0, none⟩ = false := by subst hW; go_cell
  have F1 : W.frozen? ⟨w.heap.size + 1 + 1, 1, none⟩ = false := by subst hW; go_cell
  have D0 : W.cell? ⟨w.heap.size + 1 + 1 + 1, 0, none⟩ = some (.int .i64 ep) := by subst hW; go_cell
  have D1 : W.cell? ⟨w.heap.size + 1 + 1 + 1, 1, none⟩ = some (.slice A n c) := by subst hW; go_cell
  clear hW
  refine (HSR.out _ (HI.out.ok oW)).mono ?_
  rintro _ w1 ⟨rfl, o1⟩
  have FF0 := (Below.frozen o1 (World.block_lt_of_cell? _ _ R0)).trans F0
  have FF1 := (Below.frozen o1 (World.block_lt_of_cell? _ _ R1)).trans F1
  have R0 := Ok.cell o1 R0
  have R1 := Ok.cell o1 R1
  have F0 := FF0
  have F1 := FF1
  clear FF0 FF1
  have I0 := Ok.cell o1 I0
  have I1 := Ok.cell o1 I1
  have D0 := Ok.cell o1 D0
  have D1 := Ok.cell o1 D1
  have ok1 : Ok w w1 := Ok.call oW o1
  clear o1 oW
  rcases hways with ⟨h1, rfl⟩ | ⟨h1, h2, rfl⟩ | ⟨h1, h2, h3, rfl⟩ | ⟨h1, h2, h3, h4, rfl⟩ | ⟨k, hk, hwk, h1, h2, h3, h4, hrest⟩
  · rw [h1]
    go_wp2
    have st := store2 w1 (w.heap.size + 1 + 1) _ _ (.int .i64 0) (.slice none 0 0) R0 R1
    (try simp only [Exit.inBlock, Exit.then])
    refine bodyPost_ret (by simp [results, Tryz.results11, go_sem, st.1, st.2]; try rfl) rfl ?_
    exact TurnPost.err (by decide) rfl (Ok.set (Ok.set ok1 (by simp; omega) _) (by simp; omega) _)
  · rw [h1]
    rw [h2] at hri
    go_wp2_with fail
    refine (hri _).mono ?_
    rintro _ w2 ⟨rfl, ow2⟩
    have FF0 := (Below.frozen ow2 (World.block_lt_of_cell? _ _ R0)).trans F0
    have FF1 := (Below.frozen ow2 (World.block_lt_of_cell? _ _ R1)).trans F1
    have R0 := Ok.cell ow2 R0
    have R1 := Ok.cell ow2 R1
    have F0 := FF0
    have F1 := FF1
    clear FF0 FF1
    have I0 := Ok.cell ow2 I0
    have I1 := Ok.cell ow2 I1
    have D0 := Ok.cell ow2 D0
    have D1 := Ok.cell ow2 D1
    have ok2 : Ok w w2 := Ok.call ok1 ow2
    clear ow2 ok1
    go_wp2
    have st := store2 w2 (w.heap.size + 1 + 1) _ _ (.int .i64 0) (.slice none 0 0) R0 R1
    (try simp only [Exit.inBlock, Exit.then])
    refine bodyPost_ret (by simp [results, Tryz.results11, go_sem, st.1, st.2]; try rfl) rfl ?_
    exact TurnPost.err (by decide) rfl (Ok.set (Ok.set ok2 (by simp; omega) _) (by simp; omega) _)
  · rw [h1]
    rw [h2] at hri
    rw [h3] at hgr
    go_wp2_with fail
    refine (hri _).mono ?_
    rintro _ w2 ⟨rfl, ow2⟩
    have FF0 := (Below.frozen ow2 (World.block_lt_of_cell? _ _ R0)).trans F0
    have FF1 := (Below.frozen ow2 (World.block_lt_of_cell? _ _ R1)).trans F1
    have R0 := Ok.cell ow2 R0
    have R1 := Ok.cell ow2 R1
    have F0 := FF0
    have F1 := FF1
    clear FF0 FF1
    have I0 := Ok.cell ow2 I0
    have I1 := Ok.cell ow2 I1
    have D0 := Ok.cell ow2 D0
    have D1 := Ok.cell ow2 D1
    have ok2 : Ok w w2 := Ok.call ok1 ow2
    clear ow2 ok1
    go_wp2_with fail
    refine (hgr _).mono ?_
    rintro _ w3 ⟨rfl, ow3⟩
    have FF0 := (Below.frozen ow3 (World.block_lt_of_cell? _ _ R0)).trans F0
    have FF1 := (Below.frozen ow3 (World.block_lt_of_cell? _ _ R1)).trans F1
    have R0 := Ok.cell ow3 R0
    have R1 := Ok.cell ow3 R1
    have F0 := FF0
    have F1 := FF1
    clear FF0 FF1
    have I0 := Ok.cell ow3 I0
    have I1 := Ok.cell ow3 I1
    have D0 := Ok.cell ow3 D0
    have D1 := Ok.cell ow3 D1
    have ok3 : Ok w w3 := Ok.call ok2 ow3
    clear ow3 ok2
    go_wp2
    have st := store2 w3 (w.heap.size + 1 + 1) _ _ (.int .i64 0) (.slice none 0 0) R0 R1
    (try simp only [Exit.inBlock, Exit.then])
    refine bodyPost_ret (by simp [results, Tryz.results11, go_sem, st.1, st.2]; try rfl) rfl ?_
    exact TurnPost.err (by decide) rfl (Ok.set (Ok.set ok3 (by simp; omega) _) (by simp; omega) _)
  · rw [h1]
    rw [h2] at hri
    rw [h3] at hgr
    rw [h4] at HFI
    go_wp2_with fail
    refine (hri _).mono ?_
    rintro _ w2 ⟨rfl, ow2⟩
    have FF0 := (Below.frozen ow2 (World.block_lt_of_cell? _ _ R0)).trans F0
    have FF1 := (Below.frozen ow2 (World.block_lt_of_cell? _ _ R1)).trans F1
    have R0 := Ok.cell ow2 R0
    have R1 := Ok.cell ow2 R1
    have F0 := FF0
    have F1 := FF1
    clear FF0 FF1
    have I0 := Ok.cell ow2 I0
    have I1 := Ok.cell ow2 I1
    have D0 := Ok.cell ow2 D0
    have D1 := Ok.cell ow2 D1
    have ok2 : Ok w w2 := Ok.call ok1 ow2
    clear ow2 ok1
    go_wp2_with fail
    refine (hgr _).mono ?_
    rintro _ w3 ⟨rfl, ow3⟩
    have FF0 := (Below.frozen ow3 (World.block_lt_of_cell? _ _ R0)).trans F0
    have FF1 := (Below.frozen ow3 (World.block_lt_of_cell? _ _ R1)).trans F1
    have R0 := Ok.cell ow3 R0
    have R1 := Ok.cell ow3 R1
    have F0 := FF0
    have F1 := FF1
    clear FF0 FF1
    have I0 := Ok.cell ow3 I0
    have I1 := Ok.cell ow3 I1
    have D0 := Ok.cell ow3 D0
    have D1 := Ok.cell ow3 D1
    have ok3 : Ok w w3 := Ok.call ok2 ow3
    clear ow3 ok2
    go_wp2_with fail
    refine (HFI.out _ (HI.out.ok ok3) call54 (fun x w' k' => HTC.out _ x w' (Ok.cell k' I0) (Ok.cell k' I1))).mono ?_
    rintro _ w4 ⟨rfl, ow4⟩
    have FF0 := (Below.frozen ow4 (World.block_lt_of_cell? _ _ R0)).trans F0
    have FF1 := (Below.frozen ow4 (World.block_lt_of_cell? _ _ R1)).trans F1
    have R0 := Ok.cell ow4 R0
    have R1 := Ok.cell ow4 R1
    have F0 := FF0
    have F1 := FF1
    clear FF0 FF1
    have I0 := Ok.cell ow4 I0
    have I1 := Ok.cell ow4 I1
    have D0 := Ok.cell ow4 D0
    have D1 := Ok.cell ow4 D1
    have ok4 : Ok w w4 := Ok.call ok3 ow4
    clear ow4 ok3
    go_wp2
    have st := store2 w4 (w.heap.size + 1 + 1) _ _ (.int .i64 0) (.slice none 0 0) R0 R1
    (try simp only [Exit.inBlock, Exit.then])
    refine bodyPost_ret (by simp [results, Tryz.results11, go_sem, st.1, st.2]; try rfl) rfl ?_
    exact TurnPost.err (by decide) rfl (Ok.set (Ok.set ok4 (by simp; omega) _) (by simp; omega) _)
  · rw [h1]
    rw [h2] at hri
    rw [h3] at hgr
    rw [h4] at HFI
    have HRK := Lib.hid (hrp h1 k (by rw [← HN.out]; exact hk))
    obtain ⟨hep1, hep2⟩ := hep h1
    have hkn : k < n := by rw [← HN.out]; exact hk
    clear hrp hep h1 h2 h3 h4 hk
    go_wp2_with fail
    refine (hri _).mono ?_
    rintro _ w2 ⟨rfl, ow2⟩
    have FF0 := (Below.frozen ow2 (World.block_lt_of_cell? _ _ R0)).trans F0
    have FF1 := (Below.frozen ow2 (World.block_lt_of_cell? _ _ R1)).trans F1
    have R0 := Ok.cell ow2 R0
    have R1 := Ok.cell ow2 R1
    have F0 := FF0
    have F1 := FF1
    clear FF0 FF1
    have I0 := Ok.cell ow2 I0
    have I1 := Ok.cell ow2 I1
    have D0 := Ok.cell ow2 D0
    have D1 := Ok.cell ow2 D1
    have ok2 : Ok w w2 := Ok.call ok1 ow2
    clear ow2 ok1
    go_wp2_with fail
    refine (hgr _).mono ?_
    rintro _ w3 ⟨rfl, ow3⟩
    have FF0 := (Below.frozen ow3 (World.block_lt_of_cell? _ _ R0)).trans F0
    have FF1 := (Below.frozen ow3 (World.block_lt_of_cell? _ _ R1)).trans F1
    have R0 := Ok.cell ow3 R0
    have R1 := Ok.cell ow3 R1
    have F0 := FF0
    have F1 := FF1
    clear FF0 FF1
    have I0 := Ok.cell ow3 I0
    have I1 := Ok.cell ow3 I1
    have D0 := Ok.cell ow3 D0
    have D1 := Ok.cell ow3 D1
    have ok3 : Ok w w3 := Ok.call ok2 ow3
    clear ow3 ok2
    go_wp2_with fail
    refine (HFI.out _ (HI.out.ok ok3) call54 (fun x w' k' => HTC.out _ x w' (Ok.cell k' I0) (Ok.cell k' I1))).mono ?_
    rintro _ w4 ⟨rfl, ow4⟩
    have FF0 := (Below.frozen ow4 (World.block_lt_of_cell? _ _ R0)).trans F0
    have FF1 := (Below.frozen ow4 (World.block_lt_of_cell? _ _ R1)).trans F1
    have R0 := Ok.cell ow4 R0
    have R1 := Ok.cell ow4 R1
    have F0 := FF0
    have F1 := FF1
    clear FF0 FF1
    have I0 := Ok.cell ow4 I0
    have I1 := Ok.cell ow4 I1
    have D0 := Ok.cell ow4 D0
    have D1 := Ok.cell ow4 D1
    have ok4 : Ok w w4 := Ok.call ok3 ow4
    clear ow4 ok3
    obtain ⟨b, off, rfl, C0, C1, C2, C3⟩ := HI.out.ok ok4 k (by rw [HN.out]; exact hkn)
    obtain ⟨x, hx⟩ : ∃ x, at2 xs k = x := ⟨_, rfl⟩
    rw [hx] at C0 C1 C2 C3 HRK hrest hwk
    have hcl := cutShM_le x ⟨il, ih⟩ g (ep + 1)
    have hcn := cutShM_ne x ⟨il, ih⟩ g (ep + 1) HRK.out
    have HCX := Lib.hid (HCS.out x ⟨il, ih⟩ g (ep + 1))
    generalize cutShM x ⟨il, ih⟩ g (ep + 1) = cs at hcl hcn HCX hrest
    have HCL := Lib.hid hcl
    have HCNE := Lib.hid hcn
    clear hx hwk HRK HCS HSR HFI HTC hri hgr hcl hcn
    obtain ⟨⟨xl, xh⟩, xg, xe⟩ := x
    unfold shV at HCX
    simp only at C0 C1 C2 C3 hrest HCX
    have hi0 : (0 : Int) ≤ (k : Int) := Int.natCast_nonneg _
    have hi1 : (k : Int) < (n : Int) := by omega
    rcases hrest with ⟨h5, rfl⟩ | hrest
    · have d5 : decide (xg = g) = true := decide_eq_true h5
      have d6 : (xg == g) = true := beq_iff_eq.2 h5
      go_wp2
      have st := store2 w4 (w.heap.size + 1 + 1) _ _ (.int .i64 0) (.slice none 0 0) R0 R1
      (try simp only [Exit.inBlock, Exit.then])
      refine bodyPost_ret (by simp [results, Tryz.results11, go_sem, st.1, st.2]; try rfl) rfl ?_
      exact TurnPost.err (by decide) rfl (Ok.set (Ok.set ok4 (by simp; omega) _) (by simp; omega) _)
    · have h5 : xg ≠ g := by rcases hrest with h | h <;> exact h.1
      have d5 : decide (xg = g) = false := decide_eq_false h5
      have d6 : (xg == g) = false := beq_eq_false_iff_ne.2 h5
      have HREST := Lib.hid hrest
      clear hrest h5
      have s1 : (k : Int) ≤ 1000 := by omega
      have s6 : IntKind.i64.wrap ((k : Int) + 1) = (k : Int) + 1 := by simp only [IntKind.wrap_i64]; omega
      have s7 : (0 : Int) ≤ (k : Int) + 1 := by omega
      have s8 : ((k : Int) + 1).toNat = k + 1 := by omega
      have s3 : (k : Int) + 1 ≤ (n : Int) := by omega
      have s4 : (n : Int) ≤ (c : Int) := by omega
      have s5 : (k : Int) ≤ (c : Int) := by omega
      have hc0 : ¬ c = 0 := by omega
      obtain ⟨ad, had⟩ : ∃ ad, (if c = k + 1 then some (⟨b, off, none⟩ : Addr) else some ⟨b, off + (k + 1) * 4, none⟩) = some ad := by split <;> exact ⟨_, rfl⟩
      have HS := Lib.hid fun w' (k' : Ok w4 w') => show w'.cell? ⟨w.heap.size + 1 + 1 + 1, 1, none⟩ = some (.slice (some ⟨b, off, none⟩) n c) ∧ w'.cell? ⟨w.heap.size + 1, 0, none⟩ = some (.string il) ∧ w'.cell? ⟨w.heap.size + 1, 1, none⟩ = some (.string ih) ∧ w'.cell? ⟨b, off + k * 4, none⟩ = some (.string xl) ∧ w'.cell? ⟨b, off + k * 4 + 1, none⟩ = some (.string xh) ∧ w'.cell? ⟨b, off + k * 4 + 2, none⟩ = some (.int .i64 xg) ∧ w'.cell? ⟨b, off + k * 4 + 3, none⟩ = some (.int .i64 xe) ∧ OkS w4 w' from ⟨Ok.cell k' D1, Ok.cell k' I0, Ok.cell k' I1, Ok.cell k' C0, Ok.cell k' C1, Ok.cell k' C2, Ok.cell k' C3, k'⟩
      have HINN := Lib.hid (HI.out.ok ok4).inn
      have H55 := Lib.hid fun w5 g5 c5 (k' : Ok w4 w5) (sc : ShIn w5 ⟨g5, 0, none⟩ cs) => concat_new w5 ⟨b, off, none⟩ ⟨g5, 0, none⟩ ad k cs.length (n - (k + 1)) c c5 (c - (k + 1)) (xs.take k) cs (xs.drop (k + 1))
        (by rw [List.length_take, HN.out]; omega) rfl (by rw [List.length_drop, HN.out]) (by omega) (by have := HCL.out; omega) (by omega) ((HINN.out.ok k').first k) sc ((HINN.out.ok k').rest HN.out hnc k ad had)
      generalize xs.take k ++ (cs ++ xs.drop (k + 1)) = ys at H55 HREST
      clear HI
      go_wp2_with fail
      go_region_held3 (fun w' => w'.cell? ⟨w.heap.size + 1 + 1 + 1, 1, none⟩ = some (.slice (some ⟨b, off, none⟩) n c) ∧ w'.cell? ⟨w.heap.size + 1, 0, none⟩ = some (.string il) ∧ w'.cell? ⟨w.heap.size + 1, 1, none⟩ = some (.string ih) ∧ w'.cell? ⟨b, off + k * 4, none⟩ = some (.string xl) ∧ w'.cell? ⟨b, off + k * 4 + 1, none⟩ = some (.string xh) ∧ w'.cell? ⟨b, off + k * 4 + 2, none⟩ = some (.int .i64 xg) ∧ w'.cell? ⟨b, off + k * 4 + 3, none⟩ = some (.int .i64 xe) ∧ OkS w4 w')
        ((refine HS.out _ ?_; (repeat (first | (with_reducible exact Ok.refl _) | (with_reducible assumption) | (with_reducible refine Ok.drew ?_) | (with_reducible refine Ok.alloc ?_ _) | (with_reducible refine Ok.trans' ?_ (by assumption))))))
        (first
          | (go_at_call 55; (with_reducible refine (HCX.out _).mono ?_); rintro e w5 ⟨A5, c5, rfl, hown5, o5⟩; obtain ⟨g5, rfl⟩ := hown5.some HCNE.out)
          | (go_at_call 54; (with_reducible refine (H55.out w5 g5 c5 (Ok.trans' (Ok.drew (Ok.refl w4)) o5) hown5.at.inn).mono ?_); rintro e w6 ⟨A6, c6, rfl, hown6, o6⟩))
      have OO := Ok.call (Ok.alloc (Ok.call (Ok.drew (Ok.refl w4)) o5) _) o6
      have hp4 : w.heap.size + 1 + 1 < w4.heap.size := World.block_lt_of_cell? _ _ R0
      have hw4 : w.heap.size ≤ w4.heap.size := ok4.size
      have FF0 := (Below.frozen OO (World.block_lt_of_cell? _ _ R0)).trans F0
      have FF1 := (Below.frozen OO (World.block_lt_of_cell? _ _ R1)).trans F1
      have R0 := Ok.cell OO R0
      have R1 := Ok.cell OO R1
      have F0 := FF0
      have F1 := FF1
      clear FF0 FF1
      have ok6 : Ok w w6 := Ok.call ok4 OO
      have HOW6 := Lib.hid (hown6.base (Ok.alloc (Ok.call (Ok.drew (Ok.refl w4)) o5) _).size)
      clear OO hown6 o5 o6 hown5 HINN H55 HS HCX
      obtain ⟨N, hN⟩ : ∃ N, ys.length = N := ⟨_, rfl⟩
      rw [hN] at HREST ⊢
      have HYN := Lib.hid hN
      clear hN
      have hrest := HREST.out
      clear HREST
      by_cases h7 : 1073741824 < ep + 1
      · have d7 : decide (1073741824 < ep + 1) = true := decide_eq_true h7
        obtain rfl : R = (8, []) := by
          rcases hrest with ⟨_, _, e⟩ | ⟨_, h8, _⟩
          · exact e
          · omega

        go_wp2
        have st := store2 w6 (w.heap.size + 1 + 1) _ _ (.int .i64 0) (.slice none 0 0) R0 R1
        (try simp only [Exit.inBlock, Exit.then])
        refine bodyPost_ret (by simp [results, Tryz.results11, go_sem, st.1, st.2]; try rfl) rfl ?_
        exact TurnPost.err (by decide) rfl (Ok.set (Ok.set ok6 (by simp; omega) _) (by simp; omega) _)
      · have d7 : decide (1073741824 < ep + 1) = false := decide_eq_false h7
        by_cases h8 : 40 < N
        · have d8 : decide ((40 : Int) < (N : Int)) = true := decide_eq_true (by omega)
          obtain rfl : R = (8, []) := by
            rcases hrest with ⟨_, _, e⟩ | ⟨_, _, h9, _⟩
            · exact e
            · omega

          go_wp2
          have st := store2 w6 (w.heap.size + 1 + 1) _ _ (.int .i64 0) (.slice none 0 0) R0 R1
          (try simp only [Exit.inBlock, Exit.then])
          refine bodyPost_ret (by simp [results, Tryz.results11, go_sem, st.1, st.2]; try rfl) rfl ?_
          exact TurnPost.err (by decide) rfl (Ok.set (Ok.set ok6 (by simp; omega) _) (by simp; omega) _)
        · have d8 : decide ((40 : Int) < (N : Int)) = false := decide_eq_false (by omega)
          obtain rfl : R = (0, ys) := by
            rcases hrest with ⟨_, h9, _⟩ | ⟨_, _, _, e⟩
            · omega
            · exact e
          go_wp2
          have st := store2 w6 (w.heap.size + 1 + 1) _ _ (.int .i64 (ep + 1)) (.slice A6 N c6) R0 R1
          (try simp only [Exit.inBlock, Exit.then])
          refine bodyPost_ret (by simp [results, Tryz.results11, go_sem, st.1, st.2]; try rfl) rfl ?_
          have e := HYN.out
          subst e
          exact ⟨A6, c6, rfl, ((HOW6.out.set (p := ⟨w.heap.size + 1 + 1, 0, none⟩) hp4 _).set (p := ⟨w.heap.size + 1 + 1, 1, none⟩) hp4 _).base hw4, Ok.set (Ok.set ok6 (by simp; omega) _) (by simp; omega) _⟩
end Go.Proofs.YtdabdkedgigjdaaGreat
