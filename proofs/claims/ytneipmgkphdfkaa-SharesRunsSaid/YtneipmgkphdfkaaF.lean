/- Contracts of few, and of Meet. -/
import Derived.Test.YtneipmgkphdfkaaD
import Derived.Test.YtneipmgkphdfkaaE
namespace Go.Proofs.Ytneipmgkphdfkaa
open Go.RowKit

def FewPost (w : World) (n : Nat) : Ending → World → Prop := fun e w' => (∃ r, e = .returned (.bool r) ∧ (r = true → n ≤ 60)) ∧ w' = w
theorem FewPost.mk {w : World} {n : Nat} {e : Ending} (r : Bool) (he : e = .returned (.bool r)) (h : r = true → n ≤ 60) : FewPost w n e w := ⟨⟨r, he, h⟩, rfl⟩

set_option maxRecDepth 100000 in
set_option maxHeartbeats 1000000 in
theorem few_w (sv : Value) (zs : List Str) (m : Nat) (w : World) (h : Strs m w sv zs) : Calls Try.prog 12 #[sv] w (FewPost w zs.length) := by
  obtain ⟨A, n, c, rfl, hl, hcell⟩ : ∃ A n c, sv = .slice A n c ∧ zs.length = n ∧ ∀ j, j < n → ∃ b off, A = some ⟨b, off, none⟩ ∧ w.cell? ⟨b, off + j, none⟩ = some (.string (at0 zs j)) := by
    rcases h with ⟨rfl, A, c, rfl⟩ | ⟨b, off, cap, rfl, _, hc⟩
    · exact ⟨A, 0, c, rfl, rfl, fun j hj => absurd hj (Nat.not_lt_zero _)⟩
    · exact ⟨_, _, _, rfl, rfl, fun j hj => ⟨b, off, rfl, hc j hj⟩⟩
  have HC := Lib.hid hcell
  have HL := Lib.hid hl
  clear h hcell hl
  go_enter Try.func12, Try.ntmps12
  go_wp2_with fail
  go_loop [3] (fun i => ∃ k : Nat, k ≤ n ∧ k ≤ 61 ∧ i = .int .i64 k) (fun i => 61 - (intOf i).toNat)
  case atStart => exact ⟨0, Nat.zero_le _, Nat.zero_le _, rfl⟩
  case round =>
    obtain ⟨k, hk, hk61, rfl⟩ := hrel
    by_cases h1 : k < n
    · have d1 : decide ((k : Int) < (n : Int)) = true := decide_eq_true (by omega)
      by_cases h2 : k < 61
      · have d2 : decide ((k : Int) < 61) = true := decide_eq_true (by omega)
        obtain ⟨b, off, rfl, hcl⟩ := HC.out k h1
        by_cases h3 : 40 < (at0 zs k).size
        · have d3 : decide ((40 : Int) < ((at0 zs k).size : Int)) = true := decide_eq_true (by omega)
          go_wp2
          go_ret
          exact FewPost.mk _ rfl (fun h => by cases h)
        · have d3 : decide ((40 : Int) < ((at0 zs k).size : Int)) = false := decide_eq_false (by omega)
          go_wp2
          refine ⟨⟨k + 1, h1, h2, rfl⟩, ?_⟩
          show 61 - ((k : Int) + 1).toNat < 61 - (k : Int).toNat
          omega
      · have d2 : decide ((k : Int) < 61) = false := decide_eq_false (by omega)
        go_wp2
        go_ret
        exact FewPost.mk _ rfl (fun h => by have := HL.out; have := of_decide_eq_true h; omega)
    · have d1 : decide ((k : Int) < (n : Int)) = false := decide_eq_false (by omega)
      go_wp2
      go_ret
      exact FewPost.mk _ rfl (fun h => by have := HL.out; have := of_decide_eq_true h; omega)


theorem store2 (W : World) (p : Nat) (u0 u1 u v : Value) (h0 : W.cell? ⟨p, 0, none⟩ = some u0) (h1 : W.cell? ⟨p, 1, none⟩ = some u1) :
    ((W.setCell ⟨p, 0, none⟩ u).setCell ⟨p, 1, none⟩ v).cell? ⟨p, 0, none⟩ = some u ∧ ((W.setCell ⟨p, 0, none⟩ u).setCell ⟨p, 1, none⟩ v).cell? ⟨p, 1, none⟩ = some v := by
  constructor
  · exact (World.cell?_setCell_other _ _ _ _ (by simp)).trans (World.cell?_setCell_same _ _ _ h0)
  · exact World.cell?_setCell_same _ _ _ ((World.cell?_setCell_other _ _ _ _ (by simp)).trans h1)
theorem Ok.set {w w' : World} {p : Addr} (h : Ok w w') (hp : w.heap.size ≤ p.block) (v : Value) : Ok w (w'.setCell p v) := Below.setCell h hp v

def meetV (a b : Sp) : Value := .tuple #[spV ((meetB a b).getD allS), .bool (meetB a b).isSome]

set_option maxRecDepth 100000 in
set_option maxHeartbeats 8000000 in
theorem meet_w (a b : Sp) (w : World) : Calls Try.prog 13 #[spV a, spV b] w (Ret w (meetV a b)) := by
  have hra := right_w a
  have hrb := right_w b
  have hla := low_w a
  have hlb := low_w b
  have hha := high_w a
  have hhb := high_w b
  obtain ⟨R, hR⟩ : ∃ R, meetV a b = R := ⟨_, rfl⟩
  rw [hR]
  have er : Hid (meetV a b = R) := Lib.hid hR
  clear hR
  obtain ⟨al, ah⟩ := a
  obtain ⟨bl, bh⟩ := b
  have hbe := below_w al bl
  have hin := in_w bh ah
  unfold spV at hra hrb hla hlb hha hhb ⊢
  cases h1 : rightB ⟨al, ah⟩ with
  | false =>
    rw [h1] at hra
    have er2 : Hid (R = .tuple #[.agg #[.string ⟨#[]⟩, .string ⟨#[]⟩], .bool false]) := Lib.hid (by rw [← er.out]; simp [meetV, meetB, h1, spV, allS])
    clear er hrb hla hlb hha hhb hbe hin
    go_enter Try.func13, Try.ntmps13
    go_wp2_with fail
    refine (hra _).mono ?_
    rintro _ w1 ⟨rfl, o1⟩
    have R0 : w1.cell? ⟨w.heap.size + 1 + 1, 0, none⟩ = some (.string ⟨#[]⟩) := Ok.cell o1 (by go_cell)
    have R1 : w1.cell? ⟨w.heap.size + 1 + 1, 1, none⟩ = some (.string ⟨#[]⟩) := Ok.cell o1 (by go_cell)
    have F0 : w1.frozen? ⟨w.heap.size + 1 + 1, 0, none⟩ = false := by rw [Below.frozen o1 (by simp)]; go_cell
    have F1 : w1.frozen? ⟨w.heap.size + 1 + 1, 1, none⟩ = false := by rw [Below.frozen o1 (by simp)]; go_cell

    go_wp2
    have st := store2 w1 (w.heap.size + 1 + 1) _ _ (.string ⟨#[]⟩) (.string ⟨#[]⟩) R0 R1
    (try simp only [Exit.inBlock, Exit.then])
    refine bodyPost_ret (by simp [results, Try.results13, go_sem, st.1, st.2]; try rfl) rfl ?_
    exact ⟨by rw [er2.out], Ok.set (Ok.set (Ok.call (Ok.alloc (Ok.alloc (Ok.alloc (Ok.refl w) _) _) _) o1) (by simp; omega) _) (by simp; omega) _⟩
  | true =>
    rw [h1] at hra
    cases h2 : rightB ⟨bl, bh⟩ with
    | false =>
      rw [h2] at hrb
      have er2 : Hid (R = .tuple #[.agg #[.string ⟨#[]⟩, .string ⟨#[]⟩], .bool false]) := Lib.hid (by rw [← er.out]; simp [meetV, meetB, h1, h2, spV, allS])
      clear er hla hlb hha hhb hbe hin
      go_enter Try.func13, Try.ntmps13
      go_wp2_with fail
      refine (hra _).mono ?_
      rintro _ w1 ⟨rfl, o1⟩
      have R0 : w1.cell? ⟨w.heap.size + 1 + 1, 0, none⟩ = some (.string ⟨#[]⟩) := Ok.cell o1 (by go_cell)
      have R1 : w1.cell? ⟨w.heap.size + 1 + 1, 1, none⟩ = some (.string ⟨#[]⟩) := Ok.cell o1 (by go_cell)
      have F0 : w1.frozen? ⟨w.heap.size + 1 + 1, 0, none⟩ = false := by rw [Below.frozen o1 (by simp)]; go_cell
      have F1 : w1.frozen? ⟨w.heap.size + 1 + 1, 1, none⟩ = false := by rw [Below.frozen o1 (by simp)]; go_cell

      have A0 : w1.cell? ⟨w.heap.size, 0, none⟩ = some (.string al) := Ok.cell o1 (by go_cell)
      have A1 : w1.cell? ⟨w.heap.size, 1, none⟩ = some (.string ah) := Ok.cell o1 (by go_cell)
      have B0 : w1.cell? ⟨w.heap.size + 1, 0, none⟩ = some (.string bl) := Ok.cell o1 (by go_cell)
      have B1 : w1.cell? ⟨w.heap.size + 1, 1, none⟩ = some (.string bh) := Ok.cell o1 (by go_cell)
      go_wp2_with fail
      refine (hrb _).mono ?_
      rintro _ w2 ⟨rfl, o2⟩

      have A0 := Ok.cell o2 A0
      have A1 := Ok.cell o2 A1
      have B0 := Ok.cell o2 B0
      have B1 := Ok.cell o2 B1
      have F0 := (Below.frozen o2 (World.block_lt_of_cell? _ _ R0)).trans F0
      have F1 := (Below.frozen o2 (World.block_lt_of_cell? _ _ R1)).trans F1
      have R0 := Ok.cell o2 R0
      have R1 := Ok.cell o2 R1

      go_wp2
      have st := store2 w2 (w.heap.size + 1 + 1) _ _ (.string ⟨#[]⟩) (.string ⟨#[]⟩) R0 R1
      (try simp only [Exit.inBlock, Exit.then])
      refine bodyPost_ret (by simp [results, Try.results13, go_sem, st.1, st.2]; try rfl) rfl ?_
      exact ⟨by rw [er2.out], Ok.set (Ok.set (Ok.call (Ok.call (Ok.alloc (Ok.alloc (Ok.alloc (Ok.refl w) _) _) _) o1) o2) (by simp; omega) _) (by simp; omega) _⟩
    | true =>
      rw [h2] at hrb
      go_enter Try.func13, Try.ntmps13
      go_wp2_with fail
      refine (hra _).mono ?_
      rintro _ w1 ⟨rfl, o1⟩
      have R0 : w1.cell? ⟨w.heap.size + 1 + 1, 0, none⟩ = some (.string ⟨#[]⟩) := Ok.cell o1 (by go_cell)
      have R1 : w1.cell? ⟨w.heap.size + 1 + 1, 1, none⟩ = some (.string ⟨#[]⟩) := Ok.cell o1 (by go_cell)
      have F0 : w1.frozen? ⟨w.heap.size + 1 + 1, 0, none⟩ = false := by rw [Below.frozen o1 (by simp)]; go_cell
      have F1 : w1.frozen? ⟨w.heap.size + 1 + 1, 1, none⟩ = false := by rw [Below.frozen o1 (by simp)]; go_cell

      have A0 : w1.cell? ⟨w.heap.size, 0, none⟩ = some (.string al) := Ok.cell o1 (by go_cell)
      have A1 : w1.cell? ⟨w.heap.size, 1, none⟩ = some (.string ah) := Ok.cell o1 (by go_cell)
      have B0 : w1.cell? ⟨w.heap.size + 1, 0, none⟩ = some (.string bl) := Ok.cell o1 (by go_cell)
      have B1 : w1.cell? ⟨w.heap.size + 1, 1, none⟩ = some (.string bh) := Ok.cell o1 (by go_cell)
      go_wp2_with fail
      refine (hrb _).mono ?_
      rintro _ w2 ⟨rfl, o2⟩

      have A0 := Ok.cell o2 A0
      have A1 := Ok.cell o2 A1
      have B0 := Ok.cell o2 B0
      have B1 := Ok.cell o2 B1
      have F0 := (Below.frozen o2 (World.block_lt_of_cell? _ _ R0)).trans F0
      have F1 := (Below.frozen o2 (World.block_lt_of_cell? _ _ R1)).trans F1
      have R0 := Ok.cell o2 R0
      have R1 := Ok.cell o2 R1

      have ok2 : Ok w w2 := Ok.call (Ok.call (Ok.alloc (Ok.alloc (Ok.alloc (Ok.refl w) _) _) _) o1) o2
      have hg : w.heap.size + 1 + 1 < w2.heap.size := World.block_lt_of_cell? _ _ R0
      clear o1 o2 hra hrb
      go_wp2_with fail
      obtain ⟨g, hgg⟩ : ∃ g, w2.heap.size = g := ⟨_, rfl⟩
      generalize hW : w2.alloc (Obj.cells #[Value.string al, Value.string ah] 23) = W
      have o3 : Ok w2 W := by subst hW; exact Ok.alloc (Ok.refl _) _
      have M0 : W.cell? ⟨w2.heap.size, 0, none⟩ = some (.string al) := by subst hW; go_cell
      have M1 : W.cell? ⟨w2.heap.size, 1, none⟩ = some (.string ah) := by subst hW; go_cell
      have G0 : W.frozen? ⟨w2.heap.size, 0, none⟩ = false := by subst hW; go_cell
      have G1 : W.frozen? ⟨w2.heap.size, 1, none⟩ = false := by subst hW; go_cell

      have A0 := Ok.cell o3 A0
      have A1 := Ok.cell o3 A1
      have B0 := Ok.cell o3 B0
      have B1 := Ok.cell o3 B1
      have F0 := (Below.frozen o3 (World.block_lt_of_cell? _ _ R0)).trans F0
      have F1 := (Below.frozen o3 (World.block_lt_of_cell? _ _ R1)).trans F1
      have R0 := Ok.cell o3 R0
      have R1 := Ok.cell o3 R1

      have okW : Ok w W := Ok.call ok2 o3
      rw [hgg] at hg M0 M1 G0 G1 ⊢
      clear hW o3 ok2 hgg
      have q0 : ∀ d os, Calls Try.prog 42 #[.agg #[.string al, .string ah]] (Go.Sort.grow (redrawn W d) os) fun e w'' => e = .returned (.string al) ∧ ∃ p : Regrown, w'' = Go.Sort.grow (redrawn W p.d) p.os := fun d os => Calls.regrown_of (hla _)
      have q1 : ∀ d os, Calls Try.prog 42 #[.agg #[.string bl, .string bh]] (Go.Sort.grow (redrawn W d) os) fun e w'' => e = .returned (.string bl) ∧ ∃ p : Regrown, w'' = Go.Sort.grow (redrawn W p.d) p.os := fun d os => Calls.regrown_of (hlb _)
      have q2 : ∀ d os, Calls Try.prog 43 #[.string al, .string bl] (Go.Sort.grow (redrawn W d) os) fun e w'' => e = .returned (.bool (ltB al bl)) ∧ ∃ p : Regrown, w'' = Go.Sort.grow (redrawn W p.d) p.os := fun d os => Calls.regrown_of (hbe _)
      have kA0 := cell_regrown A0
      have kA1 := cell_regrown A1
      have kB0 := cell_regrown B0
      have kB1 := cell_regrown B1
      refine wp_region_quiet_below (by kernel_rfl) (by kernel_rfl) ?_
      repeat (quiet_step (first | (with_reducible exact q0 _ _) | (with_reducible exact q1 _ _) | (with_reducible exact q2 _ _)))
      refine wpQuiet_nil ?_
      intro _ hw'
      obtain ⟨⟨dq, osq⟩, hw''⟩ := hw'
      subst hw''
      clear q0 q1 q2 kA0 kA1 kB0 kB1
      have oq : Ok W (Go.Sort.grow (redrawn W dq) osq) := below_regrown W dq osq
      generalize Go.Sort.grow (redrawn W dq) osq = W2 at oq ⊢

      have A0 := Ok.cell oq A0
      have A1 := Ok.cell oq A1
      have B0 := Ok.cell oq B0
      have B1 := Ok.cell oq B1
      have F0 := (Below.frozen oq (World.block_lt_of_cell? _ _ R0)).trans F0
      have F1 := (Below.frozen oq (World.block_lt_of_cell? _ _ R1)).trans F1
      have R0 := Ok.cell oq R0
      have R1 := Ok.cell oq R1

      have G0 := (Below.frozen oq (World.block_lt_of_cell? _ _ M0)).trans G0
      have G1 := (Below.frozen oq (World.block_lt_of_cell? _ _ M1)).trans G1
      have M0 := Ok.cell oq M0
      have M1 := Ok.cell oq M1

      have ok2 := Ok.call okW oq
      clear oq okW
      cases hlt : ltB al bl with
      | true =>
        go_wp2_with fail

        have os : Below g W2 (W2.setCell ⟨g, 0, none⟩ (.string bl)) := (Below.refl g W2).setCell (p := ⟨g, 0, none⟩) (Nat.le_refl _) _
        have okn : Ok w (W2.setCell ⟨g, 0, none⟩ (.string bl)) := Ok.set (p := ⟨g, 0, none⟩) ok2 (by simp; omega) _
        have M0 : (W2.setCell ⟨g, 0, none⟩ (.string bl)).cell? ⟨g, 0, none⟩ = some (.string bl) := World.cell?_setCell_same _ _ _ M0
        have M1 := (World.cell?_setCell_other W2 ⟨g, 0, none⟩ ⟨g, 1, none⟩ (.string bl) (by simp)).trans M1
        have G0 := (World.frozen?_setCell W2 ⟨g, 0, none⟩ ⟨g, 0, none⟩ (.string bl)).trans G0
        have G1 := (World.frozen?_setCell W2 ⟨g, 0, none⟩ ⟨g, 1, none⟩ (.string bl)).trans G1
        have A0 := (os.cell (p := ⟨w.heap.size, 0, none⟩) (by simp; omega)).trans A0
        have A1 := (os.cell (p := ⟨w.heap.size, 1, none⟩) (by simp; omega)).trans A1
        have B0 := (os.cell (p := ⟨w.heap.size + 1, 0, none⟩) (by simp; omega)).trans B0
        have B1 := (os.cell (p := ⟨w.heap.size + 1, 1, none⟩) (by simp; omega)).trans B1
        have F0 := (os.frozen (p := ⟨w.heap.size + 1 + 1, 0, none⟩) hg).trans F0
        have F1 := (os.frozen (p := ⟨w.heap.size + 1 + 1, 1, none⟩) hg).trans F1
        have R0 := (os.cell (p := ⟨w.heap.size + 1 + 1, 0, none⟩) hg).trans R0
        have R1 := (os.cell (p := ⟨w.heap.size + 1 + 1, 1, none⟩) hg).trans R1
        clear os ok2
        generalize W2.setCell ⟨g, 0, none⟩ (.string bl) = W3 at *
        have ok2 := okn
        clear okn
        have q0 : ∀ d os, Calls Try.prog 44 #[.agg #[.string bl, .string bh]] (Go.Sort.grow (redrawn W3 d) os) fun e w'' => e = .returned (endV bh) ∧ ∃ p : Regrown, w'' = Go.Sort.grow (redrawn W3 p.d) p.os := fun d os => Calls.regrown_of (hhb _)
        have q1 : ∀ d os, Calls Try.prog 44 #[.agg #[.string al, .string ah]] (Go.Sort.grow (redrawn W3 d) os) fun e w'' => e = .returned (endV ah) ∧ ∃ p : Regrown, w'' = Go.Sort.grow (redrawn W3 p.d) p.os := fun d os => Calls.regrown_of (hha _)
        have q2 : ∀ d os, Calls Try.prog 45 #[endV bh, endV ah] (Go.Sort.grow (redrawn W3 d) os) fun e w'' => e = .returned (.bool (inB bh ah)) ∧ ∃ p : Regrown, w'' = Go.Sort.grow (redrawn W3 p.d) p.os := fun d os => Calls.regrown_of (hin _)
        have kA0 := cell_regrown A0
        have kA1 := cell_regrown A1
        have kB0 := cell_regrown B0
        have kB1 := cell_regrown B1
        refine wp_region_quiet_below (by kernel_rfl) (by kernel_rfl) ?_
        repeat (quiet_step (first | (with_reducible exact q0 _ _) | (with_reducible exact q1 _ _) | (with_reducible exact q2 _ _)))
        refine wpQuiet_nil ?_
        intro _ hw'
        obtain ⟨⟨dq, osq⟩, hw''⟩ := hw'
        subst hw''
        clear q0 q1 q2 kA0 kA1 kB0 kB1
        have oq : Ok W3 (Go.Sort.grow (redrawn W3 dq) osq) := below_regrown W3 dq osq
        generalize Go.Sort.grow (redrawn W3 dq) osq = W4 at oq ⊢

        have A0 := Ok.cell oq A0
        have A1 := Ok.cell oq A1
        have B0 := Ok.cell oq B0
        have B1 := Ok.cell oq B1
        have F0 := (Below.frozen oq (World.block_lt_of_cell? _ _ R0)).trans F0
        have F1 := (Below.frozen oq (World.block_lt_of_cell? _ _ R1)).trans F1
        have R0 := Ok.cell oq R0
        have R1 := Ok.cell oq R1

        have G0 := (Below.frozen oq (World.block_lt_of_cell? _ _ M0)).trans G0
        have G1 := (Below.frozen oq (World.block_lt_of_cell? _ _ M1)).trans G1
        have M0 := Ok.cell oq M0
        have M1 := Ok.cell oq M1

        have ok2 := Ok.call ok2 oq
        clear oq
        cases hio : inB bh ah with
        | true =>
          go_wp2_with fail

          have os : Below g W4 (W4.setCell ⟨g, 1, none⟩ (.string bh)) := (Below.refl g W4).setCell (p := ⟨g, 1, none⟩) (Nat.le_refl _) _
          have okn : Ok w (W4.setCell ⟨g, 1, none⟩ (.string bh)) := Ok.set (p := ⟨g, 1, none⟩) ok2 (by simp; omega) _
          have M1 : (W4.setCell ⟨g, 1, none⟩ (.string bh)).cell? ⟨g, 1, none⟩ = some (.string bh) := World.cell?_setCell_same _ _ _ M1
          have M0 := (World.cell?_setCell_other W4 ⟨g, 1, none⟩ ⟨g, 0, none⟩ (.string bh) (by simp)).trans M0
          have G0 := (World.frozen?_setCell W4 ⟨g, 1, none⟩ ⟨g, 0, none⟩ (.string bh)).trans G0
          have G1 := (World.frozen?_setCell W4 ⟨g, 1, none⟩ ⟨g, 1, none⟩ (.string bh)).trans G1
          have A0 := (os.cell (p := ⟨w.heap.size, 0, none⟩) (by simp; omega)).trans A0
          have A1 := (os.cell (p := ⟨w.heap.size, 1, none⟩) (by simp; omega)).trans A1
          have B0 := (os.cell (p := ⟨w.heap.size + 1, 0, none⟩) (by simp; omega)).trans B0
          have B1 := (os.cell (p := ⟨w.heap.size + 1, 1, none⟩) (by simp; omega)).trans B1
          have F0 := (os.frozen (p := ⟨w.heap.size + 1 + 1, 0, none⟩) hg).trans F0
          have F1 := (os.frozen (p := ⟨w.heap.size + 1 + 1, 1, none⟩) hg).trans F1
          have R0 := (os.cell (p := ⟨w.heap.size + 1 + 1, 0, none⟩) hg).trans R0
          have R1 := (os.cell (p := ⟨w.heap.size + 1 + 1, 1, none⟩) hg).trans R1
          clear os ok2
          generalize W4.setCell ⟨g, 1, none⟩ (.string bh) = W5 at *
          have ok2 := okn
          clear okn
          have hrm := right_w ⟨bl, bh⟩
          unfold spV at hrm
          cases hm : rightB ⟨bl, bh⟩ with
          | false =>
            rw [hm] at hrm
            have er2 : Hid (R = .tuple #[.agg #[.string ⟨#[]⟩, .string ⟨#[]⟩], .bool false]) := Lib.hid (by
              have em : meetM ⟨al, ah⟩ ⟨bl, bh⟩ = ⟨bl, bh⟩ := by simp [meetM, hlt, hio]
              rw [← er.out]; exact absurd (h2.symm.trans hm) (by simp))
            go_wp2_with fail
            refine (hrm _).mono ?_
            rintro _ w9 ⟨rfl, o9⟩
            have F0 := (Below.frozen o9 (World.block_lt_of_cell? _ _ R0)).trans F0
            have F1 := (Below.frozen o9 (World.block_lt_of_cell? _ _ R1)).trans F1
            have R0 := Ok.cell o9 R0
            have R1 := Ok.cell o9 R1
            have M0 := Ok.cell o9 M0
            have M1 := Ok.cell o9 M1
            go_wp2
            have st := store2 w9 (w.heap.size + 1 + 1) _ _ (.string ⟨#[]⟩) (.string ⟨#[]⟩) R0 R1
            (try simp only [Exit.inBlock, Exit.then])
            refine bodyPost_ret (by simp [results, Try.results13, go_sem, st.1, st.2]; try rfl) rfl ?_
            exact ⟨by rw [er2.out], Ok.set (Ok.set (Ok.call ok2 o9) (by simp; omega) _) (by simp; omega) _⟩

          | true =>
            rw [hm] at hrm
            have er2 : Hid (R = .tuple #[.agg #[.string bl, .string bh], .bool true]) := Lib.hid (by
              have em : meetM ⟨al, ah⟩ ⟨bl, bh⟩ = ⟨bl, bh⟩ := by simp [meetM, hlt, hio]
              rw [← er.out]; simp [meetV, meetB, h1, h2, em, spV, allS])
            go_wp2_with fail
            refine (hrm _).mono ?_
            rintro _ w9 ⟨rfl, o9⟩
            have F0 := (Below.frozen o9 (World.block_lt_of_cell? _ _ R0)).trans F0
            have F1 := (Below.frozen o9 (World.block_lt_of_cell? _ _ R1)).trans F1
            have R0 := Ok.cell o9 R0
            have R1 := Ok.cell o9 R1
            have M0 := Ok.cell o9 M0
            have M1 := Ok.cell o9 M1
            go_wp2
            have st := store2 w9 (w.heap.size + 1 + 1) _ _ (.string bl) (.string bh) R0 R1
            (try simp only [Exit.inBlock, Exit.then])
            refine bodyPost_ret (by simp [results, Try.results13, go_sem, st.1, st.2]; try rfl) rfl ?_
            exact ⟨by rw [er2.out], Ok.set (Ok.set (Ok.call ok2 o9) (by simp; omega) _) (by simp; omega) _⟩
        | false =>
          have hrm := right_w ⟨bl, ah⟩
          unfold spV at hrm
          cases hm : rightB ⟨bl, ah⟩ with
          | false =>
            rw [hm] at hrm
            have er2 : Hid (R = .tuple #[.agg #[.string ⟨#[]⟩, .string ⟨#[]⟩], .bool false]) := Lib.hid (by
              have em : meetM ⟨al, ah⟩ ⟨bl, bh⟩ = ⟨bl, ah⟩ := by simp [meetM, hlt, hio]
              rw [← er.out]; simp [meetV, meetB, h1, h2, em, hm, spV, allS])
            go_wp2_with fail
            refine (hrm _).mono ?_
            rintro _ w9 ⟨rfl, o9⟩
            have F0 := (Below.frozen o9 (World.block_lt_of_cell? _ _ R0)).trans F0
            have F1 := (Below.frozen o9 (World.block_lt_of_cell? _ _ R1)).trans F1
            have R0 := Ok.cell o9 R0
            have R1 := Ok.cell o9 R1
            have M0 := Ok.cell o9 M0
            have M1 := Ok.cell o9 M1
            go_wp2
            have st := store2 w9 (w.heap.size + 1 + 1) _ _ (.string ⟨#[]⟩) (.string ⟨#[]⟩) R0 R1
            (try simp only [Exit.inBlock, Exit.then])
            refine bodyPost_ret (by simp [results, Try.results13, go_sem, st.1, st.2]; try rfl) rfl ?_
            exact ⟨by rw [er2.out], Ok.set (Ok.set (Ok.call ok2 o9) (by simp; omega) _) (by simp; omega) _⟩

          | true =>
            rw [hm] at hrm
            have er2 : Hid (R = .tuple #[.agg #[.string bl, .string ah], .bool true]) := Lib.hid (by
              have em : meetM ⟨al, ah⟩ ⟨bl, bh⟩ = ⟨bl, ah⟩ := by simp [meetM, hlt, hio]
              rw [← er.out]; simp [meetV, meetB, h1, h2, em, hm, spV, allS])
            go_wp2_with fail
            refine (hrm _).mono ?_
            rintro _ w9 ⟨rfl, o9⟩
            have F0 := (Below.frozen o9 (World.block_lt_of_cell? _ _ R0)).trans F0
            have F1 := (Below.frozen o9 (World.block_lt_of_cell? _ _ R1)).trans F1
            have R0 := Ok.cell o9 R0
            have R1 := Ok.cell o9 R1
            have M0 := Ok.cell o9 M0
            have M1 := Ok.cell o9 M1
            go_wp2
            have st := store2 w9 (w.heap.size + 1 + 1) _ _ (.string bl) (.string ah) R0 R1
            (try simp only [Exit.inBlock, Exit.then])
            refine bodyPost_ret (by simp [results, Try.results13, go_sem, st.1, st.2]; try rfl) rfl ?_
            exact ⟨by rw [er2.out], Ok.set (Ok.set (Ok.call ok2 o9) (by simp; omega) _) (by simp; omega) _⟩
      | false =>
        go_wp2_with fail
        have q0 : ∀ d os, Calls Try.prog 44 #[.agg #[.string bl, .string bh]] (Go.Sort.grow (redrawn W2 d) os) fun e w'' => e = .returned (endV bh) ∧ ∃ p : Regrown, w'' = Go.Sort.grow (redrawn W2 p.d) p.os := fun d os => Calls.regrown_of (hhb _)
        have q1 : ∀ d os, Calls Try.prog 44 #[.agg #[.string al, .string ah]] (Go.Sort.grow (redrawn W2 d) os) fun e w'' => e = .returned (endV ah) ∧ ∃ p : Regrown, w'' = Go.Sort.grow (redrawn W2 p.d) p.os := fun d os => Calls.regrown_of (hha _)
        have q2 : ∀ d os, Calls Try.prog 45 #[endV bh, endV ah] (Go.Sort.grow (redrawn W2 d) os) fun e w'' => e = .returned (.bool (inB bh ah)) ∧ ∃ p : Regrown, w'' = Go.Sort.grow (redrawn W2 p.d) p.os := fun d os => Calls.regrown_of (hin _)
        have kA0 := cell_regrown A0
        have kA1 := cell_regrown A1
        have kB0 := cell_regrown B0
        have kB1 := cell_regrown B1
        refine wp_region_quiet_below (by kernel_rfl) (by kernel_rfl) ?_
        repeat (quiet_step (first | (with_reducible exact q0 _ _) | (with_reducible exact q1 _ _) | (with_reducible exact q2 _ _)))
        refine wpQuiet_nil ?_
        intro _ hw'
        obtain ⟨⟨dq, osq⟩, hw''⟩ := hw'
        subst hw''
        clear q0 q1 q2 kA0 kA1 kB0 kB1
        have oq : Ok W2 (Go.Sort.grow (redrawn W2 dq) osq) := below_regrown W2 dq osq
        generalize Go.Sort.grow (redrawn W2 dq) osq = W4 at oq ⊢

        have A0 := Ok.cell oq A0
        have A1 := Ok.cell oq A1
        have B0 := Ok.cell oq B0
        have B1 := Ok.cell oq B1
        have F0 := (Below.frozen oq (World.block_lt_of_cell? _ _ R0)).trans F0
        have F1 := (Below.frozen oq (World.block_lt_of_cell? _ _ R1)).trans F1
        have R0 := Ok.cell oq R0
        have R1 := Ok.cell oq R1

        have G0 := (Below.frozen oq (World.block_lt_of_cell? _ _ M0)).trans G0
        have G1 := (Below.frozen oq (World.block_lt_of_cell? _ _ M1)).trans G1
        have M0 := Ok.cell oq M0
        have M1 := Ok.cell oq M1

        have ok2 := Ok.call ok2 oq
        clear oq
        cases hio : inB bh ah with
        | true =>
          go_wp2_with fail

          have os : Below g W4 (W4.setCell ⟨g, 1, none⟩ (.string bh)) := (Below.refl g W4).setCell (p := ⟨g, 1, none⟩) (Nat.le_refl _) _
          have okn : Ok w (W4.setCell ⟨g, 1, none⟩ (.string bh)) := Ok.set (p := ⟨g, 1, none⟩) ok2 (by simp; omega) _
          have M1 : (W4.setCell ⟨g, 1, none⟩ (.string bh)).cell? ⟨g, 1, none⟩ = some (.string bh) := World.cell?_setCell_same _ _ _ M1
          have M0 := (World.cell?_setCell_other W4 ⟨g, 1, none⟩ ⟨g, 0, none⟩ (.string bh) (by simp)).trans M0
          have G0 := (World.frozen?_setCell W4 ⟨g, 1, none⟩ ⟨g, 0, none⟩ (.string bh)).trans G0
          have G1 := (World.frozen?_setCell W4 ⟨g, 1, none⟩ ⟨g, 1, none⟩ (.string bh)).trans G1
          have A0 := (os.cell (p := ⟨w.heap.size, 0, none⟩) (by simp; omega)).trans A0
          have A1 := (os.cell (p := ⟨w.heap.size, 1, none⟩) (by simp; omega)).trans A1
          have B0 := (os.cell (p := ⟨w.heap.size + 1, 0, none⟩) (by simp; omega)).trans B0
          have B1 := (os.cell (p := ⟨w.heap.size + 1, 1, none⟩) (by simp; omega)).trans B1
          have F0 := (os.frozen (p := ⟨w.heap.size + 1 + 1, 0, none⟩) hg).trans F0
          have F1 := (os.frozen (p := ⟨w.heap.size + 1 + 1, 1, none⟩) hg).trans F1
          have R0 := (os.cell (p := ⟨w.heap.size + 1 + 1, 0, none⟩) hg).trans R0
          have R1 := (os.cell (p := ⟨w.heap.size + 1 + 1, 1, none⟩) hg).trans R1
          clear os ok2
          generalize W4.setCell ⟨g, 1, none⟩ (.string bh) = W5 at *
          have ok2 := okn
          clear okn
          have hrm := right_w ⟨al, bh⟩
          unfold spV at hrm
          cases hm : rightB ⟨al, bh⟩ with
          | false =>
            rw [hm] at hrm
            have er2 : Hid (R = .tuple #[.agg #[.string ⟨#[]⟩, .string ⟨#[]⟩], .bool false]) := Lib.hid (by
              have em : meetM ⟨al, ah⟩ ⟨bl, bh⟩ = ⟨al, bh⟩ := by simp [meetM, hlt, hio]
              rw [← er.out]; simp [meetV, meetB, h1, h2, em, hm, spV, allS])
            go_wp2_with fail
            refine (hrm _).mono ?_
            rintro _ w9 ⟨rfl, o9⟩
            have F0 := (Below.frozen o9 (World.block_lt_of_cell? _ _ R0)).trans F0
            have F1 := (Below.frozen o9 (World.block_lt_of_cell? _ _ R1)).trans F1
            have R0 := Ok.cell o9 R0
            have R1 := Ok.cell o9 R1
            have M0 := Ok.cell o9 M0
            have M1 := Ok.cell o9 M1
            go_wp2
            have st := store2 w9 (w.heap.size + 1 + 1) _ _ (.string ⟨#[]⟩) (.string ⟨#[]⟩) R0 R1
            (try simp only [Exit.inBlock, Exit.then])
            refine bodyPost_ret (by simp [results, Try.results13, go_sem, st.1, st.2]; try rfl) rfl ?_
            exact ⟨by rw [er2.out], Ok.set (Ok.set (Ok.call ok2 o9) (by simp; omega) _) (by simp; omega) _⟩

          | true =>
            rw [hm] at hrm
            have er2 : Hid (R = .tuple #[.agg #[.string al, .string bh], .bool true]) := Lib.hid (by
              have em : meetM ⟨al, ah⟩ ⟨bl, bh⟩ = ⟨al, bh⟩ := by simp [meetM, hlt, hio]
              rw [← er.out]; simp [meetV, meetB, h1, h2, em, hm, spV, allS])
            go_wp2_with fail
            refine (hrm _).mono ?_
            rintro _ w9 ⟨rfl, o9⟩
            have F0 := (Below.frozen o9 (World.block_lt_of_cell? _ _ R0)).trans F0
            have F1 := (Below.frozen o9 (World.block_lt_of_cell? _ _ R1)).trans F1
            have R0 := Ok.cell o9 R0
            have R1 := Ok.cell o9 R1
            have M0 := Ok.cell o9 M0
            have M1 := Ok.cell o9 M1
            go_wp2
            have st := store2 w9 (w.heap.size + 1 + 1) _ _ (.string al) (.string bh) R0 R1
            (try simp only [Exit.inBlock, Exit.then])
            refine bodyPost_ret (by simp [results, Try.results13, go_sem, st.1, st.2]; try rfl) rfl ?_
            exact ⟨by rw [er2.out], Ok.set (Ok.set (Ok.call ok2 o9) (by simp; omega) _) (by simp; omega) _⟩
        | false =>
          have hrm := right_w ⟨al, ah⟩
          unfold spV at hrm
          cases hm : rightB ⟨al, ah⟩ with
          | false =>
            rw [hm] at hrm
            have er2 : Hid (R = .tuple #[.agg #[.string ⟨#[]⟩, .string ⟨#[]⟩], .bool false]) := Lib.hid (by
              have em : meetM ⟨al, ah⟩ ⟨bl, bh⟩ = ⟨al, ah⟩ := by simp [meetM, hlt, hio]
              rw [← er.out]; exact absurd (h1.symm.trans hm) (by simp))
            go_wp2_with fail
            refine (hrm _).mono ?_
            rintro _ w9 ⟨rfl, o9⟩
            have F0 := (Below.frozen o9 (World.block_lt_of_cell? _ _ R0)).trans F0
            have F1 := (Below.frozen o9 (World.block_lt_of_cell? _ _ R1)).trans F1
            have R0 := Ok.cell o9 R0
            have R1 := Ok.cell o9 R1
            have M0 := Ok.cell o9 M0
            have M1 := Ok.cell o9 M1
            go_wp2
            have st := store2 w9 (w.heap.size + 1 + 1) _ _ (.string ⟨#[]⟩) (.string ⟨#[]⟩) R0 R1
            (try simp only [Exit.inBlock, Exit.then])
            refine bodyPost_ret (by simp [results, Try.results13, go_sem, st.1, st.2]; try rfl) rfl ?_
            exact ⟨by rw [er2.out], Ok.set (Ok.set (Ok.call ok2 o9) (by simp; omega) _) (by simp; omega) _⟩

          | true =>
            rw [hm] at hrm
            have er2 : Hid (R = .tuple #[.agg #[.string al, .string ah], .bool true]) := Lib.hid (by
              have em : meetM ⟨al, ah⟩ ⟨bl, bh⟩ = ⟨al, ah⟩ := by simp [meetM, hlt, hio]
              rw [← er.out]; simp [meetV, meetB, h1, h2, em, spV, allS])
            go_wp2_with fail
            refine (hrm _).mono ?_
            rintro _ w9 ⟨rfl, o9⟩
            have F0 := (Below.frozen o9 (World.block_lt_of_cell? _ _ R0)).trans F0
            have F1 := (Below.frozen o9 (World.block_lt_of_cell? _ _ R1)).trans F1
            have R0 := Ok.cell o9 R0
            have R1 := Ok.cell o9 R1
            have M0 := Ok.cell o9 M0
            have M1 := Ok.cell o9 M1
            go_wp2
            have st := store2 w9 (w.heap.size + 1 + 1) _ _ (.string al) (.string ah) R0 R1
            (try simp only [Exit.inBlock, Exit.then])
            refine bodyPost_ret (by simp [results, Try.results13, go_sem, st.1, st.2]; try rfl) rfl ?_
            exact ⟨by rw [er2.out], Ok.set (Ok.set (Ok.call ok2 o9) (by simp; omega) _) (by simp; omega) _⟩

end Go.Proofs.Ytneipmgkphdfkaa
