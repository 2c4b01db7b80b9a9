/- Frames of the program and of the document are the same; the bytes that begin a frame. -/
import Derived.Test.YtpebnlddmjfomaaDoorGk
namespace Go.Proofs.YtpebnlddmjfomaaDoor
open Go.RowKit
set_option maxRecDepth 100000 in
set_option maxHeartbeats 4000000 in
theorem same_w (A B : Option Addr) (n c d : Nat) (l : List Fr) (hn : l.length = n) (hn6 : n ≤ 1000000) (w : World) (hA : FramesAt w A l) (hB : FramesAt w B l) :
    Calls Tryd.prog 16 #[.slice A n c, .slice B n d] w (Ret w (.bool true)) := by
  have HA := Lib.hid hA
  have HB := Lib.hid hB
  have HN := Lib.hid hn
  clear hA hB hn
  have hne : ((n : Int) != n) = false := by simp
  go_enter Tryd.func16, Tryd.ntmps16
  go_wp2_with fail
  go_loopw [5] (fun i wr => ∃ k : Nat, k ≤ n ∧ i = .int .i64 k ∧ Ok w wr) (fun i _ => n - (intOf i).toNat)
  case atStart => exact ⟨0, Nat.zero_le _, rfl, Ok.refl _⟩
  case round =>
    obtain ⟨k, hk, rfl, okr⟩ := hrel
    have HO := Lib.hid okr
    clear okr
    by_cases hlt : k < n
    · have d1 : decide ((k : Int) < (n : Int)) = true := decide_eq_true (by omega)
      obtain ⟨b, off, rfl, C0, v, C1, hv⟩ := HA.out.ok HO.out k (by rw [HN.out]; exact hlt)
      obtain ⟨b', off', rfl, C0', v', C1', hv'⟩ := HB.out.ok HO.out k (by rw [HN.out]; exact hlt)
      have q15 : ∀ d os, Calls Tryd.prog 15 #[v, v'] (Go.Sort.grow (redrawn wr d) os) fun e w'' => e = .returned (.bool true) ∧ ∃ q : Regrown, w'' = Go.Sort.grow (redrawn wr q.d) q.os := fun d os => Calls.regrown_of (sameBytes_v v v' _ _ (Ok.bytes (below_regrown wr d os) hv) (Ok.bytes (below_regrown wr d os) hv'))
      obtain ⟨A1, c1, rfl, -⟩ := hv.form
      obtain ⟨A2, c2, rfl, -⟩ := hv'.form
      have k0 := cell_regrown C0
      have k1 := cell_regrown C1
      have k0' := cell_regrown C0'
      have k1' := cell_regrown C1'
      generalize (atF l k).data.length = m at *
      generalize (atF l k).kind = kd at *
      clear hv hv' C0 C1 C0' C1'
      have hi0 : (0 : Int) ≤ (k : Int) := Int.natCast_nonneg _
      have hi1 : (k : Int) < (n : Int) := by omega
      go_wp2_with fail
      refine wp_region_quiet_below (by kernel_rfl) (by kernel_rfl) ?_
      refine HeldU.out ?_
      repeat (
        refine hqU_step (fun K hK => ?_)
        go_simp
        first
          | (refine hK _ ?_; clear hK K)
          | (apply Exists.intro
             refine ⟨fun _ => ?_, hK _ ?_⟩
             (with_reducible first
               | exact q15 _ _)
             clear hK K))
      refine HeldU.mk (wpQuiet_nil ?_)
      intro _ hw'
      obtain ⟨⟨dq, osq⟩, hw''⟩ := hw'
      subst hw''
      have HO2 := Lib.hid (Ok.trans HO.out (below_regrown wr dq osq))
      clear q15 k0 k1 k0' k1'
      generalize Go.Sort.grow (redrawn wr dq) osq = w2 at *
      go_wp2_with fail
      refine ⟨⟨k + 1, hlt, by go_num, HO2.out⟩, by simp [intOf]; omega⟩
    · have d1 : decide ((k : Int) < (n : Int)) = false := decide_eq_false (by omega)
      go_wp2_with fail
      go_ret
      exact ⟨rfl, HO.out⟩
def hN (bs : List B8) : Nat := un4 (bs.getD 0 0#8) (bs.getD 1 0#8) (bs.getD 2 0#8) (bs.getD 3 0#8)
def hF (bs : List B8) : Fr := ⟨((bs.getD 4 0#8).toNat : Nat), (bs.drop 9).take (hN bs)⟩
theorem next_hF {bs : List B8} {g : Fr} {r : List B8} (h : nextF bs = some (g, r)) : 9 ≤ bs.length ∧ hN bs ≤ 262144 ∧ hN bs + 9 ≤ bs.length ∧ g = hF bs ∧ bs = bytesF g ++ r := by
  have h2 := (next_some h).2
  rcases Nat.lt_or_ge bs.length 9 with hl | hl
  · rw [next_short hl] at h; cases h
  · obtain ⟨a0, a1, a2, a3, k, t0, t1, t2, t3, rest, rfl⟩ := nine hl
    unfold nextF at h
    simp only at h
    split at h
    · rename_i hc
      obtain ⟨c1, c2, c3⟩ := hc
      simp only [Option.some.injEq, Prod.mk.injEq] at h
      obtain ⟨rfl, rfl⟩ := h
      exact ⟨hl, c1, by simp only [List.length_cons]; show un4 a0 a1 a2 a3 + 9 ≤ _; omega, rfl, h2⟩
    · cases h
theorem hN_lt (bs : List B8) : hN bs < 4294967296 := un4_lt _ _ _ _
theorem hF_len {bs : List B8} (h : hN bs + 9 ≤ bs.length) : (hF bs).data.length = hN bs := by
  show ((bs.drop 9).take (hN bs)).length = _
  rw [List.length_take, List.length_drop]; omega
theorem hF_right {bs : List B8} (h : hN bs + 9 ≤ bs.length) (h2 : hN bs ≤ 262144) : RightF (hF bs) := by
  refine ⟨Int.natCast_nonneg _, ?_, by rw [hF_len h]; exact h2⟩
  show (((bs.getD 4 0#8).toNat : Nat) : Int) ≤ 255
  have := (bs.getD 4 0#8).isLt
  omega
theorem beg_len {bs : List B8} (h : hN bs + 9 ≤ bs.length) : (bytesF (hF bs)).length = 9 + hN bs := by rw [bytesF_len, hF_len h]
/-- Bytes that begin as their frame does. -/
theorem beg_yes {bs : List B8} (h : hN bs + 9 ≤ bs.length) (h2 : hN bs ≤ 262144) (he : ∀ i, i < 9 + hN bs → (bytesF (hF bs)).getD i 0#8 = bs.getD i 0#8) : nextF bs = some (hF bs, bs.drop (9 + hN bs)) := by
  have hb : bytesF (hF bs) = bs.take (9 + hN bs) := by
    apply List.ext_getElem
    · rw [beg_len h, List.length_take]; omega
    · intro i h1 h3
      rw [beg_len h] at h1
      have := he i h1
      have hib : i < bs.length := by omega
      have hif : i < (bytesF (hF bs)).length := by rw [beg_len h]; exact h1
      rw [List.getD_eq_getElem?_getD, List.getD_eq_getElem?_getD, List.getElem?_eq_getElem hif, List.getElem?_eq_getElem hib] at this
      simpa using this
  have h4 := next_bytes (hF bs) (bs.drop (9 + hN bs)) (hF_right h h2)
  rw [hb, List.take_append_drop] at h4
  exact h4
theorem beg_no {bs : List B8} {i : Nat} (h : hN bs + 9 ≤ bs.length) (hi : i < 9 + hN bs) (he : (bytesF (hF bs)).getD i 0#8 ≠ bs.getD i 0#8) : nextF bs = none := by
  cases hn : nextF bs with
  | none => rfl
  | some p =>
    obtain ⟨g, r⟩ := p
    obtain ⟨-, -, -, hg, hb⟩ := next_hF hn
    subst hg
    refine absurd ?_ he
    have hif : i < (bytesF (hF bs)).length := by rw [beg_len h]; exact hi
    conv => rhs; rw [hb]
    rw [List.getD_eq_getElem?_getD, List.getD_eq_getElem?_getD, List.getElem?_append_left hif]
theorem beg_far {bs : List B8} (h : ¬ (hN bs + 9 ≤ bs.length ∧ hN bs ≤ 262144)) : nextF bs = none := by
  cases hn : nextF bs with
  | none => rfl
  | some p =>
    obtain ⟨g, r⟩ := p
    obtain ⟨-, h1, h2, -, -⟩ := next_hF hn
    exact absurd ⟨h2, h1⟩ h
end Go.Proofs.YtpebnlddmjfomaaDoor
