/- The contract of the document's own sum of parts, which lays all parts behind each other first. -/
import Derived.Test.YtpebnlddmjfomaaDoorRc
import Derived.Laws.AppendOwnNone
namespace Go.Proofs.YtpebnlddmjfomaaDoor
open Go.RowKit

theorem wpList_appN {ops : Array Oper} {rest : List Oper} {o : Oper} {a : Act} {w : World} {Q : Exit → Act → World → Prop} (hgd : o.guard = none) (s x : Operand)
    (ho : o.op = .call { callee := .builtin .append, args := #[s, x], argTypes := #[23, 23] })
    (base : Nat) (v : Value) (xs ys : List B8) (vx : Value) (hs : a.eval s = v) (hx : a.eval x = vx) (hown : OwnN w base v xs) (hy : BytesIn w vx ys)
    (hlen : xs.length + ys.length ≤ 140737488351232) (hbase : base ≤ w.heap.size)
    (h : ∀ A c w', OwnN w' base (.slice A (xs.length + ys.length) c) (xs ++ ys) → Below base w w' → wpList Tryd.prog ops Q rest (a.put o.dst (.slice A (xs.length + ys.length) c)) w') : wpList Tryd.prog ops Q (o :: rest) a w := by
  obtain ⟨i0, hi, hz0, hz1, hz2⟩ := info_parts info5
  have hlate : ∀ v' w', w'.ownsRow base 5 1 v' (xs.length + ys.length) (xs.map bv ++ ys.map bv) → w.grownBy w' v.ownBlock → wpList Tryd.prog ops Q rest (a.put o.dst v') w' := by
    intro v' w' h2 h3
    have hb : Below base w w' := (Below.refl base w).grown h3 hbase (fun k hk => (World.ownsRow.lt hown k hk).1)
    have h2' : OwnN w' base v' (xs ++ ys) := by unfold OwnN; rw [List.map_append, List.length_append]; exact h2
    obtain ⟨A, c, rfl⟩ := h2'.form
    rw [List.length_append] at h2' ⊢
    exact h A c w' h2' hb
  rcases hy with ⟨rfl, A, c, rfl, hA⟩ | ⟨b, off, c, rfl, -, hm, hc⟩
  · cases A with
    | some ad =>
      refine wpList_append_own _ hgd s x 23 ho base 5 i0 (.int .u8 0) 1 1 Tryd.underlying23 hi hz0 hz1 hz2 rfl (by decide) _ xs.length (xs.map bv) hs hown ad 0 c [] hx rfl (fun j u hu => by simp at hu) (fun u hu => by simp at hu) (by unfold maxLen; simp at hlen; omega) (by simp at hlen; omega) hbase ?_
      intro v' w' h2 h3 _
      exact hlate v' w' h2 h3
    | none =>
      obtain rfl := hA rfl
      refine wpList_append_own_none hgd s x 23 ho base 5 i0 1 Tryd.underlying23 hi _ xs.length (xs.map bv) hs hown hx ?_
      exact hlate v w (by have := hown; unfold OwnN at this; simpa using this) ⟨rfl, rfl, rfl, Nat.le_refl _, fun _ _ _ => rfl⟩
  · refine wpList_append_own _ hgd s x 23 ho base 5 i0 (.int .u8 0) 1 1 Tryd.underlying23 hi hz0 hz1 hz2 rfl (by decide) _ xs.length (xs.map bv) hs hown ⟨b, off, none⟩ ys.length c (ys.map bv) hx (by simp) ?_ ?_ (by unfold maxLen; omega) (by omega) hbase ?_
    · intro j u hu
      have hj : j < ys.length := by
        by_cases hl : j < ys.length
        · exact hl
        · rw [List.getElem?_eq_none (by simp; omega)] at hu; cases hu
      have e : (⟨b, off, none⟩ : Addr).add j = ⟨b, off + j, none⟩ := by unfold Addr.add; split <;> simp_all
      rw [e, hc j hj, ← hu]
      simp [hj, bv]
    · intro u hu
      obtain ⟨y, _, rfl⟩ := List.mem_map.1 hu
      rfl
    · intro v' w' h2 h3 _
      exact hlate v' w' h2 h3

/-- The first k lists, behind each other. -/
def flat (ll : List (List B8)) (k : Nat) : List B8 := (ll.take k).flatten
theorem flat_snoc (ll : List (List B8)) (k : Nat) (h : k < ll.length) : flat ll (k + 1) = flat ll k ++ ll.getD k [] := by
  unfold flat
  rw [List.take_succ_eq_append_getElem h, List.flatten_append]; simp [h]
theorem flat_len (ll : List (List B8)) (k : Nat) (h : k ≤ ll.length) : ll.length + (flat ll k).length = tot ll k := by
  induction k with
  | zero => simp [flat, tot]
  | succ k ih =>
    rw [flat_snoc ll k (by omega), List.length_append, tot, ← ih (by omega)]; omega
theorem part_le (ll : List (List B8)) (k : Nat) (h : k < ll.length) : (ll.getD k []).length ≤ tot ll ll.length := by
  have h1 := tot_le ll (k + 1) (ll.length - (k + 1))
  rw [show k + 1 + (ll.length - (k + 1)) = ll.length by omega, tot] at h1
  omega
theorem len_le (ll : List (List B8)) : ll.length ≤ tot ll ll.length := by
  have := tot_le ll 0 ll.length
  rw [Nat.zero_add] at this
  exact this

set_option maxRecDepth 100000 in
set_option maxHeartbeats 100000000 in
theorem rsum_v (W : World) (v : Value) (ll : List (List B8)) (hr : RowsIn W v ll) (ht : tot ll ll.length ≤ 1000000) :
    Calls Tryd.prog 32 #[v] W fun e w' => e = .returned (.int .u32 (u (more 0#32 ll))) ∧ Ok W w' := by
  have HON : Hid (OwnN W W.heap.size (.slice none 0 0) []) := Lib.hid (World.ownsRow_nil _ _ _ _)
  have HMO : Hid (more 0#32 ll = ~~~ fds (~~~ 0#32) (flat ll ll.length)) := Lib.hid (by rw [more, fdss_flat, flat, List.take_length])
  have HTL : Hid (∀ k, k ≤ ll.length → (flat ll k).length ≤ 1000000) := Lib.hid fun k hk => by
    have h1 := flat_len ll k hk
    have h2 := tot_le ll k (ll.length - k)
    rw [show k + (ll.length - k) = ll.length by omega] at h2
    omega
  clear ht
  rcases hr with ⟨rfl, A0, c0, rfl⟩ | ⟨b, o, c, rfl, hmm, hc⟩
  · have hnl := not_v (~~~ 0#32)
    have HM0 : Hid (more 0#32 [] = ~~~ (~~~ 0#32)) := Lib.hid (by decide)
    go_enter Tryd.func32, Tryd.ntmps32
    go_wp2_with fail
    refine wp_loop_rounds 1 ?_
    rw [rounds_succ]
    go_wp2_with fail
    refine wp_loop_rounds 1 ?_
    rw [rounds_succ]
    go_wp2_with fail
    go_ret
    exact ⟨by rw [HM0.out]; rfl, Ok.refl _⟩
  · have HC := Lib.hid hc
    clear hc
    generalize hn : ll.length = n at *
    have HN := Lib.hid hn
    clear hn
    go_enter Tryd.func32, Tryd.ntmps32
    go_wp2_with fail
    go_loopw [3, 4] (fun x i wr => ∃ (k : Nat) (A : Option Addr) (cc : Nat), k ≤ n ∧ i = .int .i64 k ∧ x = .slice A (flat ll k).length cc ∧ OwnN wr W.heap.size (.slice A (flat ll k).length cc) (flat ll k) ∧ Ok W wr) (fun _ i _ => n - (intOf i).toNat)
    case atStart => exact ⟨0, none, 0, Nat.zero_le _, rfl, by simp [flat], by simpa [flat] using HON.out, Ok.refl _⟩
    case round =>
      obtain ⟨k, A, cc, hk, rfl, rfl, hown, hok⟩ := hrel
      have HOW := Lib.hid hown
      have HOK := Lib.hid hok
      clear hown hok
      by_cases hlt : k < n
      · obtain ⟨x, hx, hbx⟩ := HC.out k hlt
        have hx := HOK.out.cell hx
        obtain ⟨Ax, cx, rfl, _⟩ := hbx.form
        have HB := Lib.hid (HOK.out.bytes hbx)
        clear hbx
        have HFS := Lib.hid (flat_snoc ll k (by have := HN.out; omega))
        have HFL : Hid ((flat ll (k + 1)).length = (flat ll k).length + (ll.getD k []).length) := Lib.hid (by rw [HFS.out, List.length_append])
        have HF1 := Lib.hid (HTL.out (k + 1) (by omega))
        generalize ll.getD k [] = xs at *
        generalize hL1 : flat ll k = fk at *
        have HL1 := Lib.hid hL1
        clear hL1
        go_wp2_with (at_builtin; go_must (refine wpList_appN rfl (.tmp 13) (.tmp 17) rfl W.heap.size (.slice A fk.length cc) fk xs (.slice Ax xs.length cx) rfl rfl HOW.out HB.out (by rw [← HFL.out]; have := HF1.out; omega) HOK.out.size ?_; intro A' c' w6 hown6 hbel6; have HOW6 := Lib.hid hown6; have HOK6 : Hid (Ok W w6) := Lib.hid (Below.trans HOK.out hbel6); clear hown6 hbel6))
        go_roundw
        case rel => exact ⟨k + 1, A', c', by omega, by go_num, by rw [HFL.out], by rw [HFL.out, HFS.out]; exact HOW6.out, HOK6.out⟩
        case measure => simp [intOf]; omega
      · have hke : k = n := by omega
        subst hke
        have HF1 := Lib.hid (HTL.out k (Nat.le_refl _))
        generalize hL1 : flat ll k = fk at *
        have HL1 := Lib.hid hL1
        clear hL1
        have HBY : Hid (BytesIn wr (.slice A fk.length cc) fk) := Lib.hid (HOW.out.bytes (by have := HF1.out; omega))
        generalize hm : fk.length = m at *
        have HM := Lib.hid hm
        clear hm
        have hmb : m ≤ 1000000 := HF1.out
        have h4 : (4294967295 : Int) = u (~~~ 0#32) := by decide
        go_wp2_with fail
        go_loop [5, 6] (fun x i => ∃ j : Nat, j ≤ m ∧ i = .int .i64 j ∧ x = .int .u32 (u (fds (~~~ 0#32) (fk.take j)))) (fun _ i => m - (intOf i).toNat)
        case atStart => exact ⟨0, Nat.zero_le _, rfl, by rfl⟩
        case round =>
          obtain ⟨j, hj, rfl, rfl⟩ := hrel
          by_cases hlj : j < m
          · obtain ⟨-, b', o', rfl, hc'⟩ := same_cells HBY.out rfl j hlj
            have HS : Hid (fds (~~~ 0#32) (fk.take (j + 1)) = fd (fds (~~~ 0#32) (fk.take j)) (fk.getD j 0)) := Lib.hid (fds_snoc _ _ _ (by have := HM.out; omega))
            have hc' : wr.cell? ⟨b', o' + j, none⟩ = some (.int .u8 (ub (fk.getD j 0))) := hc'
            generalize fk.getD j 0 = y at *
            generalize fds (~~~ 0#32) (fk.take j) = r at *
            go_wp2_with fail
            refine (rfeed_v r y _).mono ?_
            rintro e w3 ⟨rfl, rfl⟩
            go_wp2_with fail
            go_round
            case rel => exact ⟨j + 1, by omega, by go_num, by rw [HS.out]⟩
            case measure => simp [intOf]; omega
          · have hje : j = m := by omega
            subst hje
            have HMO2 : Hid (more 0#32 ll = ~~~ fds (~~~ 0#32) (fk.take j)) := Lib.hid (by rw [HMO.out, List.take_of_length_le (by rw [HM.out]; exact Nat.le_refl _)])
            generalize fds (~~~ 0#32) (fk.take j) = r at *
            have hnl := not_v r
            go_wp2_with fail
            go_ret
            exact ⟨by rw [HMO2.out]; rfl, HOK.out⟩
end Go.Proofs.YtpebnlddmjfomaaDoor
