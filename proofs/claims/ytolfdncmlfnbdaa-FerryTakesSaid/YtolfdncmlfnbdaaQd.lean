/- Contracts of the law's own helpers, and of a row's copy. -/
import Derived.Test.YtolfdncmlfnbdaaQc
import Derived.Laws.OwnMore
import Derived.Lib.BufferMore
namespace Go.Proofs.Ytolfdncmlfnbdaa
open Go.RowKit

/-- The value v is a configuration in memory: this. -/
def CfgIn (w : World) (v : Value) (c : Cfg) : Prop := ∃ a b d e, v = .agg #[a, b, d, e] ∧ InI w a c.vs ∧ InI w b c.os ∧ InI w d c.ls ∧ InI w e c.ws
theorem Ok.cfg {w w' : World} {v : Value} {c : Cfg} (h : Ok w w') (t : CfgIn w v c) : CfgIn w' v c := by
  obtain ⟨a, b, d, e, rfl, h1, h2, h3, h4⟩ := t
  exact ⟨a, b, d, e, rfl, h.ints h1, h.ints h2, h.ints h3, h.ints h4⟩

theorem info3z : (Try.prog.info? 3).map (fun i => (i.zero, i.size, i.bytes)) = some (some (.int .i64 0), 1, 8) := by kernel_rfl
/-- A row of the call's own, from block base on, that holds these numbers; it may be nil. -/
def OwnZ (w : World) (base : Nat) (v : Value) (xs : List Int) : Prop := w.ownsRow base 3 1 v xs.length (xs.map zv)
theorem OwnZ.form {w : World} {base : Nat} {v : Value} {xs : List Int} (h : OwnZ w base v xs) : ∃ A c, v = .slice A xs.length c := by
  rcases h.2 with ⟨rfl, h0⟩ | ⟨g, cap, cur, rfl, _⟩
  · exact ⟨none, 0, by rw [h0]⟩
  · exact ⟨_, _, rfl⟩
theorem OwnZ.ints {w : World} {base : Nat} {v : Value} {xs : List Int} (h : OwnZ w base v xs) (hm : xs.length ≤ 17592186044416) : InI w v xs := by
  rcases h.2 with ⟨rfl, h0⟩ | ⟨g, cap, cur, rfl, _, _, hn, _⟩
  · exact .inl ⟨List.length_eq_zero_iff.1 h0, _, _, rfl, fun _ => rfl⟩
  · refine .inr ⟨g, 0, cap, rfl, hn, hm, fun i hi => ?_⟩
    rw [Nat.zero_add, World.ownsRow.cellAt h i (by omega)]
    simp [hi, zv]
theorem OwnZ.nil (w : World) (base : Nat) : OwnZ w base (.slice none 0 0) [] := World.ownsRow_nil _ _ _ _
theorem OwnZ.made (w : World) (base : Nat) (hb : base ≤ w.heap.size) : OwnZ (w.alloc (.cells #[] 3)) base (.slice (some ⟨w.heap.size, 0, none⟩) 0 0) [] := by
  have := World.ownsRow_lit (base := base) (e := 3) (size := 1) w #[] 0 hb (by decide) (by decide)
  exact this
theorem OwnZ.ok {w w' : World} {base : Nat} {v : Value} {xs : List Int} (h : OwnZ w base v xs) (k : Ok w w') : OwnZ w' base v xs := by
  refine ⟨h.1, ?_⟩
  rcases h.2 with h0 | ⟨g, cap, cur, rfl, hb, hg, hr⟩
  · exact .inl h0
  · refine .inr ⟨g, cap, cur, rfl, hb, ?_, hr⟩
    have hlt : g < w.heap.size := (Array.getElem?_eq_some_iff.1 hg).1
    obtain ⟨_, _, _, _, h5⟩ := k
    rw [← hg]; exact h5 g hlt
theorem wpList_appZ {ops : Array Oper} {rest : List Oper} {o : Oper} {a : Act} {w : World} {Q : Exit → Act → World → Prop} (hgd : o.guard = none) (s x : Operand)
    (ho : o.op = .call { callee := .builtin .append, args := #[s, x], argTypes := #[22, 22] })
    (base : Nat) (v : Value) (xs ys : List Int) (vx : Value) (hs : a.eval s = v) (hx : a.eval x = vx) (hown : OwnZ w base v xs) (hy : InI w vx ys)
    (hlen : xs.length + ys.length ≤ 1000000) (hbase : base ≤ w.heap.size)
    (h : ∀ A c w', OwnZ w' base (.slice A (xs.length + ys.length) c) (xs ++ ys) → Below base w w' → wpList Try.prog ops Q rest (a.put o.dst (.slice A (xs.length + ys.length) c)) w') : wpList Try.prog ops Q (o :: rest) a w := by
  obtain ⟨i0, hi, hz0, hz1, hz2⟩ := info_parts info3z
  have hlate : ∀ v' w', w'.ownsRow base 3 1 v' (xs.length + ys.length) (xs.map zv ++ ys.map zv) → w.grownBy w' v.ownBlock → wpList Try.prog ops Q rest (a.put o.dst v') w' := by
    intro v' w' h2 h3
    have hb : Below base w w' := (Below.refl base w).grown h3 hbase (fun k hk => (World.ownsRow.lt hown k hk).1)
    have h2' : OwnZ w' base v' (xs ++ ys) := by unfold OwnZ; rw [List.map_append, List.length_append]; exact h2
    obtain ⟨A, c, rfl⟩ := h2'.form
    rw [List.length_append] at h2' ⊢
    exact h A c w' h2' hb
  rcases hy with ⟨rfl, A, c, rfl, hA⟩ | ⟨b, off, c, rfl, _, hm, hc⟩
  · cases A with
    | some ad =>
      refine wpList_append_own _ hgd s x 22 ho base 3 i0 (.int .i64 0) 1 8 Try.underlying22 hi hz0 hz1 hz2 rfl (by decide) _ xs.length (xs.map zv) hs hown ad 0 c [] hx rfl (fun j u hu => by simp at hu) (fun u hu => by simp at hu) (by unfold maxLen; simp at hlen; omega) (by simp at hlen; omega) hbase ?_
      intro v' w' h2 h3 _
      exact hlate v' w' h2 h3
    | none =>
      obtain rfl := hA rfl
      refine wpList_append_own_none hgd s x 22 ho base 3 i0 1 Try.underlying22 hi _ xs.length (xs.map zv) hs hown hx ?_
      exact hlate v w (by have := hown; unfold OwnZ at this; simpa using this) ⟨rfl, rfl, rfl, Nat.le_refl _, fun _ _ _ => rfl⟩
  · refine wpList_append_own _ hgd s x 22 ho base 3 i0 (.int .i64 0) 1 8 Try.underlying22 hi hz0 hz1 hz2 rfl (by decide) _ xs.length (xs.map zv) hs hown ⟨b, off, none⟩ ys.length c (ys.map zv) hx (by simp) ?_ ?_ (by unfold maxLen; omega) (by omega) hbase ?_
    · intro j u hu
      have hj : j < ys.length := by
        by_cases hl : j < ys.length
        · exact hl
        · rw [List.getElem?_eq_none (by simp; omega)] at hu; cases hu
      have e : (⟨b, off, none⟩ : Addr).add j = ⟨b, off + j, none⟩ := by unfold Addr.add; split <;> simp_all
      rw [e, hc j hj, ← hu]
      simp [hj, zv]
    · intro u hu
      obtain ⟨y, _, rfl⟩ := List.mem_map.1 hu
      rfl
    · intro v' w' h2 h3 _
      exact hlate v' w' h2 h3

set_option maxHeartbeats 400000 in
theorem clone_q (v : Value) (xs : List Int) (W : World) (h : InI W v xs) (hl : xs.length ≤ 1000) :
    Calls Try.prog 104 #[v] W fun e w' => (∃ A cc, e = .returned (.slice A xs.length cc) ∧ OwnZ w' W.heap.size (.slice A xs.length cc) xs) ∧ Ok W w' := by
  have HA := Lib.hid h
  by_cases hv : ∃ c, v = .slice none 0 c
  · obtain ⟨c, rfl⟩ := hv
    have hx : xs = [] ∧ c = 0 := by
      rcases h with ⟨rfl, A, c', he, hc⟩ | ⟨b, o, c', he, _⟩
      · simp only [Value.slice.injEq] at he
        obtain ⟨rfl, _, rfl⟩ := he
        exact ⟨rfl, hc rfl⟩
      · simp at he
    obtain ⟨rfl, rfl⟩ := hx
    clear h HA
    have heq := fun w => Lib.run_eql_slice_nil_nil (P := Try.prog) w 0 0 Try.underlying22
    go_enter Try.func104, Try.ntmps104
    go_wp2_with fail
    go_ret
    exact ⟨⟨none, 0, rfl, OwnZ.nil _ _⟩, Ok.refl _⟩
  · have hv2 : ∃ ad c, v = .slice (some ad) xs.length c := by
      rcases h with ⟨rfl, A, c', rfl, hc⟩ | ⟨b, o, c', rfl, _⟩
      · cases A with
        | none => exact absurd ⟨c', rfl⟩ hv
        | some ad => exact ⟨ad, c', rfl⟩
      · exact ⟨_, _, rfl⟩
    obtain ⟨ad, c, rfl⟩ := hv2
    clear h hv
    have HO : Hid (OwnZ (W.alloc (.cells #[] 3)) W.heap.size (.slice (some ⟨W.heap.size, 0, none⟩) 0 0) []) := Lib.hid (OwnZ.made W _ (Nat.le_refl _))
    have HX : Hid (InI (W.alloc (.cells #[] 3)) (.slice (some ad) xs.length c) xs) := Lib.hid (((Ok.refl W).alloc _).ints HA.out)
    generalize hL : xs.length = L at *
    have HL := Lib.hid hL
    clear hL
    have heq := fun w => Lib.run_eql_slice_some_nil (P := Try.prog) w ad L c Try.underlying22
    go_enter Try.func104, Try.ntmps104
    go_wp2_with (at_builtin; go_must (refine wpList_appZ rfl (.tmp 5) (.tmp 6) rfl W.heap.size (.slice (some ⟨W.heap.size, 0, none⟩) 0 0) [] xs (.slice (some ad) L c) rfl rfl HO.out HX.out (by rw [HL.out]; simp; omega) (by rw [World.size_alloc]; omega) ?_; intro A' c' w2 hown2 hbel2; simp only [List.nil_append, List.length_nil, Nat.zero_add] at hown2 ⊢; have HOWN2 := Lib.hid hown2; have HBEL2 := Lib.hid hbel2; clear hown2 hbel2; rw [HL.out]))
    go_ret
    exact ⟨⟨_, _, rfl, by have := HOWN2.out; rwa [HL.out] at this⟩, Below.trans ((Ok.refl W).alloc _) HBEL2.out⟩

set_option maxHeartbeats 400000 in
theorem joint_q (v : Value) (c : Cfg) (W : World) (h : CfgIn W v c) :
    Calls Try.prog 109 #[v] W fun e w' => e = .returned (.bool (!noB c.os)) ∧ Ok W w' := by
  obtain ⟨a, b, d, f, rfl, _, h2, _, _⟩ := h
  obtain ⟨B, cb, rfl, hm⟩ := h2.form
  have HE : Hid ((!noB c.os) = decide (0 < c.os.length)) := Lib.hid (by
    unfold noB
    by_cases h0 : c.os.length = 0
    · rw [decide_eq_true h0, decide_eq_false (by omega)]; rfl
    · rw [decide_eq_false h0, decide_eq_true (by omega)]; rfl)
  clear h2
  generalize c.os.length = n at *
  go_enter Try.func109, Try.ntmps109
  go_wp2_with fail
  go_ret
  exact ⟨by rw [HE.out]; rfl, (Ok.refl W).alloc _⟩
end Go.Proofs.Ytolfdncmlfnbdaa
