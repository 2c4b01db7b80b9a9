/- Contracts of the helper that lends lists of lists of bytes, and of the one that looks at them. -/
import Derived.Test.YticmpkpopfkhnaaDoorU2
import Derived.Deep.RegionHeld3
namespace Go.Proofs.YticmpkpopfkhnaaDoor
open Go.RowKit

theorem info34 : (Tryd.prog.info? 34).map (fun i => (i.zero, i.size, i.bytes)) = some (some (.slice none 0 0), 1, 24) := by kernel_rfl
theorem OwnB.ne {w : World} {base base' g cap n : Nat} {zs : List B8} {vo : Value} {vals : List Value} (h : OwnB w base g cap zs) (k : w.ownsRow base' 34 1 vo n vals) : vo.ownBlock ≠ some g := by
  intro e
  rcases k.2 with ⟨rfl, _⟩ | ⟨g', cap', cur, rfl, _, hg', _⟩
  · cases e
  · simp only [Value.ownBlock, Option.some.injEq] at e
    subst e
    rcases h.1.2 with ⟨h1, _⟩ | ⟨g2, cap2, cur2, h1, _, hg2, _⟩
    · cases h1
    · simp only [Value.slice.injEq, Option.some.injEq, Addr.mk.injEq, and_true, true_and] at h1
      obtain ⟨rfl, rfl⟩ := h1
      rw [hg'] at hg2
      simp only [Option.some.injEq, Obj.cells.injEq] at hg2
      have := hg2.2.1
      revert this; decide
theorem OwnB.weak {w : World} {base base' g cap : Nat} {zs : List B8} (h : OwnB w base g cap zs) (hb : base' ≤ base) : OwnB w base' g cap zs := by
  refine ⟨⟨h.1.1, ?_⟩, h.2⟩
  rcases h.1.2 with h1 | ⟨g2, cap2, cur2, h1, h2, h3⟩
  · exact .inl h1
  · exact .inr ⟨g2, cap2, cur2, h1, Nat.le_trans hb h2, h3⟩

/-- The lent lists, at their places. -/
def LentAll (w : World) (base : Nat) (ll : List (List B8)) (vals : List Value) (k : Nat) : Prop :=
  ∀ j, j < k → ∃ g cap, vals[j]? = some (.slice (some ⟨g, 0, none⟩) (ll.getD j []).length cap) ∧ OwnB w base g cap (ll.getD j [] ++ marks 12)
theorem LentAll.ok {w w' : World} {base k : Nat} {ll : List (List B8)} {vals : List Value} (h : LentAll w base ll vals k) (o : Ok w w') : LentAll w' base ll vals k := fun j hj =>
  let ⟨g, cap, h1, h2⟩ := h j hj
  ⟨g, cap, h1, h2.ok o⟩
def LentRows (w : World) (base : Nat) (ll : List (List B8)) (k : Nat) (A : Option Addr) (n c : Nat) : Prop :=
  ∃ vals, w.ownsRow base 34 1 (.slice A n c) k vals ∧ n = k ∧ LentAll w base ll vals k

theorem wpList_appS {ops : Array Oper} {rest : List Oper} {o : Oper} {a : Act} {w : World} {Q : Exit → Act → World → Prop} (hgd : o.guard = none) (s x : Operand)
    (ho : o.op = .call { callee := .builtin .append, args := #[s, x], argTypes := #[22, 22] })
    (base : Nat) (ll : List (List B8)) (k : Nat) (A : Option Addr) (c h g cap : Nat) (hs : a.eval s = .slice A k c) (hx : a.eval x = .slice (some ⟨h, 0, none⟩) 1 1) (hown : LentRows w base ll k A k c)
    (hc : w.cell? ⟨h, 0, none⟩ = some (.slice (some ⟨g, 0, none⟩) (ll.getD k []).length cap)) (hnew : OwnB w base g cap (ll.getD k [] ++ marks 12))
    (hlen : k ≤ 1000000) (hbase : base ≤ w.heap.size)
    (hk : ∀ A' c' w', LentRows w' base ll (k + 1) A' (k + 1) c' → Below base w w' → wpList Tryd.prog ops Q rest (a.put o.dst (.slice A' (k + 1) c')) w') : wpList Tryd.prog ops Q (o :: rest) a w := by
  obtain ⟨i0, hi, hz0, hz1, hz2⟩ := info_parts info34
  obtain ⟨vals, hown, _, hall⟩ := hown
  have hvl : vals.length = k := by simpa using hown.1
  refine wpList_append_own _ hgd s x 22 ho base 34 i0 (.slice none 0 0) 1 24 Tryd.underlying22 hi hz0 hz1 hz2 rfl (by decide) _ k vals hs hown ⟨h, 0, none⟩ 1 1 [.slice (some ⟨g, 0, none⟩) (ll.getD k []).length cap] hx rfl ?_ ?_ (by unfold maxLen; omega) (by omega) hbase ?_
  · intro j u hu
    match j, hu with
    | 0, hu =>
      obtain rfl : u = _ := by simpa using hu.symm
      exact hc
  · intro u hu
    obtain rfl : u = _ := by simpa using hu
    rfl
  · intro v' w' h2 h3 _
    have hb : Below base w w' := (Below.refl base w).grown h3 hbase (fun k hk => (World.ownsRow.lt hown k hk).1)
    obtain ⟨A', c', rfl⟩ : ∃ A' c', v' = .slice A' (k + 1) c' := by
      rcases h2.2 with ⟨_, h5⟩ | ⟨g', cap', cur, rfl, _⟩
      · omega
      · exact ⟨_, _, rfl⟩
    refine hk A' c' w' ⟨_, h2, rfl, ?_⟩ hb
    intro j hj
    have kept : ∀ g cap zs, OwnB w base g cap zs → OwnB w' base g cap zs := fun g cap zs hz =>
      ⟨hz.1.kept h3 (.inr (fun e => hz.ne hown e.symm)), hz.2⟩
    by_cases hjk : j < k
    · obtain ⟨g2, cap2, h4, h5⟩ := hall j hjk
      exact ⟨g2, cap2, by rw [List.getElem?_append_left (by omega)]; exact h4, kept _ _ _ h5⟩
    · obtain rfl : j = k := by omega
      exact ⟨g, cap, by rw [List.getElem?_append_right (by omega), hvl]; simp, kept _ _ _ hnew⟩

def LentRowsPost (W : World) (ll : List (List B8)) (e : Ending) (w' : World) : Prop :=
  ∃ A c, e = .returned (.slice A ll.length c) ∧ LentRows w' W.heap.size ll ll.length A ll.length c ∧ Ok W w'
theorem LentRows.nil (w : World) (base : Nat) (ll : List (List B8)) : LentRows w base ll 0 none 0 0 := ⟨[], World.ownsRow_nil _ _ _ _, rfl, fun j hj => by omega⟩

set_option maxRecDepth 100000 in
set_option maxHeartbeats 2000000 in
theorem lentRows_v (W : World) (v : Value) (ll : List (List B8)) (hr : RowsIn W v ll) (hl : ll.length ≤ 20000) (hx : ∀ k, k < ll.length → (ll.getD k []).length ≤ 20000) :
    Calls Tryd.prog 9 #[v] W (LentRowsPost W ll) := by
  rcases hr with ⟨rfl, A0, c0, rfl⟩ | ⟨b, o, c, rfl, _, hc⟩
  · go_enter Tryd.func9, Tryd.ntmps9
    go_wp2_with fail
    refine wp_loop_rounds 1 ?_
    rw [rounds_succ]
    go_wp2_with fail
    go_ret
    exact ⟨none, 0, rfl, LentRows.nil _ _ _, Ok.refl _⟩
  · have HC := Lib.hid hc
    have HXL := Lib.hid hx
    clear hc hx
    generalize hn : ll.length = n at *
    have HN := Lib.hid hn
    clear hn
    go_enter Tryd.func9, Tryd.ntmps9
    go_wp2_with fail
    go_loopw [3, 4] (fun x i wr => ∃ (k : Nat) (A : Option Addr) (cc : Nat), k ≤ n ∧ i = .int .i64 k ∧ x = .slice A k cc ∧ LentRows wr W.heap.size ll k A k cc ∧ Ok W wr) (fun _ i _ => n - (intOf i).toNat)
    case atStart => exact ⟨0, none, 0, Nat.zero_le _, rfl, rfl, LentRows.nil _ _ _, Ok.refl _⟩
    case round =>
      obtain ⟨k, A, cc, hk, rfl, rfl, hlr, hok⟩ := hrel
      have HLR := Lib.hid hlr
      have HOK := Lib.hid hok
      clear hlr hok
      by_cases hlt : k < n
      · obtain ⟨x, hx, hbx⟩ := HC.out k hlt
        have hx := HOK.out.cell hx
        obtain ⟨Ax, cx, rfl, _⟩ := hbx.form
        have HB := Lib.hid (HOK.out.bytes hbx)
        have HLX := Lib.hid (HXL.out k hlt)
        clear hbx
        go_wp2_with fail
        refine (lentBytes_v _ _ (ll.getD k []) HB.out HLX.out).mono ?_
        rintro e w2 ⟨g, cap, rfl, how, hok2⟩
        have HOW : Hid (OwnB w2 W.heap.size g cap (ll.getD k [] ++ marks 12)) := Lib.hid (how.weak HOK.out.size)
        have HOK2 := Lib.hid hok2
        clear how hok2
        have hnew := C.new (w := w2) w2.heap.size 0 #[.slice (some ⟨g, 0, none⟩) (ll.getD k []).length cap] 34 (0, 0) rfl rfl
        have HNEW := Lib.hid hnew
        clear hnew
        have HLR2 : Hid (LentRows (w2.alloc (.cells #[.slice (some ⟨g, 0, none⟩) (ll.getD k []).length cap] 34)) W.heap.size ll k A k cc) := Lib.hid (by
          obtain ⟨vals, h1, h2, h3⟩ := HLR.out
          have hokk : Ok wr (w2.alloc (.cells #[.slice (some ⟨g, 0, none⟩) (ll.getD k []).length cap] 34)) := HOK2.out.alloc _
          exact ⟨vals, h1.kept (row := none) ⟨hokk.os, hokk.tape, hokk.output, hokk.size, fun i hi _ => hokk.block i hi⟩ (by cases hA : Value.ownBlock (.slice A k cc) <;> simp), h2, h3.ok hokk⟩)
        have HOWA : Hid (OwnB (w2.alloc (.cells #[.slice (some ⟨g, 0, none⟩) (ll.getD k []).length cap] 34)) W.heap.size g cap (ll.getD k [] ++ marks 12)) := Lib.hid (HOW.out.ok ((Ok.refl w2).alloc _))
        have HSZ : Hid (W.heap.size ≤ (w2.alloc (.cells #[.slice (some ⟨g, 0, none⟩) (ll.getD k []).length cap] 34)).heap.size) := Lib.hid (Nat.le_trans HOK.out.size (HOK2.out.alloc _).size)
        go_wp2_with (at_builtin; go_must (refine wpList_appS rfl (.tmp 11) (.tmp 17) rfl W.heap.size ll k A cc w2.heap.size g cap rfl rfl HLR2.out HNEW.out HOWA.out (by omega) HSZ.out ?_; intro A' c' w6 hlr6 hbel6; have HLR6 := Lib.hid hlr6; have HOK6 : Hid (Ok W w6) := Lib.hid (Below.trans ((HOK.out.trans HOK2.out).alloc _) hbel6); clear hlr6 hbel6))
        go_roundw
        case rel => exact ⟨k + 1, A', c', by omega, by go_num, rfl, HLR6.out, HOK6.out⟩
        case measure => simp [intOf]; omega
      · have hke : k = n := by omega
        subst hke
        go_wp2_with fail
        go_ret
        exact ⟨A, cc, by rw [HN.out]; rfl, by rw [HN.out]; exact HLR.out, HOK.out⟩
end Go.Proofs.YticmpkpopfkhnaaDoor
