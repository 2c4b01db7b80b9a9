/- Acts lent, with marks behind them. -/
import Derived.Test.YthbbbjkgfdnkhaaDoorBc
import Derived.Laws.AppendOwnNone
namespace Go.Proofs.YthbbbjkgfdnkhaaDoor
open Go.RowKit
theorem flat4_at : ∀ (l : List Ac) (j : Nat), j < l.length → (flat4 l)[j * 4]? = some (.int .u8 (atA l j).kind) ∧ (flat4 l)[j * 4 + 1]? = some (.string (atA l j).key) ∧ (flat4 l)[j * 4 + 2]? = some (.string (atA l j).value) ∧ (flat4 l)[j * 4 + 3]? = some (.int .i64 (atA l j).num)
  | [], _, h => absurd h (Nat.not_lt_zero _)
  | x :: l, 0, _ => ⟨rfl, rfl, rfl, rfl⟩
  | x :: l, j + 1, h => by
    have h2 := flat4_at l j (Nat.lt_of_succ_lt_succ h)
    have e : flat4 (x :: l) = .int .u8 x.kind :: .string x.key :: .string x.value :: .int .i64 x.num :: flat4 l := rfl
    have e2 : (j + 1) * 4 = j * 4 + 1 + 1 + 1 + 1 := by omega
    rw [e, e2]
    exact h2
theorem OwnA.at {w : World} {B : Nat} {A : Option Addr} {n c : Nat} {l : List Ac} (h : OwnA w B A n c l) : ActsAt w A l := fun j hj => by
  obtain ⟨h1, rfl⟩ := h
  rcases h1.2 with ⟨_, h5⟩ | ⟨g, cap, cur, e, r⟩
  · rw [h5] at hj; exact absurd hj (Nat.not_lt_zero _)
  · simp only [Value.slice.injEq] at e
    obtain ⟨rfl, -, rfl⟩ := e
    obtain ⟨a, b, c, d⟩ := flat4_at l j hj
    refine ⟨g, 0, rfl, ?_, ?_, ?_, ?_⟩
    · rw [World.ownsRow.cellAt h1 (0 + j * 4) (by omega), Nat.zero_add]; exact a
    · rw [World.ownsRow.cellAt h1 (0 + j * 4 + 1) (by omega), Nat.zero_add]; exact b
    · rw [World.ownsRow.cellAt h1 (0 + j * 4 + 2) (by omega), Nat.zero_add]; exact c
    · rw [World.ownsRow.cellAt h1 (0 + j * 4 + 3) (by omega), Nat.zero_add]; exact d
theorem OwnA.form {w : World} {B : Nat} {A : Option Addr} {n c : Nat} {xs : List Ac} (h : OwnA w B A n c xs) (hp : 0 < xs.length) : ∃ g, A = Option.some ⟨g, 0, none⟩ ∧ xs.length ≤ c ∧ B ≤ g := by
  obtain ⟨h1, rfl⟩ := h
  rcases h1.2 with ⟨e, h5⟩ | ⟨g, cap, cur, e, r1, r2, r3, r4, r5⟩
  · omega
  · simp only [Value.slice.injEq] at e
    obtain ⟨rfl, -, rfl⟩ := e
    exact ⟨g, rfl, by omega, r1⟩
theorem flat4_cell {w : World} {b off : Nat} : ∀ {l : List Ac}, ActsAt w (some ⟨b, off, none⟩) l → ∀ j u, (flat4 l)[j]? = some u → w.cell? ⟨b, off + j, none⟩ = some u := fun {l} h j u hu => by
  have hj := (List.getElem?_eq_some_iff.1 hu).1
  rw [flat4_len] at hj
  obtain ⟨b', off', e, h0, h1, h2, h3⟩ := h (j / 4) (by omega)
  simp only [Option.some.injEq, Addr.mk.injEq, and_true] at e
  obtain ⟨rfl, rfl⟩ := e
  obtain ⟨a, b2, c, d⟩ := flat4_at l (j / 4) (by omega)
  have hm : j % 4 = 0 ∨ j % 4 = 1 ∨ j % 4 = 2 ∨ j % 4 = 3 := by omega
  rcases hm with hm | hm | hm | hm
  · have e : j / 4 * 4 = j := by omega
    rw [e] at a h0; rw [h0, ← a]; exact hu
  · have e : j / 4 * 4 + 1 = j := by omega
    rw [e] at b2; rw [Nat.add_assoc, e] at h1; rw [h1, ← b2]; exact hu
  · have e : j / 4 * 4 + 2 = j := by omega
    rw [e] at c; rw [Nat.add_assoc, e] at h2; rw [h2, ← c]; exact hu
  · have e : j / 4 * 4 + 3 = j := by omega
    rw [e] at d; rw [Nat.add_assoc, e] at h3; rw [h3, ← d]; exact hu
/-- Acts of any address appended; nil too. -/
theorem wpList_appAN {ops : Array Oper} {rest : List Oper} {o : Oper} {a : Act} {w : World} {Q : Exit → Act → World → Prop} (hgd : o.guard = none) (s x : Operand)
    (ho : o.op = .call { callee := .builtin .append, args := #[s, x], argTypes := #[22, 22] })
    (base : Nat) (A : Option Addr) (n c : Nat) (xs : List Ac) (hs : a.eval s = .slice A n c) (hown : OwnA w base A n c xs)
    (A2 : Option Addr) (m c2 : Nat) (ys : List Ac) (hx : a.eval x = .slice A2 m c2) (hm : ys.length = m) (hnil : A2 = none → c2 = 0) (hnews : ActsAt w A2 ys) (hlen : xs.length + m ≤ 100000) (hbase : base ≤ w.heap.size)
    (hk : ∀ A' c' w', OwnA w' base A' (n + m) c' (xs ++ ys) → Below base w w' → wpList Tryd.prog ops Q rest (a.put o.dst (.slice A' (n + m) c')) w') : wpList Tryd.prog ops Q (o :: rest) a w := by
  obtain ⟨i0, hi, hz0, hz1, hz2⟩ := info_parts info52
  obtain ⟨hown, rfl⟩ := hown
  have late : ∀ v' w', w'.ownsRow base 52 4 v' (xs.length + m) (flat4 xs ++ flat4 ys) → w.grownBy w' (Value.ownBlock (.slice A xs.length c)) → wpList Tryd.prog ops Q rest (a.put o.dst v') w' := by
    intro v' w' h2 h3
    have hb : Below base w w' := (Below.refl base w).grown h3 hbase (fun k hk => (World.ownsRow.lt hown k hk).1)
    rw [← hm, ← flat4_append, ← List.length_append] at h2
    obtain ⟨A', c', rfl⟩ : ∃ A' c', v' = .slice A' (xs.length + m) c' := by
      rcases h2.2 with ⟨rfl, h5⟩ | ⟨g', cap', cur, rfl, _⟩
      · exact ⟨none, 0, by rw [List.length_append] at h5; rw [← hm, h5]⟩
      · exact ⟨_, _, by rw [List.length_append, hm]⟩
    exact hk A' c' w' ⟨h2, by rw [List.length_append, hm]⟩ hb
  cases A2 with
  | none =>
    obtain rfl : ys = [] := by
      cases ys with
      | nil => rfl
      | cons y ys => obtain ⟨_, _, e, _⟩ := hnews 0 (by simp); cases e
    obtain rfl : m = 0 := hm.symm
    obtain rfl := hnil rfl
    refine wpList_append_own_none hgd s x 22 ho base 52 i0 4 Tryd.underlying22 hi _ xs.length (flat4 xs) hs hown hx ?_
    exact late _ w (by simpa [flat4] using hown) ⟨rfl, rfl, rfl, Nat.le_refl _, fun _ _ _ => rfl⟩
  | some ad =>
    have hin : ∀ j u, (flat4 ys)[j]? = some u → w.cell? (ad.add j) = some u := by
      cases ys with
      | nil => intro j u hu; simp [flat4] at hu
      | cons y ys =>
        obtain ⟨b, off, e, _⟩ := hnews 0 (by simp)
        simp only [Option.some.injEq] at e
        subst e
        intro j u hu
        have e2 : (⟨b, off, none⟩ : Addr).add j = ⟨b, off + j, none⟩ := by unfold Addr.add; split <;> simp_all
        rw [e2]
        exact flat4_cell hnews j u hu
    refine wpList_append_own_at _ hgd s x 22 ho base 52 i0 (.agg #[.int .u8 0, .string ⟨#[]⟩, .string ⟨#[]⟩, .int .i64 0]) 4 48 Tryd.underlying22 hi hz0 hz1 hz2 rfl (by decide) _ xs.length (flat4 xs) hs hown ad m c2 (flat4 ys) hx (by rw [flat4_len, hm]) hin (flat4_one ys) (by unfold maxLen; omega) (by omega) hbase ?_
    intro v' w' h2 h3 _ _
    exact late v' w' h2 h3
def marksA (m : Nat) : List Ac := (List.range m).map (markA 1)
theorem marksA_len (m : Nat) : (marksA m).length = m := by simp [marksA]
theorem marksA_succ (m : Nat) : marksA (m + 1) = marksA m ++ [markA 1 m] := by simp [marksA, List.range_succ]
/-- What LentActs leaves: the acts, in a new row, with twelve marks behind them. -/
def LentP (w : World) (zs : List Ac) : Ending → World → Prop := fun e w' => ∃ g cap, e = .returned (.slice (some ⟨g, 0, none⟩) zs.length cap) ∧ zs.length + 12 ≤ cap ∧ w.heap.size ≤ g ∧ g < w'.heap.size ∧ Ok w w' ∧ ActsAt w' (some ⟨g, 0, none⟩) (zs ++ marksA 12)
theorem one_act (w : World) (y : Ac) : ActsAt (w.alloc (.cells #[.int .u8 y.kind, .string y.key, .string y.value, .int .i64 y.num] 52)) (some ⟨w.heap.size, 0, none⟩) [y] := fun j hj => by
  obtain rfl : j = 0 := by simpa using hj
  have h := blk_new (w := w) (o := .cells #[.int .u8 y.kind, .string y.key, .string y.value, .int .i64 y.num] 52) rfl
  refine ⟨_, 0, rfl, ?_, ?_, ?_, ?_⟩ <;> (rw [cell_of_heap h]; rfl)
set_option maxRecDepth 100000 in
set_option maxHeartbeats 4000000 in
theorem lent_w (A : Option Addr) (n c : Nat) (zs : List Ac) (hn : zs.length = n) (hn6 : n ≤ 10000) (w : World) (hI : ActsAt w A zs) (hA0 : A = none → c = 0) : Calls Tryd.prog 10 #[.slice A n c] w (LentP w zs) := by
  have H := Lib.hid hI
  have HA0 := Lib.hid hA0
  have HN := Lib.hid hn
  clear hI hn hA0
  obtain ⟨i0, hi, hz0, hz1, hz2⟩ := info_parts info52
  have HI := Lib.hid hi
  have HZ0 := Lib.hid hz0
  have HZ1 := Lib.hid hz1
  have HZ2 := Lib.hid hz2
  clear hi hz0 hz1 hz2
  go_enter Tryd.func10, Tryd.ntmps10
  go_wp2_with (first
    | (at_make; go_must (refine wpList_make_own _ rfl _ _ 22 rfl w.heap.size 52 i0 (.agg #[.int .u8 0, .string ⟨#[]⟩, .string ⟨#[]⟩, .int .i64 0]) 4 Tryd.underlying22 HI.out HZ0.out HZ1.out .i64 .i64 _ (n + 12) rfl rfl (by first | rfl | simp | (push_cast; omega)) (by rw [HZ2.out]; omega) (by unfold maxLen; omega) (Nat.le_refl _) ?_; intro w0 hown0 hgrow0; have HOW0 : Hid (OwnA w0 w.heap.size (some ⟨w.heap.size, 0, none⟩) 0 (n + 12) []) := Lib.hid ⟨hown0, rfl⟩; have HB0 : Hid (Ok w w0) := Lib.hid ((Below.refl _ _).grown hgrow0 (Nat.le_refl _) (fun k hk => by cases hk)); clear hown0 hgrow0))
    | (at_builtin; go_must (refine wpList_appAN rfl (.tmp 9) (.tmp 10) rfl w.heap.size _ _ _ [] rfl HOW0.out A n c zs rfl HN.out HA0.out (H.out.ok HB0.out) (by simp; omega) HB0.out.size ?_; intro A1 c1 w1 hown1 hbel1; simp only [List.nil_append, Nat.zero_add] at hown1 ⊢; have HOW1 := Lib.hid hown1; have HB1 : Hid (Ok w w1) := Lib.hid (Below.trans HB0.out hbel1); clear hown1 hbel1)))
  go_loopw [3, 4] (fun o i wr => ∃ (j : Nat) (A2 : Option Addr) (n2 c2 : Nat), j ≤ 12 ∧ i = .int .i64 j ∧ o = .slice A2 n2 c2 ∧ OwnA wr w.heap.size A2 n2 c2 (zs ++ marksA j) ∧ Ok w wr) (fun _ i _ => 12 - (intOf i).toNat)
  case atStart => exact ⟨0, A1, _, c1, by omega, rfl, rfl, by simpa [marksA] using HOW1.out, HB1.out⟩
  case round =>
    obtain ⟨j, A2, n2, c2, hj, rfl, rfl, hown, hok⟩ := hrel
    have HOW := Lib.hid hown
    have HOK := Lib.hid hok
    clear hown hok HOW1 HB1 HOW0 HB0
    by_cases hlt : j < 12
    · have HMS := Lib.hid (marksA_succ j)
      have HL : Hid ((zs ++ marksA j).length + 1 ≤ 100000) := Lib.hid (by rw [List.length_append, marksA_len, HN.out]; omega)
      have hd : decide ((j : Int) < 12) = true := decide_eq_true (by omega)
      have hmk := fun w' => markA_w 1 j (by decide) (by omega) w'
      unfold acV at hmk
      obtain ⟨⟨yk, ykey, yval, ynum⟩, hy⟩ : ∃ y, markA 1 j = y := ⟨_, rfl⟩
      rw [hy] at hmk HMS
      simp only at hmk
      clear hy
      go_wp2_with fail
      refine (hmk _).mono ?_
      rintro e w2 ⟨rfl, o2⟩
      have HNEW := Lib.hid (one_act w2 ⟨yk, ykey, yval, ynum⟩)
      have HOWA : Hid (OwnA (w2.alloc (.cells #[.int .u8 yk, .string ykey, .string yval, .int .i64 ynum] 52)) w.heap.size A2 n2 c2 (zs ++ marksA j)) := Lib.hid ((HOW.out.ok o2).alloc _)
      have HOK2 := Lib.hid (Ok.trans HOK.out o2)
      clear o2
      go_wp2_with (at_builtin; go_must (refine wpList_appAN rfl (.tmp 16) (.tmp 19) rfl w.heap.size _ _ _ (zs ++ marksA j) rfl HOWA.out (some ⟨w2.heap.size, 0, none⟩) 1 1 [⟨yk, ykey, yval, ynum⟩] rfl rfl (fun e => by cases e) HNEW.out HL.out (Nat.le_trans HOK2.out.size (by simp)) ?_; intro A3 c3 w3 hown3 hbel3; have HOW3 := Lib.hid hown3; have HB3 : Hid (Ok w w3) := Lib.hid (Below.trans (Ok.alloc HOK2.out _) hbel3); clear hown3 hbel3))
      go_roundw
      case rel => exact ⟨j + 1, A3, _, c3, by omega, by go_num, rfl, by rw [HMS.out, ← List.append_assoc]; exact HOW3.out, HB3.out⟩
      case measure => simp [intOf]; omega
    · have hje : j = 12 := by omega
      subst hje
      have hl : (zs ++ marksA 12).length = n + 12 := by rw [List.length_append, marksA_len, HN.out]
      obtain ⟨g, rfl, hcap, hg⟩ := HOW.out.form (by rw [hl]; omega)
      have hat := HOW.out.at
      have hn2 : n2 = n + 12 := by rw [HOW.out.2, hl]
      subst hn2
      rw [hl] at hcap
      have HCL := Lib.hid hat
      have HG := Lib.hid (And.intro hg (World.ownsRow.lt HOW.out.1 g rfl).2)
      have hi1 : (n : Int) ≤ (c2 : Int) := by omega
      have hn0 : (0 : Int) ≤ (n : Int) := by omega
      have HFIN : Hid (∀ e, e = .returned (.slice (some ⟨g, 0, none⟩) n c2) → LentP w zs e wr) := Lib.hid fun e he => ⟨g, c2, by rw [HN.out]; exact he, by rw [HN.out]; exact hcap, HG.out.1, HG.out.2, HOK.out, HCL.out⟩
      clear hl hat hg hcap HOW
      go_wp2_with fail
      go_ret
      exact HFIN.out _ rfl
end Go.Proofs.YthbbbjkgfdnkhaaDoor
