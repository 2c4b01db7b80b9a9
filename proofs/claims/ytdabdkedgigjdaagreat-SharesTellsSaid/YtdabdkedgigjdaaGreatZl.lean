/- Shares lent, with marks behind them; whether they are kept; shares written over. -/
import Derived.Test.YtdabdkedgigjdaaGreatSw
import Derived.Test.YtdabdkedgigjdaaGreatYp
import Derived.Laws.AppendOwnNone
import Derived.Deep.RegionHeld3
namespace Go.Proofs.YtdabdkedgigjdaaGreat
open Go.RowKit

def markSh (i : Nat) : Sh := ⟨allS, 0, 8000024 + (i : Int)⟩
def markSh2 (i : Nat) : Sh := ⟨allS, 0, 9000027 + (i : Int)⟩
set_option maxHeartbeats 1000000 in
theorem markSh_w (i : Nat) (h : i < 100000) (w : World) : Calls Tryz.prog 95 #[.int .i64 1, .int .i64 (i : Int)] w (Ret w (shV (markSh i))) := by
  have h0 : (0 : Int) ≤ (i : Int) := Int.natCast_nonneg _
  have h1 : (i : Int) < 100000 := by omega
  unfold markSh shV allS
  simp only
  have hm : ∀ w', Calls Tryz.prog 123 #[.int .i64 1, .int .i64 (i : Int)] w' fun e w'' => e = .returned (.int .i64 (8000024 + (i : Int))) ∧ w' = w'' := fun w' => by
    go_enter Tryz.func123, Tryz.ntmps123
    go_wp2
    go_ret
    exact ⟨by go_num, rfl⟩
  generalize (8000024 + (i : Int)) = y at *
  go_enter Tryz.func95, Tryz.ntmps95
  go_wp2_with fail
  refine (hm _).mono ?_
  rintro _ w1 ⟨rfl, rfl⟩
  go_wp2_with fail
  refine bodyPost_ret (by simp [results, Tryz.results95, go_sem]; try rfl) rfl ?_
  exact ⟨rfl, Ok.alloc (Ok.refl _) _⟩
set_option maxHeartbeats 1000000 in
theorem markSh2_w (i : Nat) (h : i < 100000) (w : World) : Calls Tryz.prog 95 #[.int .i64 2, .int .i64 (i : Int)] w (Ret w (shV (markSh2 i))) := by
  have h0 : (0 : Int) ≤ (i : Int) := Int.natCast_nonneg _
  have h1 : (i : Int) < 100000 := by omega
  unfold markSh2 shV allS
  simp only
  have hm : ∀ w', Calls Tryz.prog 123 #[.int .i64 2, .int .i64 (i : Int)] w' fun e w'' => e = .returned (.int .i64 (9000027 + (i : Int))) ∧ w' = w'' := fun w' => by
    go_enter Tryz.func123, Tryz.ntmps123
    go_wp2
    go_ret
    exact ⟨by go_num, rfl⟩
  generalize (9000027 + (i : Int)) = y at *
  go_enter Tryz.func95, Tryz.ntmps95
  go_wp2_with fail
  refine (hm _).mono ?_
  rintro _ w1 ⟨rfl, rfl⟩
  go_wp2_with fail
  refine bodyPost_ret (by simp [results, Tryz.results95, go_sem]; try rfl) rfl ?_
  exact ⟨rfl, Ok.alloc (Ok.refl _) _⟩

def marksSh (m : Nat) : List Sh := (List.range m).map markSh
theorem marksSh_len (m : Nat) : (marksSh m).length = m := by simp [marksSh]
theorem marksSh_succ (m : Nat) : marksSh (m + 1) = marksSh m ++ [markSh m] := by simp [marksSh, List.range_succ]
theorem lentSh_at0 (zs : List Sh) (j : Nat) (h : j < zs.length) : at2 (zs ++ marksSh 12) j = at2 zs j := by
  rw [at2, at2, List.getElem?_append_left h]
theorem lentSh_at1 (zs : List Sh) (j : Nat) (h : j < 12) : at2 (zs ++ marksSh 12) (zs.length + j) = markSh j := by
  simp [at2, marksSh, h]
/-- What LentShareRows leaves: the shares, in a new row, with twelve marks behind them. -/
def LentShP (w : World) (zs : List Sh) : Ending → World → Prop := fun e w' => ∃ g cap, e = .returned (.slice (some ⟨g, 0, none⟩) zs.length cap) ∧ zs.length + 12 ≤ cap ∧ w.heap.size ≤ g ∧ g < w'.heap.size ∧ Ok w w' ∧ SharesAt w' (some ⟨g, 0, none⟩) (zs ++ marksSh 12)
theorem OwnSh.form {w : World} {B : Nat} {A : Option Addr} {n c : Nat} {xs : List Sh} (h : OwnSh w B A n c xs) (hp : 0 < xs.length) : ∃ g, A = Option.some ⟨g, 0, none⟩ ∧ xs.length ≤ c ∧ B ≤ g := by
  obtain ⟨h1, rfl⟩ := h
  rcases h1.2 with ⟨e, h5⟩ | ⟨g, cap, cur, e, r1, r2, r3, r4, r5⟩
  · omega
  · simp only [Value.slice.injEq] at e
    obtain ⟨rfl, -, rfl⟩ := e
    exact ⟨g, rfl, by omega, r1⟩
theorem one_sh2 (w : World) (t : Sh) : SharesAt (w.alloc (.cells #[.string t.sp.lo, .string t.sp.hi, .int .i64 t.g, .int .i64 t.e] 35)) (some ⟨w.heap.size, 0, none⟩) [t] := (one_ownsh w t).at
theorem SharesAt.nth {w : World} {b off : Nat} {xs : List Sh} (h : SharesAt w (some ⟨b, off, none⟩) xs) (j : Nat) (hj : j < xs.length) : w.cell? ⟨b, off + j * 4, none⟩ = some (.string (at2 xs j).sp.lo) ∧ w.cell? ⟨b, off + j * 4 + 1, none⟩ = some (.string (at2 xs j).sp.hi) ∧ w.cell? ⟨b, off + j * 4 + 2, none⟩ = some (.int .i64 (at2 xs j).g) ∧ w.cell? ⟨b, off + j * 4 + 3, none⟩ = some (.int .i64 (at2 xs j).e) := by
  obtain ⟨b', off', e, c0, c1, c2, c3⟩ := h j hj
  simp only [Option.some.injEq, Addr.mk.injEq, and_true] at e
  obtain ⟨rfl, rfl⟩ := e
  exact ⟨c0, c1, c2, c3⟩
/-- Shares of any address appended; nil too. -/
theorem wpList_appShN {ops : Array Oper} {rest : List Oper} {o : Oper} {a : Act} {w : World} {Q : Exit → Act → World → Prop} (hgd : o.guard = none) (s x : Operand)
    (ho : o.op = .call { callee := .builtin .append, args := #[s, x], argTypes := #[22, 22] })
    (base : Nat) (A : Option Addr) (n c : Nat) (xs : List Sh) (hs : a.eval s = .slice A n c) (hown : OwnSh w base A n c xs)
    (A2 : Option Addr) (m c2 : Nat) (ys : List Sh) (hx : a.eval x = .slice A2 m c2) (hm : ys.length = m) (hnil : A2 = none → c2 = 0) (hnews : SharesAt w A2 ys) (hlen : xs.length + m ≤ 100000) (hbase : base ≤ w.heap.size)
    (hk : ∀ A' c' w', OwnSh w' base A' (n + m) c' (xs ++ ys) → Below base w w' → wpList Tryz.prog ops Q rest (a.put o.dst (.slice A' (n + m) c')) w') : wpList Tryz.prog ops Q (o :: rest) a w := by
  obtain ⟨i0, hi, hz0, hz1, hz2⟩ := info_parts info60
  obtain ⟨hown, rfl⟩ := hown
  have late : ∀ v' w', w'.ownsRow base 35 4 v' (xs.length + m) (flat4 xs ++ flat4 ys) → w.grownBy w' (Value.ownBlock (.slice A xs.length c)) → wpList Tryz.prog ops Q rest (a.put o.dst v') w' := by
    intro v' w' h2 h3
    have hb : Below base w w' := (Below.refl base w).grown h3 hbase (fun k hk => (World.ownsRow.lt hown k hk).1)
    rw [← hm, ← flat4_append, ← List.length_append] at h2
    obtain ⟨A', c', rfl⟩ : ∃ A' c', v' = .slice A' (xs.length + m) c' := by
      rcases h2.2 with ⟨rfl, h5⟩ | ⟨g', cap', cur, rfl, _⟩
      · exact ⟨none, 0, by rw [List.length_append] at h5; rw [← hm, h5]⟩
      · exact ⟨_, _, by rw [List.length_append, hm]⟩
    exact hk A' c' w' ⟨h2, by rw [List.length_append, hm]⟩ hb
  cases A2 with
  | none =>
    obtain rfl : ys = [] := by
      cases ys with
      | nil => rfl
      | cons y ys => obtain ⟨_, _, e, _⟩ := hnews 0 (by simp); cases e
    obtain rfl : m = 0 := hm.symm
    obtain rfl := hnil rfl
    refine wpList_append_own_none hgd s x 22 ho base 35 i0 4 Tryz.underlying22 hi _ xs.length (flat4 xs) hs hown hx ?_
    exact late _ w (by simpa [flat4] using hown) ⟨rfl, rfl, rfl, Nat.le_refl _, fun _ _ _ => rfl⟩
  | some ad =>
    have hin : ShIn w ad ys := by
      cases ys with
      | nil => intro j u hu; simp [flat4] at hu
      | cons y ys =>
        obtain ⟨b, off, e, _⟩ := hnews 0 (by simp)
        simp only [Option.some.injEq] at e
        subst e
        exact hnews.inn
    refine wpList_append_own_at _ hgd s x 22 ho base 35 i0 (.agg #[.string ⟨#[]⟩, .string ⟨#[]⟩, .int .i64 0, .int .i64 0]) 4 48 Tryz.underlying22 hi hz0 hz1 hz2 rfl (by decide) _ xs.length (flat4 xs) hs hown ad m c2 (flat4 ys) hx (by rw [flat4_len, hm]) hin (flat4_one ys) (by unfold maxLen; omega) (by omega) hbase ?_
    intro v' w' h2 h3 _ _
    exact late v' w' h2 h3

set_option maxRecDepth 100000 in
set_option maxHeartbeats 4000000 in
theorem lentRows_w (A : Option Addr) (n c : Nat) (zs : List Sh) (hn : zs.length = n) (hn6 : n ≤ 10000) (w : World) (hI : SharesAt w A zs) (hA0 : A = none → c = 0) : Calls Tryz.prog 48 #[.slice A n c] w (LentShP w zs) := by
  have H := Lib.hid hI
  have HA0 := Lib.hid hA0
  have HN := Lib.hid hn
  clear hI hn hA0
  obtain ⟨i0, hi, hz0, hz1, hz2⟩ := info_parts info60
  have HI := Lib.hid hi
  have HZ0 := Lib.hid hz0
  have HZ1 := Lib.hid hz1
  have HZ2 := Lib.hid hz2
  clear hi hz0 hz1 hz2
  go_enter Tryz.func48, Tryz.ntmps48
  go_wp2_with (first
    | (at_make; go_must (refine wpList_make_own _ rfl _ _ 22 rfl w.heap.size 35 i0 (.agg #[.string ⟨#[]⟩, .string ⟨#[]⟩, .int .i64 0, .int .i64 0]) 4 Tryz.underlying22 HI.out HZ0.out HZ1.out .i64 .i64 _ (n + 12) rfl rfl (by first | rfl | simp | (push_cast; omega)) (by rw [HZ2.out]; omega) (by unfold maxLen; omega) (Nat.le_refl _) ?_; intro w0 hown0 hgrow0; have HOW0 : Hid (OwnSh w0 w.heap.size (some ⟨w.heap.size, 0, none⟩) 0 (n + 12) []) := Lib.hid ⟨hown0, rfl⟩; have HB0 : Hid (Ok w w0) := Lib.hid ((Below.refl _ _).grown hgrow0 (Nat.le_refl _) (fun k hk => by cases hk)); clear hown0 hgrow0))
    | (at_builtin; go_must (refine wpList_appShN rfl (.tmp 9) (.tmp 10) rfl w.heap.size _ _ _ [] rfl HOW0.out A n c zs rfl HN.out HA0.out (H.out.ok HB0.out) (by simp; omega) HB0.out.size ?_; intro A1 c1 w1 hown1 hbel1; simp only [List.nil_append, Nat.zero_add] at hown1 ⊢; have HOW1 := Lib.hid hown1; have HB1 : Hid (Ok w w1) := Lib.hid (Below.trans HB0.out hbel1); clear hown1 hbel1)))
  go_loopw [3, 4] (fun o i wr => ∃ (j : Nat) (A2 : Option Addr) (n2 c2 : Nat), j ≤ 12 ∧ i = .int .i64 j ∧ o = .slice A2 n2 c2 ∧ OwnSh wr w.heap.size A2 n2 c2 (zs ++ marksSh j) ∧ Ok w wr) (fun _ i _ => 12 - (intOf i).toNat)
  case atStart => exact ⟨0, A1, _, c1, by omega, rfl, rfl, by simpa [marksSh] using HOW1.out, HB1.out⟩
  case round =>
    obtain ⟨j, A2, n2, c2, hj, rfl, rfl, hown, hok⟩ := hrel
    have HOW := Lib.hid hown
    have HOK := Lib.hid hok
    clear hown hok HOW1 HB1 HOW0 HB0
    by_cases hlt : j < 12
    · have HMS := Lib.hid (marksSh_succ j)
      have HL : Hid ((zs ++ marksSh j).length + 1 ≤ 100000) := Lib.hid (by rw [List.length_append, marksSh_len, HN.out]; omega)
      have hd : decide ((j : Int) < 12) = true := decide_eq_true (by omega)
      have hmk := fun w' => markSh_w j (by omega) w'
      unfold shV at hmk
      obtain ⟨⟨⟨ylo, yhi⟩, yg, ye⟩, hy⟩ : ∃ y, markSh j = y := ⟨_, rfl⟩
      rw [hy] at hmk HMS
      simp only at hmk
      clear hy
      go_wp2_with fail
      refine (hmk _).mono ?_
      rintro e w2 ⟨rfl, o2⟩
      have HNEW := Lib.hid (one_sh2 w2 ⟨⟨ylo, yhi⟩, yg, ye⟩)
      have HOWA : Hid (OwnSh (w2.alloc (.cells #[.string ylo, .string yhi, .int .i64 yg, .int .i64 ye] 35)) w.heap.size A2 n2 c2 (zs ++ marksSh j)) := Lib.hid ((HOW.out.ok o2).alloc _)
      have HOK2 := Lib.hid (Ok.call HOK.out o2)
      clear o2
      go_wp2_with (at_builtin; go_must (refine wpList_appShN rfl (.tmp 16) (.tmp 19) rfl w.heap.size _ _ _ (zs ++ marksSh j) rfl HOWA.out (some ⟨w2.heap.size, 0, none⟩) 1 1 [⟨⟨ylo, yhi⟩, yg, ye⟩] rfl rfl (fun e => by cases e) HNEW.out HL.out (Nat.le_trans HOK2.out.size (by simp)) ?_; intro A3 c3 w3 hown3 hbel3; have HOW3 := Lib.hid hown3; have HB3 : Hid (Ok w w3) := Lib.hid (Below.trans (Ok.alloc HOK2.out _) hbel3); clear hown3 hbel3))
      go_roundw
      case rel => exact ⟨j + 1, A3, _, c3, by omega, by go_num, rfl, by rw [HMS.out, ← List.append_assoc]; exact HOW3.out, HB3.out⟩
      case measure => simp [intOf]; omega
    · have hje : j = 12 := by omega
      subst hje
      have hl : (zs ++ marksSh 12).length = n + 12 := by rw [List.length_append, marksSh_len, HN.out]
      obtain ⟨g, rfl, hcap, hg⟩ := HOW.out.form (by rw [hl]; omega)
      have hat := HOW.out.at
      have hn2 : n2 = n + 12 := by rw [HOW.out.2, hl]
      subst hn2
      rw [hl] at hcap
      have HCL := Lib.hid hat
      have HG := Lib.hid (And.intro hg (World.ownsRow.lt HOW.out.1 g rfl).2)
      have hi1 : (n : Int) ≤ (c2 : Int) := by omega
      have hn0 : (0 : Int) ≤ (n : Int) := by omega
      have HFIN : Hid (∀ e, e = .returned (.slice (some ⟨g, 0, none⟩) n c2) → LentShP w zs e wr) := Lib.hid fun e he => ⟨g, c2, by rw [HN.out]; exact he, by rw [HN.out]; exact hcap, HG.out.1, HG.out.2, HOK.out, HCL.out⟩
      clear hl hat hg hcap HOW
      go_wp2_with fail
      go_ret
      exact HFIN.out _ rfl
end Go.Proofs.YtdabdkedgigjdaaGreat
