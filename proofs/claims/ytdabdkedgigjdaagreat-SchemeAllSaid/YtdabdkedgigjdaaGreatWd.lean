/- A step of a handoff, as the document tells it, walked. -/
import Derived.Test.YtdabdkedgigjdaaGreatSw
import Derived.Test.YtdabdkedgigjdaaGreatYp
import Derived.Laws.AppendOwnNone
import Derived.Deep.RegionHeld3
import Derived.Test.YtdabdkedgigjdaaGreatYf
import Derived.Outline
import Derived.Test.YtdabdkedgigjdaaGreatYk
import Derived.Test.YtdabdkedgigjdaaGreatR
import Derived.Test.YtdabdkedgigjdaaGreatYh
import Derived.Test.YtdabdkedgigjdaaGreatSy
import Derived.Test.YtdabdkedgigjdaaGreatYg
import Derived.RegionTactic
namespace Go.Proofs.YtdabdkedgigjdaaGreat
open Go.RowKit

def markSh (i : Nat) : Sh := ⟨allS, 0, 8000024 + (i : Int)⟩
def markSh2 (i : Nat) : Sh := ⟨allS, 0, 9000027 + (i : Int)⟩
set_option maxHeartbeats 1000000 in
theorem markSh_w (i : Nat) (h : i < 100000) (w : World) : Calls Tryz.prog 95 #[.int .i64 1, .int .i64 (i : Int)] w (Ret w (shV (markSh i))) := by
  have h0 : (0 : Int) ≤ (i : Int) := Int.natCast_nonneg _
  have h1 : (i : Int) < 100000 := by omega
  unfold markSh shV allS
  simp only
  have hm : ∀ w', Calls Tryz.prog 123 #[.int .i64 1, .int .i64 (i : Int)] w' fun e w'' => e = .returned (.int .i64 (8000024 + (i : Int))) ∧ w' = w'' := fun w' => by
    go_enter Tryz.func123, Tryz.ntmps123
    go_wp2
    go_ret
    exact ⟨by go_num, rfl⟩
  generalize (8000024 + (i : Int)) = y at *
  go_enter Tryz.func95, Tryz.ntmps95
  go_wp2_with fail
  refine (hm _).mono ?_
  rintro _ w1 ⟨rfl, rfl⟩
  go_wp2_with fail
  refine bodyPost_ret (by simp [results, Tryz.results95, go_sem]; try rfl) rfl ?_
  exact ⟨rfl, Ok.alloc (Ok.refl _) _⟩
set_option maxHeartbeats 1000000 in
theorem markSh2_w (i : Nat) (h : i < 100000) (w : World) : Calls Tryz.prog 95 #[.int .i64 2, .int .i64 (i : Int)] w (Ret w (shV (markSh2 i))) := by
  have h0 : (0 : Int) ≤ (i : Int) := Int.natCast_nonneg _
  have h1 : (i : Int) < 100000 := by omega
  unfold markSh2 shV allS
  simp only
  have hm : ∀ w', Calls Tryz.prog 123 #[.int .i64 2, .int .i64 (i : Int)] w' fun e w'' => e = .returned (.int .i64 (9000027 + (i : Int))) ∧ w' = w'' := fun w' => by
    go_enter Tryz.func123, Tryz.ntmps123
    go_wp2
    go_ret
    exact ⟨by go_num, rfl⟩
  generalize (9000027 + (i : Int)) = y at *
  go_enter Tryz.func95, Tryz.ntmps95
  go_wp2_with fail
  refine (hm _).mono ?_
  rintro _ w1 ⟨rfl, rfl⟩
  go_wp2_with fail
  refine bodyPost_ret (by simp [results, Tryz.results95, go_sem]; try rfl) rfl ?_
  exact ⟨rfl, Ok.alloc (Ok.refl _) _⟩

def marksSh (m : Nat) : List Sh := (List.range m).map markSh
theorem marksSh_len (m : Nat) : (marksSh m).length = m := by simp [marksSh]
theorem marksSh_succ (m : Nat) : marksSh (m + 1) = marksSh m ++ [markSh m] := by simp [marksSh, List.range_succ]
theorem lentSh_at0 (zs : List Sh) (j : Nat) (h : j < zs.length) : at2 (zs ++ marksSh 12) j = at2 zs j := by
  rw [at2, at2, List.getElem?_append_left h]
theorem lentSh_at1 (zs : List Sh) (j : Nat) (h : j < 12) : at2 (zs ++ marksSh 12) (zs.length + j) = markSh j := by
  simp [at2, marksSh, h]
/-- What LentShareRows leaves: the shares, in a new row, with twelve marks behind them. -/
def LentShP (w : World) (zs : List Sh) : Ending → World → Prop := fun e w' => ∃ g cap, e = .returned (.slice (some ⟨g, 0, none⟩) zs.length cap) ∧ zs.length + 12 ≤ cap ∧ w.heap.size ≤ g ∧ g < w'.heap.size ∧ Ok w w' ∧ SharesAt w' (some ⟨g, 0, none⟩) (zs ++ marksSh 12)
theorem OwnSh.form {w : World} {B : Nat} {A : Option Addr} {n c : Nat} {xs : List Sh} (h : OwnSh w B A n c xs) (hp : 0 < xs.length) : ∃ g, A = Option.some ⟨g, 0, none⟩ ∧ xs.length ≤ c ∧ B ≤ g := by
  obtain ⟨h1, rfl⟩ := h
  rcases h1.2 with ⟨e, h5⟩ | ⟨g, cap, cur, e, r1, r2, r3, r4, r5⟩
  · omega
  · simp only [Value.slice.injEq] at e
    obtain ⟨rfl, -, rfl⟩ := e
    exact ⟨g, rfl, by omega, r1⟩
theorem one_sh2 (w : World) (t : Sh) : SharesAt (w.alloc (.cells #[.string t.sp.lo, .string t.sp.hi, .int .i64 t.g, .int .i64 t.e] 35)) (some ⟨w.heap.size, 0, none⟩) [t] := (one_ownsh w t).at
theorem SharesAt.nth {w : World} {b off : Nat} {xs : List Sh} (h : SharesAt w (some ⟨b, off, none⟩) xs) (j : Nat) (hj : j < xs.length) : w.cell? ⟨b, off + j * 4, none⟩ = some (.string (at2 xs j).sp.lo) ∧ w.cell? ⟨b, off + j * 4 + 1, none⟩ = some (.string (at2 xs j).sp.hi) ∧ w.cell? ⟨b, off + j * 4 + 2, none⟩ = some (.int .i64 (at2 xs j).g) ∧ w.cell? ⟨b, off + j * 4 + 3, none⟩ = some (.int .i64 (at2 xs j).e) := by
  obtain ⟨b', off', e, c0, c1, c2, c3⟩ := h j hj
  simp only [Option.some.injEq, Addr.mk.injEq, and_true] at e
  obtain ⟨rfl, rfl⟩ := e
  exact ⟨c0, c1, c2, c3⟩
/-- Shares of any address appended; nil too. -/
theorem wpList_appShN {ops : Array Oper} {rest : List Oper} {o : Oper} {a : Act} {w : World} {Q : Exit → Act → World → Prop} (hgd : o.guard = none) (s x : Operand)
    (ho : o.op = .call { callee := .builtin .append, args := #[s, x], argTypes := #[22, 22] })
    (base : Nat) (A : Option Addr) (n c : Nat) (xs : List Sh) (hs : a.eval s = .slice A n c) (hown : OwnSh w base A n c xs)
    (A2 : Option Addr) (m c2 : Nat) (ys : List Sh) (hx : a.eval x = .slice A2 m c2) (hm : ys.length = m) (hnil : A2 = none → c2 = 0) (hnews : SharesAt w A2 ys) (hlen : xs.length + m ≤ 100000) (hbase : base ≤ w.heap.size)
    (hk : ∀ A' c' w', OwnSh w' base A' (n + m) c' (xs ++ ys) → Below base w w' → wpList Tryz.prog ops Q rest (a.put o.dst (.slice A' (n + m) c')) w') : wpList Tryz.prog ops Q (o :: rest) a w := by
  obtain ⟨i0, hi, hz0, hz1, hz2⟩ := info_parts info60
  obtain ⟨hown, rfl⟩ := hown
  have late : ∀ v' w', w'.ownsRow base 35 4 v' (xs.length + m) (flat4 xs ++ flat4 ys) → w.grownBy w' (Value.ownBlock (.slice A xs.length c)) → wpList Tryz.prog ops Q rest (a.put o.dst v') w' := by
    intro v' w' h2 h3
    have hb : Below base w w' := (Below.refl base w).grown h3 hbase (fun k hk => (World.ownsRow.lt hown k hk).1)
    rw [← hm, ← flat4_append, ← List.length_append] at h2
    obtain ⟨A', c', rfl⟩ : ∃ A' c', v' = .slice A' (xs.length + m) c' := by
      rcases h2.2 with ⟨rfl, h5⟩ | ⟨g', cap', cur, rfl, _⟩
      · exact ⟨none, 0, by rw [List.length_append] at h5; rw [← hm, h5]⟩
      · exact ⟨_, _, by rw [List.length_append, hm]⟩
    exact hk A' c' w' ⟨h2, by rw [List.length_append, hm]⟩ hb
  cases A2 with
  | none =>
    obtain rfl : ys = [] := by
      cases ys with
      | nil => rfl
      | cons y ys => obtain ⟨_, _, e, _⟩ := hnews 0 (by simp); cases e
    obtain rfl : m = 0 := hm.symm
    obtain rfl := hnil rfl
    refine wpList_append_own_none hgd s x 22 ho base 35 i0 4 Tryz.underlying22 hi _ xs.length (flat4 xs) hs hown hx ?_
    exact late _ w (by simpa [flat4] using hown) ⟨rfl, rfl, rfl, Nat.le_refl _, fun _ _ _ => rfl⟩
  | some ad =>
    have hin : ShIn w ad ys := by
      cases ys with
      | nil => intro j u hu; simp [flat4] at hu
      | cons y ys =>
        obtain ⟨b, off, e, _⟩ := hnews 0 (by simp)
        simp only [Option.some.injEq] at e
        subst e
        exact hnews.inn
    refine wpList_append_own_at _ hgd s x 22 ho base 35 i0 (.agg #[.string ⟨#[]⟩, .string ⟨#[]⟩, .int .i64 0, .int .i64 0]) 4 48 Tryz.underlying22 hi hz0 hz1 hz2 rfl (by decide) _ xs.length (flat4 xs) hs hown ad m c2 (flat4 ys) hx (by rw [flat4_len, hm]) hin (flat4_one ys) (by unfold maxLen; omega) (by omega) hbase ?_
    intro v' w' h2 h3 _ _
    exact late v' w' h2 h3

set_option maxRecDepth 100000 in
set_option maxHeartbeats 4000000 in
theorem lentRows_w (A : Option Addr) (n c : Nat) (zs : List Sh) (hn : zs.length = n) (hn6 : n ≤ 10000) (w : World) (hI : SharesAt w A zs) (hA0 : A = none → c = 0) : Calls Tryz.prog 48 #[.slice A n c] w (LentShP w zs) := by
  have H := Lib.hid hI
  have HA0 := Lib.hid hA0
  have HN := Lib.hid hn
  clear hI hn hA0
  obtain ⟨i0, hi, hz0, hz1, hz2⟩ := info_parts info60
  have HI := Lib.hid hi
  have HZ0 := Lib.hid hz0
  have HZ1 := Lib.hid hz1
  have HZ2 := Lib.hid hz2
  clear hi hz0 hz1 hz2
  go_enter Tryz.func48, Tryz.ntmps48
  go_wp2_with (first
    | (at_make; go_must (refine wpList_make_own _ rfl _ _ 22 rfl w.heap.size 35 i0 (.agg #[.string ⟨#[]⟩, .string ⟨#[]⟩, .int .i64 0, .int .i64 0]) 4 Tryz.underlying22 HI.out HZ0.out HZ1.out .i64 .i64 _ (n + 12) rfl rfl (by first | rfl | simp | (push_cast; omega)) (by rw [HZ2.out]; omega) (by unfold maxLen; omega) (Nat.le_refl _) ?_; intro w0 hown0 hgrow0; have HOW0 : Hid (OwnSh w0 w.heap.size (some ⟨w.heap.size, 0, none⟩) 0 (n + 12) []) := Lib.hid ⟨hown0, rfl⟩; have HB0 : Hid (Ok w w0) := Lib.hid ((Below.refl _ _).grown hgrow0 (Nat.le_refl _) (fun k hk => by cases hk)); clear hown0 hgrow0))
    | (at_builtin; go_must (refine wpList_appShN rfl (.tmp 9) (.tmp 10) rfl w.heap.size _ _ _ [] rfl HOW0.out A n c zs rfl HN.out HA0.out (H.out.ok HB0.out) (by simp; omega) HB0.out.size ?_; intro A1 c1 w1 hown1 hbel1; simp only [List.nil_append, Nat.zero_add] at hown1 ⊢; have HOW1 := Lib.hid hown1; have HB1 : Hid (Ok w w1) := Lib.hid (Below.trans HB0.out hbel1); clear hown1 hbel1)))
  go_loopw [3, 4] (fun o i wr => ∃ (j : Nat) (A2 : Option Addr) (n2 c2 : Nat), j ≤ 12 ∧ i = .int .i64 j ∧ o = .slice A2 n2 c2 ∧ OwnSh wr w.heap.size A2 n2 c2 (zs ++ marksSh j) ∧ Ok w wr) (fun _ i _ => 12 - (intOf i).toNat)
  case atStart => exact ⟨0, A1, _, c1, by omega, rfl, rfl, by simpa [marksSh] using HOW1.out, HB1.out⟩
  case round =>
    obtain ⟨j, A2, n2, c2, hj, rfl, rfl, hown, hok⟩ := hrel
    have HOW := Lib.hid hown
    have HOK := Lib.hid hok
    clear hown hok HOW1 HB1 HOW0 HB0
    by_cases hlt : j < 12
    · have HMS := Lib.hid (marksSh_succ j)
      have HL : Hid ((zs ++ marksSh j).length + 1 ≤ 100000) := Lib.hid (by rw [List.length_append, marksSh_len, HN.out]; omega)
      have hd : decide ((j : Int) < 12) = true := decide_eq_true (by omega)
      have hmk := fun w' => markSh_w j (by omega) w'
      unfold shV at hmk
      obtain ⟨⟨⟨ylo, yhi⟩, yg, ye⟩, hy⟩ : ∃ y, markSh j = y := ⟨_, rfl⟩
      rw [hy] at hmk HMS
      simp only at hmk
      clear hy
      go_wp2_with fail
      refine (hmk _).mono ?_
      rintro e w2 ⟨rfl, o2⟩
      have HNEW := Lib.hid (one_sh2 w2 ⟨⟨ylo, yhi⟩, yg, ye⟩)
      have HOWA : Hid (OwnSh (w2.alloc (.cells #[.string ylo, .string yhi, .int .i64 yg, .int .i64 ye] 35)) w.heap.size A2 n2 c2 (zs ++ marksSh j)) := Lib.hid ((HOW.out.ok o2).alloc _)
      have HOK2 := Lib.hid (Ok.call HOK.out o2)
      clear o2
      go_wp2_with (at_builtin; go_must (refine wpList_appShN rfl (.tmp 16) (.tmp 19) rfl w.heap.size _ _ _ (zs ++ marksSh j) rfl HOWA.out (some ⟨w2.heap.size, 0, none⟩) 1 1 [⟨⟨ylo, yhi⟩, yg, ye⟩] rfl rfl (fun e => by cases e) HNEW.out HL.out (Nat.le_trans HOK2.out.size (by simp)) ?_; intro A3 c3 w3 hown3 hbel3; have HOW3 := Lib.hid hown3; have HB3 : Hid (Ok w w3) := Lib.hid (Below.trans (Ok.alloc HOK2.out _) hbel3); clear hown3 hbel3))
      go_roundw
      case rel => exact ⟨j + 1, A3, _, c3, by omega, by go_num, rfl, by rw [HMS.out, ← List.append_assoc]; exact HOW3.out, HB3.out⟩
      case measure => simp [intOf]; omega
    · have hje : j = 12 := by omega
      subst hje
      have hl : (zs ++ marksSh 12).length = n + 12 := by rw [List.length_append, marksSh_len, HN.out]
      obtain ⟨g, rfl, hcap, hg⟩ := HOW.out.form (by rw [hl]; omega)
      have hat := HOW.out.at
      have hn2 : n2 = n + 12 := by rw [HOW.out.2, hl]
      subst hn2
      rw [hl] at hcap
      have HCL := Lib.hid hat
      have HG := Lib.hid (And.intro hg (World.ownsRow.lt HOW.out.1 g rfl).2)
      have hi1 : (n : Int) ≤ (c2 : Int) := by omega
      have hn0 : (0 : Int) ≤ (n : Int) := by omega
      have HFIN : Hid (∀ e, e = .returned (.slice (some ⟨g, 0, none⟩) n c2) → LentShP w zs e wr) := Lib.hid fun e he => ⟨g, c2, by rw [HN.out]; exact he, by rw [HN.out]; exact hcap, HG.out.1, HG.out.2, HOK.out, HCL.out⟩
      clear hl hat hg hcap HOW
      go_wp2_with fail
      go_ret
      exact HFIN.out _ rfl
end Go.Proofs.YtdabdkedgigjdaaGreat
namespace Go.Proofs.YtdabdkedgigjdaaGreat
open Go.RowKit

set_option maxRecDepth 100000 in
set_option maxHeartbeats 4000000 in
theorem keptRows_w (g cap : Nat) (A : Option Addr) (n c : Nat) (zs : List Sh) (hn : zs.length = n) (hn6 : n ≤ 10000) (w : World) (hcap : n + 12 ≤ cap)
    (hG : SharesAt w (some ⟨g, 0, none⟩) (zs ++ marksSh 12)) (hI : SharesAt w A zs) :
    Calls Tryz.prog 75 #[.slice (some ⟨g, 0, none⟩) n cap, .slice A n c] w (Ret w (.bool true)) := by
  have HG := Lib.hid hG
  have HI := Lib.hid hI
  have HN := Lib.hid hn
  have HL : Hid ((zs ++ marksSh 12).length = n + 12) := Lib.hid (by rw [List.length_append, marksSh_len, hn])
  clear hG hI hn
  have s1 : wrap64 ((n : Int) + 12) = (n : Int) + 12 := by simp only [wrap64]; omega
  have s3 : (0 : Int) ≤ (n : Int) + 12 := by omega
  have s4 : (n : Int) + 12 ≤ (cap : Int) := by omega
  have s5 : ((n : Int) + 12).toNat = n + 12 := by omega
  go_enter Tryz.func75, Tryz.ntmps75
  go_wp2_with fail
  go_loopw [6] (fun i wr => ∃ k : Nat, k ≤ n + 12 ∧ i = .int .i64 k ∧ Ok w wr) (fun i _ => n + 12 - (intOf i).toNat)
  case atStart => exact ⟨0, Nat.zero_le _, rfl, Ok.refl _⟩
  case round =>
    obtain ⟨k, hk, rfl, okr⟩ := hrel
    have HOKR := Lib.hid okr
    clear okr
    by_cases hlt : k < n + 12
    · have d1 : decide ((k : Int) < (n : Int) + 12) = true := decide_eq_true (by omega)
      obtain ⟨C0, C1, C2, C3⟩ := (HG.out.ok HOKR.out).nth k (by rw [HL.out]; exact hlt)
      rw [Nat.zero_add] at C0 C1 C2 C3
      have hi0 : (0 : Int) ≤ (k : Int) := Int.natCast_nonneg _
      have hi1 : (k : Int) < (n : Int) + 12 := by omega
      by_cases h2 : k < n
      · have d2 : decide ((k : Int) < (n : Int)) = true := decide_eq_true (by omega)
        have d3 : decide (n ≤ k) = false := decide_eq_false (by omega)
        obtain ⟨b, off, rfl, D0, D1, D2, D3⟩ := HI.out.ok HOKR.out k (by rw [HN.out]; exact h2)
        rw [lentSh_at0 zs k (by rw [HN.out]; exact h2)] at C0 C1 C2 C3
        generalize (at2 zs k).sp.lo = tl at C0 D0
        generalize (at2 zs k).sp.hi = th at C1 D1
        generalize (at2 zs k).g = tg at C2 D2
        generalize (at2 zs k).e = te at C3 D3
        have hi2 : (k : Int) < (n : Int) := by omega
        have kC0 := cell_regrown C0
        have kC1 := cell_regrown C1
        have kC2 := cell_regrown C2
        have kC3 := cell_regrown C3
        have kD0 := cell_regrown D0
        have kD1 := cell_regrown D1
        have kD2 := cell_regrown D2
        have kD3 := cell_regrown D3
        go_wp2_with fail
        refine wp_region_quiet_below (by kernel_rfl) (by kernel_rfl) ?_
        refine HeldU.out ?_
        repeat (
          refine hqU_step (fun K hK => ?_)
          go_simp
          (refine hK _ ?_; clear hK K))
        refine HeldU.mk (wpQuiet_nil ?_)
        intro _ hw'
        obtain ⟨⟨dq, osq⟩, hw''⟩ := hw'
        subst hw''
        go_wp2
        refine ⟨⟨k + 1, hlt, rfl, Ok.call HOKR.out (below_regrown wr dq osq)⟩, ?_⟩
        show n + 12 - ((k : Int) + 1).toNat < n + 12 - (k : Int).toNat
        omega
      · obtain ⟨j, hj⟩ : ∃ j, k = n + j := ⟨k - n, by omega⟩
        have hj12 : j < 12 := by omega
        have d2 : decide ((k : Int) < (n : Int)) = false := decide_eq_false (by omega)
        have d3 : decide (n ≤ k) = true := decide_eq_true (by omega)
        have s2 : wrap64 ((k : Int) - (n : Int)) = (j : Int) := by simp only [wrap64]; omega
        have s6 : IntKind.i64.wrap ((k : Int) - (n : Int)) = (j : Int) := by simp only [IntKind.wrap_i64]; omega
        have e0 : at2 (zs ++ marksSh 12) k = markSh j := by rw [hj, ← HN.out]; exact lentSh_at1 zs j hj12
        rw [e0] at C0 C1 C2 C3
        have hm := fun w' => markSh_w j (by omega) w'
        unfold shV at hm
        obtain ⟨⟨⟨yl, yh⟩, yg, ye⟩, hy⟩ : ∃ y, markSh j = y := ⟨_, rfl⟩
        rw [hy] at hm C0 C1 C2 C3
        simp only at hm C0 C1 C2 C3
        clear e0 hj hy
        have kC0 := cell_regrown C0
        have kC1 := cell_regrown C1
        have kC2 := cell_regrown C2
        have kC3 := cell_regrown C3
        have q1 : ∀ d os, Calls Tryz.prog 95 #[.int .i64 1, .int .i64 (j : Int)] (Go.Sort.grow (redrawn wr d) os) fun e w'' => e = .returned (.agg #[.string yl, .string yh, .int .i64 yg, .int .i64 ye]) ∧ ∃ p : Regrown, w'' = Go.Sort.grow (redrawn wr p.d) p.os := fun d os => Calls.regrown_of (hm _)
        go_wp2_with fail
        refine wp_region_quiet_below (by kernel_rfl) (by kernel_rfl) ?_
        refine HeldU.out ?_
        repeat (
          refine hqU_step (fun K hK => ?_)
          go_simp
          first
            | (refine hK _ ?_; clear hK K)
            | (apply Exists.intro
               refine ⟨fun _ => ?_, hK _ ?_⟩
               (with_reducible exact q1 _ _)
               clear hK K))
        refine HeldU.mk (wpQuiet_nil ?_)
        intro _ hw'
        obtain ⟨⟨dq, osq⟩, hw''⟩ := hw'
        subst hw''
        go_wp2
        refine ⟨⟨k + 1, hlt, rfl, Ok.call HOKR.out (below_regrown wr dq osq)⟩, ?_⟩
        show n + 12 - ((k : Int) + 1).toNat < n + 12 - (k : Int).toNat
        omega
    · have d1 : decide ((k : Int) < (n : Int) + 12) = false := decide_eq_false (by omega)
      go_wp2
      go_ret
      exact ⟨rfl, HOKR.out⟩
end Go.Proofs.YtdabdkedgigjdaaGreat
namespace Go.Proofs.YtdabdkedgigjdaaGreat
open Go.RowKit

theorem SharesAt.set {w : World} {A : Option Addr} {xs : List Sh} (h : SharesAt w A xs) {p : Nat} (hp : ∀ b off, A = some ⟨b, off, none⟩ → b ≠ p) (o : Nat) (v : Value) : SharesAt (w.setCell ⟨p, o, none⟩ v) A xs := fun j hj => by
  obtain ⟨b, off, e, c0, c1, c2, c3⟩ := h j hj
  have hb := hp b off e
  have key : ∀ q, (w.setCell ⟨p, o, none⟩ v).cell? ⟨b, q, none⟩ = w.cell? ⟨b, q, none⟩ := fun q => World.cell?_setCell_other _ _ _ _ (fun h => by cases h; exact hb rfl)
  exact ⟨b, off, e, (key _).trans c0, (key _).trans c1, (key _).trans c2, (key _).trans c3⟩
theorem SharesAt.put2 {w : World} {A : Option Addr} {xs : List Sh} (h : SharesAt w A xs) {p : Nat} (hp : ∀ b off, A = some ⟨b, off, none⟩ → b ≠ p) (a b : Value) : SharesAt (YtdabdkedgigjdaaGreat.put2 w p a b) A xs := (h.set hp 0 a).set hp 1 b
theorem cell_stays {w : World} {p q : Addr} {x y : Value} (h : w.cell? q = some y) : ∃ z, (w.setCell p x).cell? q = some z := by
  by_cases e : q = p
  · subst e; exact ⟨_, World.cell?_setCell_same _ _ _ h⟩
  · exact ⟨_, (World.cell?_setCell_other _ _ _ _ (fun h' => e (by rw [h']))).trans h⟩
/-- A block of cells that may be written: as many, none frozen. -/
def RowB (w : World) (g c : Nat) : Prop := (∀ j, j < c → ∃ x, w.cell? ⟨g, j, none⟩ = some x) ∧ ∀ j, j < c → w.frozen? ⟨g, j, none⟩ = false
theorem RowB.set {w : World} {g c : Nat} (h : RowB w g c) (p : Addr) (x : Value) : RowB (w.setCell p x) g c :=
  ⟨fun j hj => by obtain ⟨y, hy⟩ := h.1 j hj; exact cell_stays hy, fun j hj => by rw [World.frozen?_setCell]; exact h.2 j hj⟩
theorem RowB.ok {w w' : World} {g c : Nat} (h : RowB w g c) (k : Ok w w') : RowB w' g c :=
  ⟨fun j hj => by obtain ⟨y, hy⟩ := h.1 j hj; exact ⟨y, Ok.cell k hy⟩, fun j hj => by
    obtain ⟨y, hy⟩ := h.1 j hj
    rw [Below.frozen k (p := ⟨g, j, none⟩) (World.block_lt_of_cell? _ _ hy)]; exact h.2 j hj⟩
/-- A row of shares that may be written over, from block B on. -/
def RowV (w : World) (B : Nat) (A : Option Addr) (n c : Nat) : Prop := (A = none ∧ n = 0 ∧ c = 0) ∨ ∃ g, A = some ⟨g, 0, none⟩ ∧ B ≤ g ∧ n ≤ c ∧ n ≤ 90000 ∧ c ≤ 9223372036854775807 ∧ RowB w g (c * 4)
theorem RowV.ok {w w' : World} {B : Nat} {A : Option Addr} {n c : Nat} (h : RowV w B A n c) (k : Ok w w') : RowV w' B A n c := by
  rcases h with h | ⟨g, h1, h2, h3, h4, h5, h6⟩
  · exact .inl h
  · exact .inr ⟨g, h1, h2, h3, h4, h5, h6.ok k⟩
theorem OwnSh.row {w : World} {B : Nat} {A : Option Addr} {n c : Nat} {xs : List Sh} (h : OwnSh w B A n c xs) (hl : n ≤ 90000) : RowV w B A n c := by
  obtain ⟨h1, rfl⟩ := h
  rcases h1.2 with ⟨e, h5⟩ | ⟨g, cap, cur, e, hB, hg, h1, h2, h3, h4⟩
  · simp only [Value.slice.injEq] at e
    exact .inl ⟨e.1, h5, e.2.2⟩
  · simp only [Value.slice.injEq] at e
    obtain ⟨rfl, -, rfl⟩ := e
    refine .inr ⟨g, rfl, hB, h1, by omega, by unfold maxLen at h2; omega, fun j hj => ?_, fun j _ => ?_⟩
    · rw [cell_of_row _ _ _ _ _ _ hg]; exact ⟨cur[j]'(by omega), by simp⟩
    · rw [World.frozen?, hg]; simp
def OverP (B : Nat) (w : World) (e : Ending) (w' : World) : Prop := e = .returned (.tuple #[]) ∧ Below B w w'

set_option maxRecDepth 100000 in
set_option maxHeartbeats 4000000 in
theorem overRows_w (A : Option Addr) (n c : Nat) (B : Nat) (w : World) (h : RowV w B A n c) : Calls Tryz.prog 74 #[.slice A n c] w (OverP B w) := by
  rcases h with ⟨rfl, rfl, rfl⟩ | ⟨g, rfl, hB, hnc, hn, hcm, hR⟩
  · go_enter Tryz.func74, Tryz.ntmps74
    go_wp2_with fail
    go_loopw [3] (fun i wr => i = .int .i64 0 ∧ wr = w) (fun _ _ => 0)
    case atStart => exact ⟨rfl, rfl⟩
    case round =>
      obtain ⟨rfl, rfl⟩ := hrel
      go_wp2_with fail
      go_end0
      exact ⟨rfl, Below.refl _ _⟩
  · have HR := Lib.hid hR
    clear hR
    have s1 : wrap64 ((n : Int) + 12) = (n : Int) + 12 := by simp only [wrap64]; omega
    obtain ⟨k, hk, hkc, hkm⟩ : ∃ k : Nat, min (c : Int) ((n : Int) + 12) = (k : Int) ∧ k ≤ c ∧ k ≤ 90012 := ⟨min c (n + 12), by omega, by omega, by omega⟩
    have HK := Lib.hid hk
    by_cases hcn : (n : Int) + 12 < (c : Int)
    · obtain rfl : k = n + 12 := by omega
      clear hk
      have hk : (n : Int) + 12 = ((n + 12 : Nat) : Int) := by omega
      rw [hk] at hcn s1
      generalize n + 12 = k at *
      have d1 : decide ((k : Int) < (c : Int)) = true := decide_eq_true hcn
      have d2 : decide (k < c) = true := decide_eq_true (by omega)
      have hk0 : (0 : Int) ≤ (k : Int) := Int.natCast_nonneg _
      have hki : (k : Int) ≤ (c : Int) := by omega
      go_enter Tryz.func74, Tryz.ntmps74
      go_wp2_with fail
      go_loopw [3] (fun i wr => ∃ j : Nat, j ≤ k ∧ i = .int .i64 j ∧ Below B w wr ∧ RowB wr g (c * 4)) (fun i _ => k - (intOf i).toNat)
      case atStart => exact ⟨0, Nat.zero_le _, rfl, Below.refl _ _, HR.out⟩
      case round =>
        obtain ⟨j, hj, rfl, hbel, hst⟩ := hrel
        have HBL := Lib.hid hbel
        have HST := Lib.hid hst
        clear hbel hst
        by_cases hlt : j < k
        · obtain ⟨hcs, hfs⟩ := HST.out
          obtain ⟨x0, hx0⟩ := hcs (j * 4) (by omega)
          obtain ⟨x1, hx1⟩ := hcs (j * 4 + 1) (by omega)
          obtain ⟨x2, hx2⟩ := hcs (j * 4 + 2) (by omega)
          obtain ⟨x3, hx3⟩ := hcs (j * 4 + 3) (by omega)
          have hf0 := hfs (j * 4) (by omega)
          have hf1 := hfs (j * 4 + 1) (by omega)
          have hf2 := hfs (j * 4 + 2) (by omega)
          have hf3 := hfs (j * 4 + 3) (by omega)
          have hblk : g < wr.heap.size := World.block_lt_of_cell? _ _ hx0
          clear hcs hfs
          have hj0 : (0 : Int) ≤ (j : Int) := Int.natCast_nonneg _
          have hj1 : (j : Int) < (k : Int) := by omega
          have hjc : (j : Int) < (c : Int) := by omega
          have hmk := fun w' => markSh2_w j (by omega) w'
          unfold shV at hmk
          obtain ⟨⟨⟨yl, yh⟩, yg, ye⟩, hy⟩ : ∃ y, markSh2 j = y := ⟨_, rfl⟩
          rw [hy] at hmk
          simp only at hmk
          clear hy
          have HMK := Lib.hid hmk
          have HFIN : Hid (∀ w2, Ok wr w2 → ∀ y0 y1 y2 y3, Below B w ((((w2.setCell ⟨g, j * 4, none⟩ y0).setCell ⟨g, j * 4 + 1, none⟩ y1).setCell ⟨g, j * 4 + 2, none⟩ y2).setCell ⟨g, j * 4 + 3, none⟩ y3) ∧ RowB ((((w2.setCell ⟨g, j * 4, none⟩ y0).setCell ⟨g, j * 4 + 1, none⟩ y1).setCell ⟨g, j * 4 + 2, none⟩ y2).setCell ⟨g, j * 4 + 3, none⟩ y3) g (c * 4)) := Lib.hid fun w2 k2 y0 y1 y2 y3 =>
            ⟨Below.setCell (Below.setCell (Below.setCell (Below.setCell (Below.trans HBL.out (k2.mono (by omega))) hB _) hB _) hB _) hB _, ((((HST.out.ok k2).set _ _).set _ _).set _ _).set _ _⟩
          clear hmk
          go_wp2_with fail
          (with_reducible refine (HMK.out _).mono ?_)
          rintro e w2 ⟨rfl, o2⟩
          replace hx0 := Ok.cell o2 hx0
          replace hx1 := Ok.cell o2 hx1
          replace hx2 := Ok.cell o2 hx2
          replace hx3 := Ok.cell o2 hx3
          replace hf0 := (Below.frozen o2 (p := ⟨g, j * 4, none⟩) hblk).trans hf0
          replace hf1 := (Below.frozen o2 (p := ⟨g, j * 4 + 1, none⟩) hblk).trans hf1
          replace hf2 := (Below.frozen o2 (p := ⟨g, j * 4 + 2, none⟩) hblk).trans hf2
          replace hf3 := (Below.frozen o2 (p := ⟨g, j * 4 + 3, none⟩) hblk).trans hf3
          have HF2 := Lib.hid (fun y0 y1 y2 y3 => HFIN.out w2 o2 y0 y1 y2 y3)
          clear o2 HFIN
          go_wp2_with fail
          go_roundw
          case rel => exact ⟨j + 1, by omega, by go_num, (HF2.out _ _ _ _).1, (HF2.out _ _ _ _).2⟩
          case measure => simp [intOf]; omega
        · have hje : j = k := by omega
          subst hje
          go_wp2_with fail
          go_end0
          exact ⟨rfl, HBL.out⟩
    · obtain rfl : k = c := by omega
      clear hk
      have d1 : decide ((n : Int) + 12 < (k : Int)) = false := decide_eq_false hcn
      have hc0 : (0 : Int) ≤ (k : Int) := Int.natCast_nonneg _
      go_enter Tryz.func74, Tryz.ntmps74
      go_wp2_with fail
      go_loopw [3] (fun i wr => ∃ j : Nat, j ≤ k ∧ i = .int .i64 j ∧ Below B w wr ∧ RowB wr g (k * 4)) (fun i _ => k - (intOf i).toNat)
      case atStart => exact ⟨0, Nat.zero_le _, rfl, Below.refl _ _, HR.out⟩
      case round =>
        obtain ⟨j, hj, rfl, hbel, hst⟩ := hrel
        have HBL := Lib.hid hbel
        have HST := Lib.hid hst
        clear hbel hst
        by_cases hlt : j < k
        · obtain ⟨hcs, hfs⟩ := HST.out
          obtain ⟨x0, hx0⟩ := hcs (j * 4) (by omega)
          obtain ⟨x1, hx1⟩ := hcs (j * 4 + 1) (by omega)
          obtain ⟨x2, hx2⟩ := hcs (j * 4 + 2) (by omega)
          obtain ⟨x3, hx3⟩ := hcs (j * 4 + 3) (by omega)
          have hf0 := hfs (j * 4) (by omega)
          have hf1 := hfs (j * 4 + 1) (by omega)
          have hf2 := hfs (j * 4 + 2) (by omega)
          have hf3 := hfs (j * 4 + 3) (by omega)
          have hblk : g < wr.heap.size := World.block_lt_of_cell? _ _ hx0
          clear hcs hfs
          have hj0 : (0 : Int) ≤ (j : Int) := Int.natCast_nonneg _
          have hj1 : (j : Int) < (k : Int) := by omega
          have hmk := fun w' => markSh2_w j (by omega) w'
          unfold shV at hmk
          obtain ⟨⟨⟨yl, yh⟩, yg, ye⟩, hy⟩ : ∃ y, markSh2 j = y := ⟨_, rfl⟩
          rw [hy] at hmk
          simp only at hmk
          clear hy
          have HMK := Lib.hid hmk
          have HFIN : Hid (∀ w2, Ok wr w2 → ∀ y0 y1 y2 y3, Below B w ((((w2.setCell ⟨g, j * 4, none⟩ y0).setCell ⟨g, j * 4 + 1, none⟩ y1).setCell ⟨g, j * 4 + 2, none⟩ y2).setCell ⟨g, j * 4 + 3, none⟩ y3) ∧ RowB ((((w2.setCell ⟨g, j * 4, none⟩ y0).setCell ⟨g, j * 4 + 1, none⟩ y1).setCell ⟨g, j * 4 + 2, none⟩ y2).setCell ⟨g, j * 4 + 3, none⟩ y3) g (k * 4)) := Lib.hid fun w2 k2 y0 y1 y2 y3 =>
            ⟨Below.setCell (Below.setCell (Below.setCell (Below.setCell (Below.trans HBL.out (k2.mono (by omega))) hB _) hB _) hB _) hB _, ((((HST.out.ok k2).set _ _).set _ _).set _ _).set _ _⟩
          clear hmk
          go_wp2_with fail
          (with_reducible refine (HMK.out _).mono ?_)
          rintro e w2 ⟨rfl, o2⟩
          replace hx0 := Ok.cell o2 hx0
          replace hx1 := Ok.cell o2 hx1
          replace hx2 := Ok.cell o2 hx2
          replace hx3 := Ok.cell o2 hx3
          replace hf0 := (Below.frozen o2 (p := ⟨g, j * 4, none⟩) hblk).trans hf0
          replace hf1 := (Below.frozen o2 (p := ⟨g, j * 4 + 1, none⟩) hblk).trans hf1
          replace hf2 := (Below.frozen o2 (p := ⟨g, j * 4 + 2, none⟩) hblk).trans hf2
          replace hf3 := (Below.frozen o2 (p := ⟨g, j * 4 + 3, none⟩) hblk).trans hf3
          have HF2 := Lib.hid (fun y0 y1 y2 y3 => HFIN.out w2 o2 y0 y1 y2 y3)
          clear o2 HFIN
          go_wp2_with fail
          go_roundw
          case rel => exact ⟨j + 1, by omega, by go_num, (HF2.out _ _ _ _).1, (HF2.out _ _ _ _).2⟩
          case measure => simp [intOf]; omega
        · have hje : j = k := by omega
          subst hje
          go_wp2_with fail
          go_end0
          exact ⟨rfl, HBL.out⟩

/-- What LentShares leaves. -/
def LentP (w : World) (ep : Int) (zs : List Sh) : Ending → World → Prop := fun e w' => ∃ g cap, e = .returned (.agg #[.int .i64 ep, .slice (some ⟨g, 0, none⟩) zs.length cap]) ∧ zs.length + 12 ≤ cap ∧ w.heap.size ≤ g ∧ g < w'.heap.size ∧ Ok w w' ∧ SharesAt w' (some ⟨g, 0, none⟩) (zs ++ marksSh 12)
set_option maxRecDepth 100000 in
set_option maxHeartbeats 2000000 in
theorem lentShares_w (ep : Int) (A : Option Addr) (n c : Nat) (zs : List Sh) (hn : zs.length = n) (hn6 : n ≤ 10000) (w : World) (hI : SharesAt w A zs) (hA0 : A = none → c = 0) :
    Calls Tryz.prog 10 #[.agg #[.int .i64 ep, .slice A n c]] w (LentP w ep zs) := by
  have HR := Lib.hid (fun w' (k : Ok w w') => lentRows_w A n c zs hn hn6 w' (hI.ok k) hA0)
  have HN := Lib.hid hn
  clear hI hA0 hn
  obtain ⟨p, hp⟩ : ∃ p, w.heap.size = p := ⟨_, rfl⟩
  go_enter Tryz.func10, Tryz.ntmps10
  go_wp2_with fail
  generalize hW : (w.alloc (.cells #[.int .i64 ep, .slice A n c] 24)).alloc (.cells #[.int .i64 0, .slice none 0 0] 24) = W
  have S0 : W.cell? ⟨p, 0, none⟩ = some (.int .i64 ep) := by subst hW; subst hp; go_cell
  have S1 : W.cell? ⟨p, 1, none⟩ = some (.slice A n c) := by subst hW; subst hp; go_cell
  have T0 : W.cell? ⟨p + 1, 0, none⟩ = some (.int .i64 0) := by subst hW; subst hp; go_cell
  have T1 : W.cell? ⟨p + 1, 1, none⟩ = some (.slice none 0 0) := by subst hW; subst hp; go_cell
  have f1 : W.frozen? ⟨p, 1, none⟩ = false := by subst hW; subst hp; go_cell
  have t0 : W.frozen? ⟨p + 1, 0, none⟩ = false := by subst hW; subst hp; go_cell
  have t1 : W.frozen? ⟨p + 1, 1, none⟩ = false := by subst hW; subst hp; go_cell
  have okW : Ok w W := by subst hW; exact Ok.alloc (Ok.alloc (Ok.refl w) _) _
  have hpz : p + 1 < W.heap.size := by subst hW; subst hp; simp
  clear hW
  (with_reducible refine (HR.out W okW).mono ?_)
  rintro _ w1 ⟨g, cap, rfl, hcap, hg, hg1, o1, hat⟩
  replace S0 := Ok.cell o1 S0
  replace S1 := Ok.cell o1 S1
  replace T0 := Ok.cell o1 T0
  replace T1 := Ok.cell o1 T1
  replace f1 := (Below.frozen o1 (p := ⟨p, 1, none⟩) (by show p < _; omega)).trans f1
  replace t0 := (Below.frozen o1 (p := ⟨p + 1, 0, none⟩) hpz).trans t0
  replace t1 := (Below.frozen o1 (p := ⟨p + 1, 1, none⟩) hpz).trans t1
  have n1 : p ≠ p + 1 := by omega
  have n2 : p + 1 ≠ p := by omega
  have hgp : g ≠ p := by omega
  have hgq : g ≠ p + 1 := by omega
  have T' := two_put2 (p := p + 1) (a := .int .i64 ep) (b := .slice (some ⟨g, 0, none⟩) zs.length cap) (other (p := p) (i := 1) (v := .slice (some ⟨g, 0, none⟩) zs.length cap) n2 T0) (other (p := p) (i := 1) (v := .slice (some ⟨g, 0, none⟩) zs.length cap) n2 T1)
  have okF : Ok w (put2 (w1.setCell ⟨p, 1, none⟩ (.slice (some ⟨g, 0, none⟩) zs.length cap)) (p + 1) (.int .i64 ep) (.slice (some ⟨g, 0, none⟩) zs.length cap)) := Ok.put2 (Ok.set (Ok.call okW o1) (by show _ ≤ p; omega) _) (by omega)
  have hatF : SharesAt (put2 (w1.setCell ⟨p, 1, none⟩ (.slice (some ⟨g, 0, none⟩) zs.length cap)) (p + 1) (.int .i64 ep) (.slice (some ⟨g, 0, none⟩) zs.length cap)) (some ⟨g, 0, none⟩) (zs ++ marksSh 12) := by
    have k1 : ∀ q, q ≠ g → ∀ (b off : Nat), (some ⟨g, 0, none⟩ : Option Addr) = some ⟨b, off, none⟩ → b ≠ q := fun q hq b off e => by
      simp only [Option.some.injEq, Addr.mk.injEq] at e; omega
    exact (hat.set (k1 p (fun e => hgp e.symm)) 1 _).put2 (k1 (p + 1) (fun e => hgq e.symm)) _ _
  have hsz : g < (put2 (w1.setCell ⟨p, 1, none⟩ (.slice (some ⟨g, 0, none⟩) zs.length cap)) (p + 1) (.int .i64 ep) (.slice (some ⟨g, 0, none⟩) zs.length cap)).heap.size := by
    unfold put2; simp; exact hg1
  have HFIN : Hid (∀ e, e = .returned (.agg #[.int .i64 ep, .slice (some ⟨g, 0, none⟩) zs.length cap]) → LentP w ep zs e (put2 (w1.setCell ⟨p, 1, none⟩ (.slice (some ⟨g, 0, none⟩) zs.length cap)) (p + 1) (.int .i64 ep) (.slice (some ⟨g, 0, none⟩) zs.length cap))) := Lib.hid fun e he => ⟨g, cap, he, hcap, by have := okW.size; omega, hsz, okF, hatF⟩
  have HT := Lib.hid T'
  clear T' hcap hg hg1 o1 hat okF hatF hsz okW
  go_wp2_with fail
  (try simp only [Exit.inBlock, Exit.then])
  change bodyPost Tryz.prog _ _ Exit.ret _ (put2 (w1.setCell ⟨p, 1, none⟩ (.slice (some ⟨g, 0, none⟩) zs.length cap)) (p + 1) (.int .i64 ep) (.slice (some ⟨g, 0, none⟩) zs.length cap))
  have hT := HT.out
  generalize put2 (w1.setCell ⟨p, 1, none⟩ (.slice (some ⟨g, 0, none⟩) zs.length cap)) (p + 1) (.int .i64 ep) (.slice (some ⟨g, 0, none⟩) zs.length cap) = Z at hT HFIN ⊢
  obtain ⟨hT0, hT1⟩ := hT
  refine bodyPost_ret (by simp [results, Tryz.results10, hT0, hT1, go_sem]; try rfl) rfl ?_
  exact HFIN.out _ rfl

set_option maxRecDepth 100000 in
set_option maxHeartbeats 2000000 in
theorem keptShares_w (ep : Int) (g cap : Nat) (A : Option Addr) (n c : Nat) (zs : List Sh) (hn : zs.length = n) (hn6 : n ≤ 10000) (w : World) (hcap : n + 12 ≤ cap)
    (hG : SharesAt w (some ⟨g, 0, none⟩) (zs ++ marksSh 12)) (hI : SharesAt w A zs) :
    Calls Tryz.prog 26 #[.agg #[.int .i64 ep, .slice (some ⟨g, 0, none⟩) n cap], .agg #[.int .i64 ep, .slice A n c]] w (Ret w (.bool true)) := by
  have hG0 : SharesAt w (some ⟨g, 0, none⟩) zs := fun j hj => by
    have := hG j (by rw [List.length_append]; omega)
    rwa [lentSh_at0 zs j hj] at this
  have HS := Lib.hid (fun w' (k : Ok w w') => sameShares_w ep (some ⟨g, 0, none⟩) A n cap c zs hn (by omega) w' (hG0.ok k) (hI.ok k))
  have HK := Lib.hid (fun w' (k : Ok w w') => keptRows_w g cap A n c zs hn hn6 w' hcap (hG.ok k) (hI.ok k))
  clear hG hG0 hI
  obtain ⟨p, hp⟩ : ∃ p, w.heap.size = p := ⟨_, rfl⟩
  go_enter Tryz.func26, Tryz.ntmps26
  go_wp2_with fail
  generalize hW : (w.alloc (.cells #[.int .i64 ep, .slice (some ⟨g, 0, none⟩) n cap] 24)).alloc (.cells #[.int .i64 ep, .slice A n c] 24) = W
  have S0 : W.cell? ⟨p, 0, none⟩ = some (.int .i64 ep) := by subst hW; subst hp; go_cell
  have S1 : W.cell? ⟨p, 1, none⟩ = some (.slice (some ⟨g, 0, none⟩) n cap) := by subst hW; subst hp; go_cell
  have T0 : W.cell? ⟨p + 1, 0, none⟩ = some (.int .i64 ep) := by subst hW; subst hp; go_cell
  have T1 : W.cell? ⟨p + 1, 1, none⟩ = some (.slice A n c) := by subst hW; subst hp; go_cell
  have okW : Hid (Ok w W) := Lib.hid (by subst hW; exact Ok.alloc (Ok.alloc (Ok.refl w) _) _)
  clear hW hp
  (with_reducible refine (HS.out W okW.out).mono ?_)
  rintro _ w1 ⟨rfl, o1⟩
  replace S1 := Ok.cell o1 S1
  replace T1 := Ok.cell o1 T1
  replace okW := Lib.hid (Ok.call okW.out o1)
  clear o1 S0 T0
  go_wp2_with fail
  (with_reducible refine (HK.out w1 okW.out).mono ?_)
  rintro _ w2 ⟨rfl, o2⟩
  go_wp2
  go_ret
  exact ⟨rfl, Ok.call okW.out o2⟩

set_option maxRecDepth 100000 in
set_option maxHeartbeats 2000000 in
theorem overShares_w (ep : Int) (A : Option Addr) (n c : Nat) (B : Nat) (w : World) (hB : B ≤ w.heap.size) (h : RowV w B A n c) : Calls Tryz.prog 25 #[.agg #[.int .i64 ep, .slice A n c]] w (OverP B w) := by
  have HR := Lib.hid (fun w' (k : Ok w w') => overRows_w A n c B w' (h.ok k))
  clear h
  go_enter Tryz.func25, Tryz.ntmps25
  go_wp2_with fail
  have okW : Ok w (w.alloc (.cells #[.int .i64 ep, .slice A n c] 24)) := Ok.alloc (Ok.refl w) _
  (with_reducible refine (HR.out _ okW).mono ?_)
  rintro _ w1 ⟨rfl, o1⟩
  have HF : Hid (Below B w w1) := Lib.hid (Below.trans (Below.mono okW hB) o1)
  clear o1 okW
  go_wp2_with fail
  go_end0
  exact ⟨rfl, HF.out⟩
end Go.Proofs.YtdabdkedgigjdaaGreat
namespace Go.Proofs.YtdabdkedgigjdaaGreat
open Go.RowKit

theorem sc_iff (num : Int) (lo hi : Str) (fr tt xe un st : Int) : scB ⟨num, ⟨lo, hi⟩, fr, tt, xe, un, st⟩ = true ↔ (1 ≤ num ∧ num ≤ 1073741824) ∧ rightB ⟨lo, hi⟩ = true ∧ (1 ≤ fr ∧ fr ≤ 4) ∧ (1 ≤ tt ∧ tt ≤ 4) ∧ fr ≠ tt ∧ (1 ≤ xe ∧ xe ≤ 1073741824) ∧ (1 ≤ st ∧ st ≤ 9) ∧ (if 4 ≤ st ∧ st ≤ 6 then xe < un ∧ un ≤ 1073741824 else un = 0) := by
  unfold scB sc1 sc2 unB tuB upM stB
  simp only [Bool.and_eq_true, decide_eq_true_eq, Bool.not_eq_true', beq_eq_false_iff_ne, ne_eq]
  by_cases h : 4 ≤ st ∧ st ≤ 6
  · rw [if_pos h, if_pos h]
    simp only [Bool.and_eq_true, decide_eq_true_eq]
    constructor
    · rintro ⟨⟨⟨⟨⟨⟨a, b⟩, c⟩, d⟩, e⟩, f, g⟩, i⟩; exact ⟨a, b, c, d, e, f, g, i⟩
    · rintro ⟨a, b, c, d, e, f, g, i⟩; exact ⟨⟨⟨⟨⟨⟨a, b⟩, c⟩, d⟩, e⟩, f, g⟩, i⟩
  · rw [if_neg h, if_neg h]
    simp only [beq_iff_eq]
    constructor
    · rintro ⟨⟨⟨⟨⟨⟨a, b⟩, c⟩, d⟩, e⟩, f, g⟩, i⟩; exact ⟨a, b, c, d, e, f, g, i⟩
    · rintro ⟨a, b, c, d, e, f, g, i⟩; exact ⟨⟨⟨⟨⟨⟨a, b⟩, c⟩, d⟩, e⟩, f, g⟩, i⟩

set_option maxRecDepth 100000 in
set_option maxHeartbeats 4000000 in
theorem rone_w (x : Sc) (w : World) : Calls Tryz.prog 79 #[scV x] w (Ret w (.bool (scB x))) := by
  obtain ⟨num, ⟨lo, hi⟩, fr, tt, xe, un, st⟩ := x
  have hiff := sc_iff num lo hi fr tt xe un st
  obtain ⟨R, hR⟩ : ∃ R, scB ⟨num, ⟨lo, hi⟩, fr, tt, xe, un, st⟩ = R := ⟨_, rfl⟩
  rw [hR] at hiff ⊢
  clear hR
  have hrr := rright_w ⟨lo, hi⟩
  obtain ⟨rb, hrb⟩ : ∃ b, rightB ⟨lo, hi⟩ = b := ⟨_, rfl⟩
  rw [hrb] at hrr hiff
  clear hrb
  unfold spV at hrr
  simp only at hrr
  have HRR := Lib.hid hrr
  clear hrr
  unfold scV
  simp only
  obtain ⟨p, hp⟩ : ∃ p, w.heap.size = p := ⟨_, rfl⟩
  by_cases c0 : num < 1
  · have d0 : decide (num < 1) = true := decide_eq_true c0
    obtain rfl : R = false := Bool.eq_false_iff.2 (fun h => by have := hiff.1 h; omega)
    clear hiff c0
    go_enter Tryz.func79, Tryz.ntmps79
    go_wp2
    go_ret
    exact ⟨by first | rfl | simp, Ok.alloc (Ok.refl _) _⟩
  have d0 : decide (num < 1) = false := decide_eq_false c0
  have C0 := Lib.hid c0
  clear c0
  by_cases c1 : 1073741824 < num
  · have d1 : decide (1073741824 < num) = true := decide_eq_true c1
    obtain rfl : R = false := Bool.eq_false_iff.2 (fun h => by have := hiff.1 h; omega)
    clear hiff c1
    go_enter Tryz.func79, Tryz.ntmps79
    go_wp2
    go_ret
    exact ⟨by first | rfl | simp, Ok.alloc (Ok.refl _) _⟩
  have d1 : decide (1073741824 < num) = false := decide_eq_false c1
  have C1 := Lib.hid c1
  clear c1
  cases rb with
  | false =>
    obtain rfl : R = false := Bool.eq_false_iff.2 (fun h => absurd (hiff.1 h).2.1 (by decide))
    clear hiff
    go_enter Tryz.func79, Tryz.ntmps79
    go_wp2_with fail
    obtain ⟨W, hW⟩ : ∃ W, w.alloc (.cells #[.int .i64 num, .string lo, .string hi, .int .i64 fr, .int .i64 tt, .int .i64 xe, .int .i64 un, .int .u8 st] 52) = W := ⟨_, rfl⟩
    have X2 : W.cell? ⟨p, 3, none⟩ = some (.int .i64 fr) := by subst hW; subst hp; go_cell
    have X3 : W.cell? ⟨p, 4, none⟩ = some (.int .i64 tt) := by subst hW; subst hp; go_cell
    have X4 : W.cell? ⟨p, 5, none⟩ = some (.int .i64 xe) := by subst hW; subst hp; go_cell
    have X5 : W.cell? ⟨p, 6, none⟩ = some (.int .i64 un) := by subst hW; subst hp; go_cell
    have X6 : W.cell? ⟨p, 7, none⟩ = some (.int .u8 st) := by subst hW; subst hp; go_cell
    have oW : Ok w W := by rw [← hW]; exact Ok.alloc (Ok.refl _) _
    try rw [hp]
    rw [hW]
    clear hW hp
    (with_reducible refine (HRR.out W).mono ?_)
    rintro _ w1 ⟨rfl, o1⟩
    replace X2 := Ok.cell o1 X2; replace X3 := Ok.cell o1 X3; replace X4 := Ok.cell o1 X4; replace X5 := Ok.cell o1 X5; replace X6 := Ok.cell o1 X6
    have OK1 := Lib.hid (Ok.call oW o1)
    clear o1 oW
    go_wp2
    go_ret
    exact ⟨by first | rfl | simp, OK1.out⟩
  | true =>
  by_cases c3 : fr < 1
  · have d3 : decide (fr < 1) = true := decide_eq_true c3
    obtain rfl : R = false := Bool.eq_false_iff.2 (fun h => by have := hiff.1 h; omega)
    clear hiff c3
    go_enter Tryz.func79, Tryz.ntmps79
    go_wp2_with fail
    obtain ⟨W, hW⟩ : ∃ W, w.alloc (.cells #[.int .i64 num, .string lo, .string hi, .int .i64 fr, .int .i64 tt, .int .i64 xe, .int .i64 un, .int .u8 st] 52) = W := ⟨_, rfl⟩
    have X2 : W.cell? ⟨p, 3, none⟩ = some (.int .i64 fr) := by subst hW; subst hp; go_cell
    have X3 : W.cell? ⟨p, 4, none⟩ = some (.int .i64 tt) := by subst hW; subst hp; go_cell
    have X4 : W.cell? ⟨p, 5, none⟩ = some (.int .i64 xe) := by subst hW; subst hp; go_cell
    have X5 : W.cell? ⟨p, 6, none⟩ = some (.int .i64 un) := by subst hW; subst hp; go_cell
    have X6 : W.cell? ⟨p, 7, none⟩ = some (.int .u8 st) := by subst hW; subst hp; go_cell
    have oW : Ok w W := by rw [← hW]; exact Ok.alloc (Ok.refl _) _
    try rw [hp]
    rw [hW]
    clear hW hp
    (with_reducible refine (HRR.out W).mono ?_)
    rintro _ w1 ⟨rfl, o1⟩
    replace X2 := Ok.cell o1 X2; replace X3 := Ok.cell o1 X3; replace X4 := Ok.cell o1 X4; replace X5 := Ok.cell o1 X5; replace X6 := Ok.cell o1 X6
    have OK1 := Lib.hid (Ok.call oW o1)
    clear o1 oW
    go_wp2
    go_ret
    exact ⟨by first | rfl | simp, OK1.out⟩
  have d3 : decide (fr < 1) = false := decide_eq_false c3
  have C3 := Lib.hid c3
  clear c3
  by_cases c4 : 4 < fr
  · have d4 : decide (4 < fr) = true := decide_eq_true c4
    obtain rfl : R = false := Bool.eq_false_iff.2 (fun h => by have := hiff.1 h; omega)
    clear hiff c4
    go_enter Tryz.func79, Tryz.ntmps79
    go_wp2_with fail
    obtain ⟨W, hW⟩ : ∃ W, w.alloc (.cells #[.int .i64 num, .string lo, .string hi, .int .i64 fr, .int .i64 tt, .int .i64 xe, .int .i64 un, .int .u8 st] 52) = W := ⟨_, rfl⟩
    have X2 : W.cell? ⟨p, 3, none⟩ = some (.int .i64 fr) := by subst hW; subst hp; go_cell
    have X3 : W.cell? ⟨p, 4, none⟩ = some (.int .i64 tt) := by subst hW; subst hp; go_cell
    have X4 : W.cell? ⟨p, 5, none⟩ = some (.int .i64 xe) := by subst hW; subst hp; go_cell
    have X5 : W.cell? ⟨p, 6, none⟩ = some (.int .i64 un) := by subst hW; subst hp; go_cell
    have X6 : W.cell? ⟨p, 7, none⟩ = some (.int .u8 st) := by subst hW; subst hp; go_cell
    have oW : Ok w W := by rw [← hW]; exact Ok.alloc (Ok.refl _) _
    try rw [hp]
    rw [hW]
    clear hW hp
    (with_reducible refine (HRR.out W).mono ?_)
    rintro _ w1 ⟨rfl, o1⟩
    replace X2 := Ok.cell o1 X2; replace X3 := Ok.cell o1 X3; replace X4 := Ok.cell o1 X4; replace X5 := Ok.cell o1 X5; replace X6 := Ok.cell o1 X6
    have OK1 := Lib.hid (Ok.call oW o1)
    clear o1 oW
    go_wp2
    go_ret
    exact ⟨by first | rfl | simp, OK1.out⟩
  have d4 : decide (4 < fr) = false := decide_eq_false c4
  have C4 := Lib.hid c4
  clear c4
  by_cases c5 : tt < 1
  · have d5 : decide (tt < 1) = true := decide_eq_true c5
    obtain rfl : R = false := Bool.eq_false_iff.2 (fun h => by have := hiff.1 h; omega)
    clear hiff c5
    go_enter Tryz.func79, Tryz.ntmps79
    go_wp2_with fail
    obtain ⟨W, hW⟩ : ∃ W, w.alloc (.cells #[.int .i64 num, .string lo, .string hi, .int .i64 fr, .int .i64 tt, .int .i64 xe, .int .i64 un, .int .u8 st] 52) = W := ⟨_, rfl⟩
    have X2 : W.cell? ⟨p, 3, none⟩ = some (.int .i64 fr) := by subst hW; subst hp; go_cell
    have X3 : W.cell? ⟨p, 4, none⟩ = some (.int .i64 tt) := by subst hW; subst hp; go_cell
    have X4 : W.cell? ⟨p, 5, none⟩ = some (.int .i64 xe) := by subst hW; subst hp; go_cell
    have X5 : W.cell? ⟨p, 6, none⟩ = some (.int .i64 un) := by subst hW; subst hp; go_cell
    have X6 : W.cell? ⟨p, 7, none⟩ = some (.int .u8 st) := by subst hW; subst hp; go_cell
    have oW : Ok w W := by rw [← hW]; exact Ok.alloc (Ok.refl _) _
    try rw [hp]
    rw [hW]
    clear hW hp
    (with_reducible refine (HRR.out W).mono ?_)
    rintro _ w1 ⟨rfl, o1⟩
    replace X2 := Ok.cell o1 X2; replace X3 := Ok.cell o1 X3; replace X4 := Ok.cell o1 X4; replace X5 := Ok.cell o1 X5; replace X6 := Ok.cell o1 X6
    have OK1 := Lib.hid (Ok.call oW o1)
    clear o1 oW
    go_wp2
    go_ret
    exact ⟨by first | rfl | simp, OK1.out⟩
  have d5 : decide (tt < 1) = false := decide_eq_false c5
  have C5 := Lib.hid c5
  clear c5
  by_cases c6 : 4 < tt
  · have d6 : decide (4 < tt) = true := decide_eq_true c6
    obtain rfl : R = false := Bool.eq_false_iff.2 (fun h => by have := hiff.1 h; omega)
    clear hiff c6
    go_enter Tryz.func79, Tryz.ntmps79
    go_wp2_with fail
    obtain ⟨W, hW⟩ : ∃ W, w.alloc (.cells #[.int .i64 num, .string lo, .string hi, .int .i64 fr, .int .i64 tt, .int .i64 xe, .int .i64 un, .int .u8 st] 52) = W := ⟨_, rfl⟩
    have X2 : W.cell? ⟨p, 3, none⟩ = some (.int .i64 fr) := by subst hW; subst hp; go_cell
    have X3 : W.cell? ⟨p, 4, none⟩ = some (.int .i64 tt) := by subst hW; subst hp; go_cell
    have X4 : W.cell? ⟨p, 5, none⟩ = some (.int .i64 xe) := by subst hW; subst hp; go_cell
    have X5 : W.cell? ⟨p, 6, none⟩ = some (.int .i64 un) := by subst hW; subst hp; go_cell
    have X6 : W.cell? ⟨p, 7, none⟩ = some (.int .u8 st) := by subst hW; subst hp; go_cell
    have oW : Ok w W := by rw [← hW]; exact Ok.alloc (Ok.refl _) _
    try rw [hp]
    rw [hW]
    clear hW hp
    (with_reducible refine (HRR.out W).mono ?_)
    rintro _ w1 ⟨rfl, o1⟩
    replace X2 := Ok.cell o1 X2; replace X3 := Ok.cell o1 X3; replace X4 := Ok.cell o1 X4; replace X5 := Ok.cell o1 X5; replace X6 := Ok.cell o1 X6
    have OK1 := Lib.hid (Ok.call oW o1)
    clear o1 oW
    go_wp2
    go_ret
    exact ⟨by first | rfl | simp, OK1.out⟩
  have d6 : decide (4 < tt) = false := decide_eq_false c6
  have C6 := Lib.hid c6
  clear c6
  by_cases c7 : fr = tt
  · have d7 : (fr == tt) = true := beq_iff_eq.2 c7
    obtain rfl : R = false := Bool.eq_false_iff.2 (fun h => (hiff.1 h).2.2.2.2.1 c7)
    clear hiff c7
    go_enter Tryz.func79, Tryz.ntmps79
    go_wp2_with fail
    obtain ⟨W, hW⟩ : ∃ W, w.alloc (.cells #[.int .i64 num, .string lo, .string hi, .int .i64 fr, .int .i64 tt, .int .i64 xe, .int .i64 un, .int .u8 st] 52) = W := ⟨_, rfl⟩
    have X2 : W.cell? ⟨p, 3, none⟩ = some (.int .i64 fr) := by subst hW; subst hp; go_cell
    have X3 : W.cell? ⟨p, 4, none⟩ = some (.int .i64 tt) := by subst hW; subst hp; go_cell
    have X4 : W.cell? ⟨p, 5, none⟩ = some (.int .i64 xe) := by subst hW; subst hp; go_cell
    have X5 : W.cell? ⟨p, 6, none⟩ = some (.int .i64 un) := by subst hW; subst hp; go_cell
    have X6 : W.cell? ⟨p, 7, none⟩ = some (.int .u8 st) := by subst hW; subst hp; go_cell
    have oW : Ok w W := by rw [← hW]; exact Ok.alloc (Ok.refl _) _
    try rw [hp]
    rw [hW]
    clear hW hp
    (with_reducible refine (HRR.out W).mono ?_)
    rintro _ w1 ⟨rfl, o1⟩
    replace X2 := Ok.cell o1 X2; replace X3 := Ok.cell o1 X3; replace X4 := Ok.cell o1 X4; replace X5 := Ok.cell o1 X5; replace X6 := Ok.cell o1 X6
    have OK1 := Lib.hid (Ok.call oW o1)
    clear o1 oW
    go_wp2
    go_ret
    exact ⟨by first | rfl | simp, OK1.out⟩
  have d7 : (fr == tt) = false := beq_eq_false_iff_ne.2 c7
  have C7 := Lib.hid c7
  clear c7
  by_cases c8 : xe < 1
  · have d8 : decide (xe < 1) = true := decide_eq_true c8
    obtain rfl : R = false := Bool.eq_false_iff.2 (fun h => by have := hiff.1 h; omega)
    clear hiff c8
    go_enter Tryz.func79, Tryz.ntmps79
    go_wp2_with fail
    obtain ⟨W, hW⟩ : ∃ W, w.alloc (.cells #[.int .i64 num, .string lo, .string hi, .int .i64 fr, .int .i64 tt, .int .i64 xe, .int .i64 un, .int .u8 st] 52) = W := ⟨_, rfl⟩
    have X2 : W.cell? ⟨p, 3, none⟩ = some (.int .i64 fr) := by subst hW; subst hp; go_cell
    have X3 : W.cell? ⟨p, 4, none⟩ = some (.int .i64 tt) := by subst hW; subst hp; go_cell
    have X4 : W.cell? ⟨p, 5, none⟩ = some (.int .i64 xe) := by subst hW; subst hp; go_cell
    have X5 : W.cell? ⟨p, 6, none⟩ = some (.int .i64 un) := by subst hW; subst hp; go_cell
    have X6 : W.cell? ⟨p, 7, none⟩ = some (.int .u8 st) := by subst hW; subst hp; go_cell
    have oW : Ok w W := by rw [← hW]; exact Ok.alloc (Ok.refl _) _
    try rw [hp]
    rw [hW]
    clear hW hp
    (with_reducible refine (HRR.out W).mono ?_)
    rintro _ w1 ⟨rfl, o1⟩
    replace X2 := Ok.cell o1 X2; replace X3 := Ok.cell o1 X3; replace X4 := Ok.cell o1 X4; replace X5 := Ok.cell o1 X5; replace X6 := Ok.cell o1 X6
    have OK1 := Lib.hid (Ok.call oW o1)
    clear o1 oW
    go_wp2
    go_ret
    exact ⟨by first | rfl | simp, OK1.out⟩
  have d8 : decide (xe < 1) = false := decide_eq_false c8
  have C8 := Lib.hid c8
  clear c8
  by_cases c9 : 1073741824 < xe
  · have d9 : decide (1073741824 < xe) = true := decide_eq_true c9
    obtain rfl : R = false := Bool.eq_false_iff.2 (fun h => by have := hiff.1 h; omega)
    clear hiff c9
    go_enter Tryz.func79, Tryz.ntmps79
    go_wp2_with fail
    obtain ⟨W, hW⟩ : ∃ W, w.alloc (.cells #[.int .i64 num, .string lo, .string hi, .int .i64 fr, .int .i64 tt, .int .i64 xe, .int .i64 un, .int .u8 st] 52) = W := ⟨_, rfl⟩
    have X2 : W.cell? ⟨p, 3, none⟩ = some (.int .i64 fr) := by subst hW; subst hp; go_cell
    have X3 : W.cell? ⟨p, 4, none⟩ = some (.int .i64 tt) := by subst hW; subst hp; go_cell
    have X4 : W.cell? ⟨p, 5, none⟩ = some (.int .i64 xe) := by subst hW; subst hp; go_cell
    have X5 : W.cell? ⟨p, 6, none⟩ = some (.int .i64 un) := by subst hW; subst hp; go_cell
    have X6 : W.cell? ⟨p, 7, none⟩ = some (.int .u8 st) := by subst hW; subst hp; go_cell
    have oW : Ok w W := by rw [← hW]; exact Ok.alloc (Ok.refl _) _
    try rw [hp]
    rw [hW]
    clear hW hp
    (with_reducible refine (HRR.out W).mono ?_)
    rintro _ w1 ⟨rfl, o1⟩
    replace X2 := Ok.cell o1 X2; replace X3 := Ok.cell o1 X3; replace X4 := Ok.cell o1 X4; replace X5 := Ok.cell o1 X5; replace X6 := Ok.cell o1 X6
    have OK1 := Lib.hid (Ok.call oW o1)
    clear o1 oW
    go_wp2
    go_ret
    exact ⟨by first | rfl | simp, OK1.out⟩
  have d9 : decide (1073741824 < xe) = false := decide_eq_false c9
  have C9 := Lib.hid c9
  clear c9
  by_cases c10 : st < 1
  · have d10 : decide (st < 1) = true := decide_eq_true c10
    obtain rfl : R = false := Bool.eq_false_iff.2 (fun h => by have := hiff.1 h; omega)
    clear hiff c10
    go_enter Tryz.func79, Tryz.ntmps79
    go_wp2_with fail
    obtain ⟨W, hW⟩ : ∃ W, w.alloc (.cells #[.int .i64 num, .string lo, .string hi, .int .i64 fr, .int .i64 tt, .int .i64 xe, .int .i64 un, .int .u8 st] 52) = W := ⟨_, rfl⟩
    have X2 : W.cell? ⟨p, 3, none⟩ = some (.int .i64 fr) := by subst hW; subst hp; go_cell
    have X3 : W.cell? ⟨p, 4, none⟩ = some (.int .i64 tt) := by subst hW; subst hp; go_cell
    have X4 : W.cell? ⟨p, 5, none⟩ = some (.int .i64 xe) := by subst hW; subst hp; go_cell
    have X5 : W.cell? ⟨p, 6, none⟩ = some (.int .i64 un) := by subst hW; subst hp; go_cell
    have X6 : W.cell? ⟨p, 7, none⟩ = some (.int .u8 st) := by subst hW; subst hp; go_cell
    have oW : Ok w W := by rw [← hW]; exact Ok.alloc (Ok.refl _) _
    try rw [hp]
    rw [hW]
    clear hW hp
    (with_reducible refine (HRR.out W).mono ?_)
    rintro _ w1 ⟨rfl, o1⟩
    replace X2 := Ok.cell o1 X2; replace X3 := Ok.cell o1 X3; replace X4 := Ok.cell o1 X4; replace X5 := Ok.cell o1 X5; replace X6 := Ok.cell o1 X6
    have OK1 := Lib.hid (Ok.call oW o1)
    clear o1 oW
    go_wp2
    go_ret
    exact ⟨by first | rfl | simp, OK1.out⟩
  have d10 : decide (st < 1) = false := decide_eq_false c10
  have C10 := Lib.hid c10
  clear c10
  by_cases c11 : 9 < st
  · have d11 : decide (9 < st) = true := decide_eq_true c11
    obtain rfl : R = false := Bool.eq_false_iff.2 (fun h => by have := hiff.1 h; omega)
    clear hiff c11
    go_enter Tryz.func79, Tryz.ntmps79
    go_wp2_with fail
    obtain ⟨W, hW⟩ : ∃ W, w.alloc (.cells #[.int .i64 num, .string lo, .string hi, .int .i64 fr, .int .i64 tt, .int .i64 xe, .int .i64 un, .int .u8 st] 52) = W := ⟨_, rfl⟩
    have X2 : W.cell? ⟨p, 3, none⟩ = some (.int .i64 fr) := by subst hW; subst hp; go_cell
    have X3 : W.cell? ⟨p, 4, none⟩ = some (.int .i64 tt) := by subst hW; subst hp; go_cell
    have X4 : W.cell? ⟨p, 5, none⟩ = some (.int .i64 xe) := by subst hW; subst hp; go_cell
    have X5 : W.cell? ⟨p, 6, none⟩ = some (.int .i64 un) := by subst hW; subst hp; go_cell
    have X6 : W.cell? ⟨p, 7, none⟩ = some (.int .u8 st) := by subst hW; subst hp; go_cell
    have oW : Ok w W := by rw [← hW]; exact Ok.alloc (Ok.refl _) _
    try rw [hp]
    rw [hW]
    clear hW hp
    (with_reducible refine (HRR.out W).mono ?_)
    rintro _ w1 ⟨rfl, o1⟩
    replace X2 := Ok.cell o1 X2; replace X3 := Ok.cell o1 X3; replace X4 := Ok.cell o1 X4; replace X5 := Ok.cell o1 X5; replace X6 := Ok.cell o1 X6
    have OK1 := Lib.hid (Ok.call oW o1)
    clear o1 oW
    go_wp2
    go_ret
    exact ⟨by first | rfl | simp, OK1.out⟩
  have d11 : decide (9 < st) = false := decide_eq_false c11
  have C11 := Lib.hid c11
  clear c11
  have HB : Hid (R = true ↔ (if 4 ≤ st ∧ st ≤ 6 then xe < un ∧ un ≤ 1073741824 else un = 0)) := Lib.hid (hiff.trans ⟨fun h => h.2.2.2.2.2.2.2, fun h => ⟨by have := C0.out; have := C1.out; omega, rfl, by have := C3.out; have := C4.out; omega, by have := C5.out; have := C6.out; omega, C7.out, by have := C8.out; have := C9.out; omega, by have := C10.out; have := C11.out; omega, h⟩⟩)
  clear hiff
  by_cases e1 : 4 ≤ st
  · have f1 : decide (4 ≤ st) = true := decide_eq_true e1
    by_cases e2 : st ≤ 6
    · have f2 : decide (st ≤ 6) = true := decide_eq_true e2
      by_cases e3 : xe < un
      · have f3 : decide (xe < un) = true := decide_eq_true e3
        obtain rfl : R = decide (un ≤ 1073741824) := by
          have := HB.out
          rw [if_pos ⟨e1, e2⟩] at this
          rw [Bool.eq_iff_iff, this, decide_eq_true_eq]
          exact ⟨fun h => h.2, fun h => ⟨e3, h⟩⟩
        clear e1 e2 e3 HB
        go_enter Tryz.func79, Tryz.ntmps79
        go_wp2_with fail
        obtain ⟨W, hW⟩ : ∃ W, w.alloc (.cells #[.int .i64 num, .string lo, .string hi, .int .i64 fr, .int .i64 tt, .int .i64 xe, .int .i64 un, .int .u8 st] 52) = W := ⟨_, rfl⟩
        have X2 : W.cell? ⟨p, 3, none⟩ = some (.int .i64 fr) := by subst hW; subst hp; go_cell
        have X3 : W.cell? ⟨p, 4, none⟩ = some (.int .i64 tt) := by subst hW; subst hp; go_cell
        have X4 : W.cell? ⟨p, 5, none⟩ = some (.int .i64 xe) := by subst hW; subst hp; go_cell
        have X5 : W.cell? ⟨p, 6, none⟩ = some (.int .i64 un) := by subst hW; subst hp; go_cell
        have X6 : W.cell? ⟨p, 7, none⟩ = some (.int .u8 st) := by subst hW; subst hp; go_cell
        have oW : Ok w W := by rw [← hW]; exact Ok.alloc (Ok.refl _) _
        try rw [hp]
        rw [hW]
        clear hW hp
        (with_reducible refine (HRR.out W).mono ?_)
        rintro _ w1 ⟨rfl, o1⟩
        replace X2 := Ok.cell o1 X2; replace X3 := Ok.cell o1 X3; replace X4 := Ok.cell o1 X4; replace X5 := Ok.cell o1 X5; replace X6 := Ok.cell o1 X6
        have OK1 := Lib.hid (Ok.call oW o1)
        clear o1 oW
        go_wp2
        go_ret
        exact ⟨by first | rfl | simp, OK1.out⟩
      · have f3 : decide (xe < un) = false := decide_eq_false e3
        obtain rfl : R = false := Bool.eq_false_iff.2 (fun h => by
          have := HB.out.1 h
          rw [if_pos ⟨e1, e2⟩] at this
          exact e3 this.1)
        clear e1 e2 e3 HB
        go_enter Tryz.func79, Tryz.ntmps79
        go_wp2_with fail
        obtain ⟨W, hW⟩ : ∃ W, w.alloc (.cells #[.int .i64 num, .string lo, .string hi, .int .i64 fr, .int .i64 tt, .int .i64 xe, .int .i64 un, .int .u8 st] 52) = W := ⟨_, rfl⟩
        have X2 : W.cell? ⟨p, 3, none⟩ = some (.int .i64 fr) := by subst hW; subst hp; go_cell
        have X3 : W.cell? ⟨p, 4, none⟩ = some (.int .i64 tt) := by subst hW; subst hp; go_cell
        have X4 : W.cell? ⟨p, 5, none⟩ = some (.int .i64 xe) := by subst hW; subst hp; go_cell
        have X5 : W.cell? ⟨p, 6, none⟩ = some (.int .i64 un) := by subst hW; subst hp; go_cell
        have X6 : W.cell? ⟨p, 7, none⟩ = some (.int .u8 st) := by subst hW; subst hp; go_cell
        have oW : Ok w W := by rw [← hW]; exact Ok.alloc (Ok.refl _) _
        try rw [hp]
        rw [hW]
        clear hW hp
        (with_reducible refine (HRR.out W).mono ?_)
        rintro _ w1 ⟨rfl, o1⟩
        replace X2 := Ok.cell o1 X2; replace X3 := Ok.cell o1 X3; replace X4 := Ok.cell o1 X4; replace X5 := Ok.cell o1 X5; replace X6 := Ok.cell o1 X6
        have OK1 := Lib.hid (Ok.call oW o1)
        clear o1 oW
        go_wp2
        go_ret
        exact ⟨by first | rfl | simp, OK1.out⟩
    · have f2 : decide (st ≤ 6) = false := decide_eq_false e2
      obtain rfl : R = (un == 0) := by
        have := HB.out
        rw [if_neg (fun h => e2 h.2)] at this
        rw [Bool.eq_iff_iff, this, beq_iff_eq]
      clear e1 e2 HB
      go_enter Tryz.func79, Tryz.ntmps79
      go_wp2_with fail
      obtain ⟨W, hW⟩ : ∃ W, w.alloc (.cells #[.int .i64 num, .string lo, .string hi, .int .i64 fr, .int .i64 tt, .int .i64 xe, .int .i64 un, .int .u8 st] 52) = W := ⟨_, rfl⟩
      have X2 : W.cell? ⟨p, 3, none⟩ = some (.int .i64 fr) := by subst hW; subst hp; go_cell
      have X3 : W.cell? ⟨p, 4, none⟩ = some (.int .i64 tt) := by subst hW; subst hp; go_cell
      have X4 : W.cell? ⟨p, 5, none⟩ = some (.int .i64 xe) := by subst hW; subst hp; go_cell
      have X5 : W.cell? ⟨p, 6, none⟩ = some (.int .i64 un) := by subst hW; subst hp; go_cell
      have X6 : W.cell? ⟨p, 7, none⟩ = some (.int .u8 st) := by subst hW; subst hp; go_cell
      have oW : Ok w W := by rw [← hW]; exact Ok.alloc (Ok.refl _) _
      try rw [hp]
      rw [hW]
      clear hW hp
      (with_reducible refine (HRR.out W).mono ?_)
      rintro _ w1 ⟨rfl, o1⟩
      replace X2 := Ok.cell o1 X2; replace X3 := Ok.cell o1 X3; replace X4 := Ok.cell o1 X4; replace X5 := Ok.cell o1 X5; replace X6 := Ok.cell o1 X6
      have OK1 := Lib.hid (Ok.call oW o1)
      clear o1 oW
      go_wp2
      go_ret
      exact ⟨by first | rfl | simp, OK1.out⟩
  · have f1 : decide (4 ≤ st) = false := decide_eq_false e1
    obtain rfl : R = (un == 0) := by
      have := HB.out
      rw [if_neg (fun h => e1 h.1)] at this
      rw [Bool.eq_iff_iff, this, beq_iff_eq]
    clear e1 HB
    go_enter Tryz.func79, Tryz.ntmps79
    go_wp2_with fail
    obtain ⟨W, hW⟩ : ∃ W, w.alloc (.cells #[.int .i64 num, .string lo, .string hi, .int .i64 fr, .int .i64 tt, .int .i64 xe, .int .i64 un, .int .u8 st] 52) = W := ⟨_, rfl⟩
    have X2 : W.cell? ⟨p, 3, none⟩ = some (.int .i64 fr) := by subst hW; subst hp; go_cell
    have X3 : W.cell? ⟨p, 4, none⟩ = some (.int .i64 tt) := by subst hW; subst hp; go_cell
    have X4 : W.cell? ⟨p, 5, none⟩ = some (.int .i64 xe) := by subst hW; subst hp; go_cell
    have X5 : W.cell? ⟨p, 6, none⟩ = some (.int .i64 un) := by subst hW; subst hp; go_cell
    have X6 : W.cell? ⟨p, 7, none⟩ = some (.int .u8 st) := by subst hW; subst hp; go_cell
    have oW : Ok w W := by rw [← hW]; exact Ok.alloc (Ok.refl _) _
    try rw [hp]
    rw [hW]
    clear hW hp
    (with_reducible refine (HRR.out W).mono ?_)
    rintro _ w1 ⟨rfl, o1⟩
    replace X2 := Ok.cell o1 X2; replace X3 := Ok.cell o1 X3; replace X4 := Ok.cell o1 X4; replace X5 := Ok.cell o1 X5; replace X6 := Ok.cell o1 X6
    have OK1 := Lib.hid (Ok.call oW o1)
    clear o1 oW
    go_wp2
    go_ret
    exact ⟨by first | rfl | simp, OK1.out⟩

set_option maxRecDepth 100000 in
set_option maxHeartbeats 1000000 in
theorem rover_w (x : Sc) (w : World) : Calls Tryz.prog 36 #[scV x] w (Ret w (.bool (overB x.st))) := by
  obtain ⟨num, ⟨lo, hi⟩, fr, tt, ep, un, st⟩ := x
  unfold overB scV
  simp only
  cases h1 : st == 6 with
  | true =>
    go_enter Tryz.func36, Tryz.ntmps36
    go_wp2
    go_ret
    exact ⟨by first | rfl | simp, Ok.alloc (Ok.refl w) _⟩
  | false =>
    go_enter Tryz.func36, Tryz.ntmps36
    go_wp2
    go_ret
    exact ⟨by first | rfl | simp, Ok.alloc (Ok.refl w) _⟩
end Go.Proofs.YtdabdkedgigjdaaGreat
namespace Go.Proofs.YtdabdkedgigjdaaGreat
open Go.RowKit
theorem goes_cases {a b : Int} (h : goesB a b = true) : (a = 1 ∧ (b = 2 ∨ b = 7)) ∨ (a = 2 ∧ (b = 3 ∨ b = 7)) ∨ (a = 3 ∧ (b = 4 ∨ b = 7)) ∨ (a = 4 ∧ b = 5) ∨ (a = 5 ∧ b = 6) ∨ (a = 7 ∧ b = 8) ∨ (a = 8 ∧ b = 9) := by
  by_cases h1 : a = 1
  · subst h1; left; refine ⟨rfl, ?_⟩; simpa [goesB, toL, waysL] using h
  by_cases h2 : a = 2
  · subst h2; right; left; refine ⟨rfl, ?_⟩; simpa [goesB, toL, waysL] using h
  by_cases h3 : a = 3
  · subst h3; right; right; left; refine ⟨rfl, ?_⟩; simpa [goesB, toL, waysL] using h
  by_cases h4 : a = 4
  · subst h4; right; right; right; left; refine ⟨rfl, ?_⟩; simpa [goesB, toL, waysL] using h
  by_cases h5 : a = 5
  · subst h5; right; right; right; right; left; refine ⟨rfl, ?_⟩; simpa [goesB, toL, waysL] using h
  by_cases h7 : a = 7
  · subst h7; right; right; right; right; right; left; refine ⟨rfl, ?_⟩; simpa [goesB, toL, waysL] using h
  by_cases h8 : a = 8
  · subst h8; right; right; right; right; right; right; refine ⟨rfl, ?_⟩; simpa [goesB, toL, waysL] using h
  exfalso
  have e : toL a = [] := by
    unfold toL waysL
    have g1 : ((1 : Int) == a) = false := by simp; omega
    have g2 : ((2 : Int) == a) = false := by simp; omega
    have g3 : ((3 : Int) == a) = false := by simp; omega
    have g4 : ((4 : Int) == a) = false := by simp; omega
    have g5 : ((5 : Int) == a) = false := by simp; omega
    have g7 : ((7 : Int) == a) = false := by simp; omega
    have g8 : ((8 : Int) == a) = false := by simp; omega
    simp only [List.find?_cons, List.find?_nil, g1, g2, g3, g4, g5, g7, g8]
    rfl
  rw [goesB, e] at h
  cases h

set_option maxRecDepth 100000 in
set_option maxHeartbeats 1000000 in
theorem rgoes_w (a b : Int) (w : World) : Calls Tryz.prog 38 #[.int .u8 a, .int .u8 b] w (Ret w (.bool (goesB a b))) := by
  by_cases h1 : a = 1
  · subst h1
    rw [show goesB 1 b = ((b == 2) || (b == 7)) by simp [goesB, toL, waysL]]
    cases c1 : b == 2 with
    | true =>
      go_enter Tryz.func38, Tryz.ntmps38
      go_wp2
      go_ret
      exact ⟨by first | rfl | simp, Ok.refl _⟩
    | false =>
      go_enter Tryz.func38, Tryz.ntmps38
      go_wp2
      go_ret
      exact ⟨by first | rfl | simp, Ok.refl _⟩
  by_cases h2 : a = 2
  · subst h2
    rw [show goesB 2 b = ((b == 3) || (b == 7)) by simp [goesB, toL, waysL]]
    cases c1 : b == 3 with
    | true =>
      go_enter Tryz.func38, Tryz.ntmps38
      go_wp2
      go_ret
      exact ⟨by first | rfl | simp, Ok.refl _⟩
    | false =>
      go_enter Tryz.func38, Tryz.ntmps38
      go_wp2
      go_ret
      exact ⟨by first | rfl | simp, Ok.refl _⟩
  by_cases h3 : a = 3
  · subst h3
    rw [show goesB 3 b = ((b == 4) || (b == 7)) by simp [goesB, toL, waysL]]
    cases c1 : b == 4 with
    | true =>
      go_enter Tryz.func38, Tryz.ntmps38
      go_wp2
      go_ret
      exact ⟨by first | rfl | simp, Ok.refl _⟩
    | false =>
      go_enter Tryz.func38, Tryz.ntmps38
      go_wp2
      go_ret
      exact ⟨by first | rfl | simp, Ok.refl _⟩
  by_cases h4 : a = 4
  · subst h4
    rw [show goesB 4 b = (b == 5) by simp [goesB, toL, waysL]]
    go_enter Tryz.func38, Tryz.ntmps38
    go_wp2
    go_ret
    exact ⟨by first | rfl | simp, Ok.refl _⟩
  by_cases h5 : a = 5
  · subst h5
    rw [show goesB 5 b = (b == 6) by simp [goesB, toL, waysL]]
    go_enter Tryz.func38, Tryz.ntmps38
    go_wp2
    go_ret
    exact ⟨by first | rfl | simp, Ok.refl _⟩
  by_cases h7 : a = 7
  · subst h7
    rw [show goesB 7 b = (b == 8) by simp [goesB, toL, waysL]]
    go_enter Tryz.func38, Tryz.ntmps38
    go_wp2
    go_ret
    exact ⟨by first | rfl | simp, Ok.refl _⟩
  by_cases h8 : a = 8
  · subst h8
    rw [show goesB 8 b = (b == 9) by simp [goesB, toL, waysL]]
    go_enter Tryz.func38, Tryz.ntmps38
    go_wp2
    go_ret
    exact ⟨by first | rfl | simp, Ok.refl _⟩
  have hg : goesB a b = false := Bool.eq_false_iff.2 (fun h => by
    rcases goes_cases h with ⟨e, _⟩ | ⟨e, _⟩ | ⟨e, _⟩ | ⟨e, _⟩ | ⟨e, _⟩ | ⟨e, _⟩ | ⟨e, _⟩ <;> omega)
  rw [hg]
  have d1 : (a == 1) = false := beq_eq_false_iff_ne.2 h1
  have d2 : (a == 2) = false := beq_eq_false_iff_ne.2 h2
  have d3 : (a == 3) = false := beq_eq_false_iff_ne.2 h3
  have d4 : (a == 4) = false := beq_eq_false_iff_ne.2 h4
  have d5 : (a == 5) = false := beq_eq_false_iff_ne.2 h5
  have d7 : (a == 7) = false := beq_eq_false_iff_ne.2 h7
  have d8 : (a == 8) = false := beq_eq_false_iff_ne.2 h8
  clear h1 h2 h3 h4 h5 h7 h8 hg
  go_enter Tryz.func38, Tryz.ntmps38
  go_wp2
  go_ret
  exact ⟨by first | rfl | simp, Ok.refl _⟩

set_option maxRecDepth 100000 in
set_option maxHeartbeats 1000000 in
theorem rscRight_w (A : Option Addr) (n c : Nat) (xs : List Sc) (hn : xs.length = n) (hn6 : n ≤ 1000000) (w : World) (hI : ScsAt w A xs) :
    Calls Tryz.prog 34 #[.slice A n c] w (Ret w (.bool (xs.all scB))) := by
  have HI := Lib.hid hI
  have HN := Lib.hid hn
  obtain ⟨R, hR⟩ : ∃ R, xs.all scB = R := ⟨_, rfl⟩
  have HBAD : Hid (∀ k (h : k < xs.length), scB (scAt xs k) = false → R = false) := Lib.hid (fun k h hb => by
    rw [← hR, Bool.eq_false_iff]
    intro ha
    have := List.all_eq_true.1 ha _ (List.getElem_mem h)
    rw [scAt_get xs k h] at hb
    rw [hb] at this; exact absurd this (by decide))
  have HGOOD : Hid ((∀ k, k < xs.length → scB (scAt xs k) = true) → R = true) := Lib.hid (fun h => by
    rw [← hR, List.all_eq_true]
    intro x hx
    obtain ⟨k, hk, rfl⟩ := List.getElem_of_mem hx
    have := h k hk
    rwa [scAt_get xs k hk] at this)
  rw [hR]
  clear hR hI hn
  go_enter Tryz.func34, Tryz.ntmps34
  go_wp2_with fail
  go_loopw [3] (fun i wr => ∃ k : Nat, k ≤ n ∧ i = .int .i64 k ∧ (∀ j, j < k → scB (scAt xs j) = true) ∧ Ok w wr) (fun i _ => n - (intOf i).toNat)
  case atStart => exact ⟨0, Nat.zero_le _, rfl, fun j hj => absurd hj (Nat.not_lt_zero _), Ok.refl _⟩
  case round =>
    obtain ⟨k, hk, rfl, hall, okr⟩ := hrel
    have HALL := Lib.hid hall
    have OKR := Lib.hid okr
    clear hall okr
    by_cases hlt : k < n
    · have d1 : decide ((k : Int) < (n : Int)) = true := decide_eq_true (by omega)
      have hj0 : (0 : Int) ≤ (k : Int) := Int.natCast_nonneg _
      have hj1 : (k : Int) < (n : Int) := by omega
      obtain ⟨b, off, rfl, c0, c1, c2, c3, c4, c5, c6, c7⟩ := HI.out.ok OKR.out k (by rw [HN.out]; exact hlt)
      have HON := Lib.hid (fun w' => rone_w (scAt xs k) w')
      have HBK := Lib.hid (HBAD.out k (by rw [HN.out]; exact hlt))
      obtain ⟨sb, hsb⟩ : ∃ s, scB (scAt xs k) = s := ⟨_, rfl⟩
      rw [hsb] at HON HBK
      have HSB := Lib.hid hsb
      clear hsb
      generalize hx : scAt xs k = x at c0 c1 c2 c3 c4 c5 c6 c7 HON
      have HX := Lib.hid hx
      clear hx
      obtain ⟨num, ⟨lo, hi⟩, fr, tt, xe, un, st⟩ := x
      unfold scV at HON
      simp only at c0 c1 c2 c3 c4 c5 c6 c7 HON
      go_wp2_with fail
      (with_reducible refine (HON.out wr).mono ?_)
      rintro _ w1 ⟨rfl, o1⟩
      have OK1 := Lib.hid (Ok.call OKR.out o1)
      clear o1 c0 c1 c2 c3 c4 c5 c6 c7
      cases sb with
      | false =>
        have hrf := HBK.out rfl
        subst hrf
        go_wp2
        go_ret
        exact ⟨rfl, OK1.out⟩
      | true =>
        go_wp2
        refine ⟨⟨k + 1, hlt, by go_num, fun j hj => ?_, OK1.out⟩, ?_⟩
        · by_cases e : j = k
          · subst e; exact HSB.out
          · exact HALL.out j (by omega)
        · show n - ((k : Int) + 1).toNat < n - (k : Int).toNat
          omega
    · have d1 : decide ((k : Int) < (n : Int)) = false := decide_eq_false (by omega)
      obtain rfl : k = n := by omega
      have hrt := HGOOD.out (fun j hj => HALL.out j (by have := HN.out; omega))
      subst hrt
      go_wp2
      go_ret
      exact ⟨rfl, OKR.out⟩
end Go.Proofs.YtdabdkedgigjdaaGreat
namespace Go.Proofs.YtdabdkedgigjdaaGreat
open Go.RowKit
set_option maxRecDepth 100000 in
set_option maxHeartbeats 2000000 in
theorem rbegin_w (ep : Int) (A : Option Addr) (c : Nat) (xs : List Sh) (num : Int) (i : Sp) (tt : Int) (hn6 : xs.length ≤ 1000) (w : World) (hI : SharesAt w A xs) :
    Calls Tryz.prog 32 #[.agg #[.int .i64 ep, .slice A xs.length c], .int .i64 num, spV i, .int .i64 tt] w (BegP w (begM ep xs num i tt)) := by
  have HT := Lib.hid (fun w' (k : Ok w w') => by have := rturn_w ep A xs.length c xs i tt rfl hn6 w' (hI.ok k); rwa [rturn_eq] at this)
  have HIN := Lib.hid (fun w' (k : Ok w w') => rin_w i ep A xs.length c xs rfl hn6 w' (hI.ok k))
  obtain ⟨ib, hib⟩ := shV_first ep xs i
  rw [hib] at HIN
  obtain ⟨Q, hQ⟩ : ∃ Q, BegP w (begM ep xs num i tt) = Q := ⟨_, rfl⟩
  rw [hQ]
  unfold begM at hQ
  generalize inM ep xs i = y at HIN hQ
  obtain ⟨K, hK⟩ : ∃ K, turnM ep xs i tt = K := ⟨_, rfl⟩
  rw [hK] at HT hQ
  clear hK hib hI
  have hup : upM 1073741824 num = (decide (1 ≤ num) && decide (num ≤ 1073741824)) := rfl
  generalize upM 1073741824 num = u at hup hQ
  obtain ⟨lo, hi⟩ := i
  obtain ⟨⟨yl, yh⟩, yg, ye⟩ := y
  obtain ⟨k, ys⟩ := K
  unfold TurnPost at HT
  unfold spV at HT HIN ⊢
  unfold shV at HIN
  simp only at HT HIN hQ ⊢
  have HQ := Lib.hid hQ
  obtain ⟨E, hE⟩ : ∃ E, (if k = 0 then ep + 1 else 0) = E := ⟨_, rfl⟩
  rw [hE] at HT
  obtain ⟨n, hn⟩ : ∃ n, xs.length = n := ⟨_, rfl⟩
  rw [hn] at HT HIN hn6 ⊢
  obtain ⟨m, hm⟩ : ∃ m, ys.length = m := ⟨_, rfl⟩
  rw [hm] at HT
  obtain ⟨p, hp⟩ : ∃ p, w.heap.size = p := ⟨_, rfl⟩
  have hpw : w.heap.size ≤ p := by omega
  clear hE hm hn hQ
  by_cases h1 : num < 1
  · have d1 : decide (num < 1) = true := decide_eq_true h1
    obtain rfl : u = false := by rw [hup, show decide (1 ≤ num) = false from decide_eq_false (by omega)]; rfl
    clear hup h1
    go_enter Tryz.func32, Tryz.ntmps32
    go_upto_region 1 with fail
    generalize hW : ((w.alloc (.cells #[.int .i64 ep, .slice A n c] 24)).alloc (.cells #[.string lo, .string hi] 26)).alloc (.cells #[.int .i64 0, .string ⟨#[]⟩, .string ⟨#[]⟩, .int .i64 0, .int .i64 0, .int .i64 0, .int .i64 0, .int .u8 0] 52) = W
    have OKV : Hid (Ok w W) := Lib.hid (by subst hW; exact Ok.alloc (Ok.alloc (Ok.alloc (Ok.refl w) _) _) _)
    have HR : Hid (Sc8 W (p + 1 + 1) sc0) := Lib.hid (by subst hW; subst hp; unfold sc0 allS; constructor <;> go_cell)
    obtain ⟨z, hz⟩ : ∃ z : Sc, z = sc0 := ⟨_, rfl⟩
    rw [← hz] at HR
    clear hz
    have S0 : W.cell? ⟨p, 0, none⟩ = some (.int .i64 ep) := by subst hW; subst hp; go_cell
    have S1 : W.cell? ⟨p, 1, none⟩ = some (.slice A n c) := by subst hW; subst hp; go_cell
    have I0 : W.cell? ⟨p + 1, 0, none⟩ = some (.string lo) := by subst hW; subst hp; go_cell
    have I1 : W.cell? ⟨p + 1, 1, none⟩ = some (.string hi) := by subst hW; subst hp; go_cell
    have HFR : Hid (Fz W (p + 1 + 1) 8) := Lib.hid (by
      subst hW; subst hp; intro j hj
      obtain rfl | rfl | rfl | rfl | rfl | rfl | rfl | rfl : j = 0 ∨ j = 1 ∨ j = 2 ∨ j = 3 ∨ j = 4 ∨ j = 5 ∨ j = 6 ∨ j = 7 := by omega
      all_goals go_cell)
    clear hW
    obtain ⟨w1, hw1⟩ : ∃ v, v = W := ⟨W, rfl⟩
    subst hw1
    have HQK : Hid (BegP w (2, sc0) = Q) := Lib.hid (by have := HQ.out; simpa using this)
    clear HQ HT HIN
    obtain ⟨R0, R1, R2, R3, R4, R5, R6, R7⟩ := HR.out
    have f0 := HFR.out 0 (by decide); have f1 := HFR.out 1 (by decide); have f2 := HFR.out 2 (by decide); have f3 := HFR.out 3 (by decide); have f4 := HFR.out 4 (by decide); have f5 := HFR.out 5 (by decide); have f6 := HFR.out 6 (by decide); have f7 := HFR.out 7 (by decide)
    go_wp2
    have B8 := HR.out.put8 sc0
    (try simp only [Exit.inBlock, Exit.then])
    change bodyPost Tryz.prog _ _ Exit.ret _ (put8 w1 (p + 1 + 1) sc0)
    obtain ⟨Z, hZ⟩ : ∃ Z, put8 w1 (p + 1 + 1) sc0 = Z := ⟨_, rfl⟩
    have OKZ : Ok w Z := by rw [← hZ]; exact Ok.put8 OKV.out (by omega)
    rw [hZ] at B8 ⊢
    obtain ⟨b0, b1, b2, b3, b4, b5, b6, b7⟩ := B8
    refine bodyPost_ret (by simp [results, Tryz.results32, go_sem, b0, b1, b2, b3, b4, b5, b6, b7]; try rfl) rfl ?_
    rw [← HQK.out]
    exact BegP.mk rfl OKZ
  have d1 : decide (num < 1) = false := decide_eq_false h1
  by_cases h2 : 1073741824 < num
  · have d2 : decide (1073741824 < num) = true := decide_eq_true h2
    obtain rfl : u = false := by rw [hup, show decide (num ≤ 1073741824) = false from decide_eq_false (by omega)]; simp
    clear hup h1 h2
    go_enter Tryz.func32, Tryz.ntmps32
    go_upto_region 1 with fail
    generalize hW : ((w.alloc (.cells #[.int .i64 ep, .slice A n c] 24)).alloc (.cells #[.string lo, .string hi] 26)).alloc (.cells #[.int .i64 0, .string ⟨#[]⟩, .string ⟨#[]⟩, .int .i64 0, .int .i64 0, .int .i64 0, .int .i64 0, .int .u8 0] 52) = W
    have OKV : Hid (Ok w W) := Lib.hid (by subst hW; exact Ok.alloc (Ok.alloc (Ok.alloc (Ok.refl w) _) _) _)
    have HR : Hid (Sc8 W (p + 1 + 1) sc0) := Lib.hid (by subst hW; subst hp; unfold sc0 allS; constructor <;> go_cell)
    obtain ⟨z, hz⟩ : ∃ z : Sc, z = sc0 := ⟨_, rfl⟩
    rw [← hz] at HR
    clear hz
    have S0 : W.cell? ⟨p, 0, none⟩ = some (.int .i64 ep) := by subst hW; subst hp; go_cell
    have S1 : W.cell? ⟨p, 1, none⟩ = some (.slice A n c) := by subst hW; subst hp; go_cell
    have I0 : W.cell? ⟨p + 1, 0, none⟩ = some (.string lo) := by subst hW; subst hp; go_cell
    have I1 : W.cell? ⟨p + 1, 1, none⟩ = some (.string hi) := by subst hW; subst hp; go_cell
    have HFR : Hid (Fz W (p + 1 + 1) 8) := Lib.hid (by
      subst hW; subst hp; intro j hj
      obtain rfl | rfl | rfl | rfl | rfl | rfl | rfl | rfl : j = 0 ∨ j = 1 ∨ j = 2 ∨ j = 3 ∨ j = 4 ∨ j = 5 ∨ j = 6 ∨ j = 7 := by omega
      all_goals go_cell)
    clear hW
    obtain ⟨w1, hw1⟩ : ∃ v, v = W := ⟨W, rfl⟩
    subst hw1
    have HQK : Hid (BegP w (2, sc0) = Q) := Lib.hid (by have := HQ.out; simpa using this)
    clear HQ HT HIN
    obtain ⟨R0, R1, R2, R3, R4, R5, R6, R7⟩ := HR.out
    have f0 := HFR.out 0 (by decide); have f1 := HFR.out 1 (by decide); have f2 := HFR.out 2 (by decide); have f3 := HFR.out 3 (by decide); have f4 := HFR.out 4 (by decide); have f5 := HFR.out 5 (by decide); have f6 := HFR.out 6 (by decide); have f7 := HFR.out 7 (by decide)
    go_wp2
    have B8 := HR.out.put8 sc0
    (try simp only [Exit.inBlock, Exit.then])
    change bodyPost Tryz.prog _ _ Exit.ret _ (put8 w1 (p + 1 + 1) sc0)
    obtain ⟨Z, hZ⟩ : ∃ Z, put8 w1 (p + 1 + 1) sc0 = Z := ⟨_, rfl⟩
    have OKZ : Ok w Z := by rw [← hZ]; exact Ok.put8 OKV.out (by omega)
    rw [hZ] at B8 ⊢
    obtain ⟨b0, b1, b2, b3, b4, b5, b6, b7⟩ := B8
    refine bodyPost_ret (by simp [results, Tryz.results32, go_sem, b0, b1, b2, b3, b4, b5, b6, b7]; try rfl) rfl ?_
    rw [← HQK.out]
    exact BegP.mk rfl OKZ
  have d2 : decide (1073741824 < num) = false := decide_eq_false h2
  obtain rfl : u = true := by rw [hup, show decide (num ≤ 1073741824) = true from decide_eq_true (by omega), show decide (1 ≤ num) = true from decide_eq_true (by omega)]; rfl
  clear hup h1 h2
  go_enter Tryz.func32, Tryz.ntmps32
  go_upto_region 1 with fail
  generalize hW : ((w.alloc (.cells #[.int .i64 ep, .slice A n c] 24)).alloc (.cells #[.string lo, .string hi] 26)).alloc (.cells #[.int .i64 0, .string ⟨#[]⟩, .string ⟨#[]⟩, .int .i64 0, .int .i64 0, .int .i64 0, .int .i64 0, .int .u8 0] 52) = W
  have OKV : Hid (Ok w W) := Lib.hid (by subst hW; exact Ok.alloc (Ok.alloc (Ok.alloc (Ok.refl w) _) _) _)
  have HR : Hid (Sc8 W (p + 1 + 1) sc0) := Lib.hid (by subst hW; subst hp; unfold sc0 allS; constructor <;> go_cell)
  obtain ⟨z, hz⟩ : ∃ z : Sc, z = sc0 := ⟨_, rfl⟩
  rw [← hz] at HR
  clear hz
  have S0 : W.cell? ⟨p, 0, none⟩ = some (.int .i64 ep) := by subst hW; subst hp; go_cell
  have S1 : W.cell? ⟨p, 1, none⟩ = some (.slice A n c) := by subst hW; subst hp; go_cell
  have I0 : W.cell? ⟨p + 1, 0, none⟩ = some (.string lo) := by subst hW; subst hp; go_cell
  have I1 : W.cell? ⟨p + 1, 1, none⟩ = some (.string hi) := by subst hW; subst hp; go_cell
  have HFR : Hid (Fz W (p + 1 + 1) 8) := Lib.hid (by
    subst hW; subst hp; intro j hj
    obtain rfl | rfl | rfl | rfl | rfl | rfl | rfl | rfl : j = 0 ∨ j = 1 ∨ j = 2 ∨ j = 3 ∨ j = 4 ∨ j = 5 ∨ j = 6 ∨ j = 7 := by omega
    all_goals go_cell)
  clear hW
  obtain ⟨w1, hw1⟩ : ∃ v, v = W := ⟨W, rfl⟩
  subst hw1
  replace HQ : Hid (BegP w (if k = 0 then (0, ⟨num, ⟨lo, hi⟩, yg, tt, ye, 0, 1⟩) else (k, sc0)) = Q) := Lib.hid (by have := HQ.out; simpa using this)
  go_wp2_with fail
  refine (HT.out w1 OKV.out).mono ?_
  rintro _ w2 ⟨A1, c1, rfl, _, o2⟩
  clear HT
  obtain ⟨q, hq⟩ : ∃ q, w2.heap.size = q := ⟨_, rfl⟩
  obtain ⟨V, hV⟩ : ∃ V, w2.alloc (.cells #[.int .i64 E, .slice A1 m c1] 24) = V := ⟨_, rfl⟩
  have oV : Ok w1 V := by rw [← hV]; exact Ok.call o2 (Ok.alloc (Ok.refl w2) _)
  replace HFR := Lib.hid (HFR.out.ok HR.out.c0 oV)
  replace HR := Lib.hid (HR.out.ok oV)
  replace S0 := Ok.cell oV S0
  replace S1 := Ok.cell oV S1
  replace I0 := Ok.cell oV I0
  replace I1 := Ok.cell oV I1
  replace OKV := Lib.hid (Ok.call OKV.out oV)
  clear oV o2
  by_cases hk : k = 0
  · have HQK : Hid (BegP w (0, ⟨num, ⟨lo, hi⟩, yg, tt, ye, 0, 1⟩) = Q) := Lib.hid (by have := HQ.out; rwa [if_pos hk] at this)
    clear HQ
    subst hk
    go_wp2_with fail
    refine (HIN.out V OKV.out).mono ?_
    rintro _ w3 ⟨rfl, o3⟩
    clear HIN
    obtain ⟨q2, hq2⟩ : ∃ q2, w3.heap.size = q2 := ⟨_, rfl⟩
    obtain ⟨V2, hV2⟩ : ∃ V2, w3.alloc (.cells #[.string yl, .string yh, .int .i64 yg, .int .i64 ye] 35) = V2 := ⟨_, rfl⟩
    have oV2 : Ok V V2 := by rw [← hV2]; exact Ok.call o3 (Ok.alloc (Ok.refl w3) _)
    have Y2 : V2.cell? ⟨q2, 2, none⟩ = some (.int .i64 yg) := by subst hV2; subst hq2; go_cell
    have Y3 : V2.cell? ⟨q2, 3, none⟩ = some (.int .i64 ye) := by subst hV2; subst hq2; go_cell
    replace HFR := Lib.hid (HFR.out.ok HR.out.c0 oV2)
    replace HR := Lib.hid (HR.out.ok oV2)
    replace S0 := Ok.cell oV2 S0
    replace S1 := Ok.cell oV2 S1
    replace I0 := Ok.cell oV2 I0
    replace I1 := Ok.cell oV2 I1
    replace OKV := Lib.hid (Ok.call OKV.out oV2)
    clear oV2 o3
    obtain ⟨R0, R1, R2, R3, R4, R5, R6, R7⟩ := HR.out
    have f0 := HFR.out 0 (by decide); have f1 := HFR.out 1 (by decide); have f2 := HFR.out 2 (by decide); have f3 := HFR.out 3 (by decide); have f4 := HFR.out 4 (by decide); have f5 := HFR.out 5 (by decide); have f6 := HFR.out 6 (by decide); have f7 := HFR.out 7 (by decide)
    go_wp2
    have B8 := HR.out.put8 ⟨num, ⟨lo, hi⟩, yg, tt, ye, 0, 1⟩
    (try simp only [Exit.inBlock, Exit.then])
    change bodyPost Tryz.prog _ _ Exit.ret _ (put8 V2 (p + 1 + 1) ⟨num, ⟨lo, hi⟩, yg, tt, ye, 0, 1⟩)
    obtain ⟨Z, hZ⟩ : ∃ Z, put8 V2 (p + 1 + 1) ⟨num, ⟨lo, hi⟩, yg, tt, ye, 0, 1⟩ = Z := ⟨_, rfl⟩
    have OKZ : Ok w Z := by rw [← hZ]; exact Ok.put8 OKV.out (by omega)
    rw [hZ] at B8 ⊢
    obtain ⟨b0, b1, b2, b3, b4, b5, b6, b7⟩ := B8
    refine bodyPost_ret (by simp [results, Tryz.results32, go_sem, b0, b1, b2, b3, b4, b5, b6, b7]; try rfl) rfl ?_
    rw [← HQK.out]
    exact BegP.mk rfl OKZ
  · have HQK : Hid (BegP w (k, sc0) = Q) := Lib.hid (by have := HQ.out; rwa [if_neg hk] at this)
    have dk : (k != 0) = true := by simp [hk]
    clear HQ HIN hk
    obtain ⟨R0, R1, R2, R3, R4, R5, R6, R7⟩ := HR.out
    have f0 := HFR.out 0 (by decide); have f1 := HFR.out 1 (by decide); have f2 := HFR.out 2 (by decide); have f3 := HFR.out 3 (by decide); have f4 := HFR.out 4 (by decide); have f5 := HFR.out 5 (by decide); have f6 := HFR.out 6 (by decide); have f7 := HFR.out 7 (by decide)
    go_wp2
    have B8 := HR.out.put8 sc0
    (try simp only [Exit.inBlock, Exit.then])
    change bodyPost Tryz.prog _ _ Exit.ret _ (put8 V (p + 1 + 1) sc0)
    obtain ⟨Z, hZ⟩ : ∃ Z, put8 V (p + 1 + 1) sc0 = Z := ⟨_, rfl⟩
    have OKZ : Ok w Z := by rw [← hZ]; exact Ok.put8 OKV.out (by omega)
    rw [hZ] at B8 ⊢
    obtain ⟨b0, b1, b2, b3, b4, b5, b6, b7⟩ := B8
    refine bodyPost_ret (by simp [results, Tryz.results32, go_sem, b0, b1, b2, b3, b4, b5, b6, b7]; try rfl) rfl ?_
    rw [← HQK.out]
    exact BegP.mk rfl OKZ
end Go.Proofs.YtdabdkedgigjdaaGreat
namespace Go.Proofs.YtdabdkedgigjdaaGreat
open Go.RowKit

/-- What a step tells; the shares may be those that came in. -/
def StepR (w : World) (k : Int) (y : Sc) (ep : Int) (ys : List Sh) : Ending → World → Prop := fun e w' => ∃ A c, e = .returned (.tuple #[scV y, .agg #[.int .i64 ep, .slice A ys.length c], .int .i64 k]) ∧ SharesAt w' A ys ∧ Ok w w'
theorem StepR.mk {w w' : World} {k : Int} {y : Sc} {ep : Int} {ys : List Sh} {e : Ending} (A : Option Addr) (n c : Nat) (he : e = .returned (.tuple #[scV y, .agg #[.int .i64 ep, .slice A n c], .int .i64 k])) (hn : ys.length = n) (hs : SharesAt w' A ys) (ho : Ok w w') : StepR w k y ep ys e w' := by
  subst hn
  exact ⟨A, c, he, hs, ho⟩
def StepRQ (w : World) (ep : Int) (xs : List Sh) (x : Sc) (sto : Int) : Ending → World → Prop :=
  if (scB x && sharesB ep xs) = false then StepR w 2 sc0 0 [] else if x.st = sto then StepR w 0 x ep xs else if goesB x.st sto = false then StepR w 26 sc0 0 [] else if sto = 4 then (if turnK ep xs x = 0 then StepR w 0 { x with st := 4, un := ep + 1 } (ep + 1) (turnM ep xs x.sp x.«to»).2 else StepR w (turnK ep xs x) sc0 0 []) else StepR w 0 { x with st := sto } ep xs
theorem step_both (ep : Int) (xs : List Sh) (x : Sc) (sto : Int) : ∃ k y ep' ys, (∀ w, StepQ w ep xs x sto = StepP w k y ep' ys) ∧ ∀ w, StepRQ w ep xs x sto = StepR w k y ep' ys := by
  unfold StepQ StepRQ TurnP
  by_cases h1 : (scB x && sharesB ep xs) = false
  · exact ⟨_, _, _, _, fun w => by rw [if_pos h1], fun w => by rw [if_pos h1]⟩
  by_cases h2 : x.st = sto
  · exact ⟨_, _, _, _, fun w => by rw [if_neg h1, if_pos h2], fun w => by rw [if_neg h1, if_pos h2]⟩
  by_cases h3 : goesB x.st sto = false
  · exact ⟨_, _, _, _, fun w => by rw [if_neg h1, if_neg h2, if_pos h3], fun w => by rw [if_neg h1, if_neg h2, if_pos h3]⟩
  by_cases h4 : sto = 4
  · by_cases h5 : turnK ep xs x = 0
    · exact ⟨_, _, _, _, fun w => by rw [if_neg h1, if_neg h2, if_neg h3, if_pos h4, if_pos h5], fun w => by rw [if_neg h1, if_neg h2, if_neg h3, if_pos h4, if_pos h5]⟩
    · exact ⟨_, _, _, _, fun w => by rw [if_neg h1, if_neg h2, if_neg h3, if_pos h4, if_neg h5], fun w => by rw [if_neg h1, if_neg h2, if_neg h3, if_pos h4, if_neg h5]⟩
  · exact ⟨_, _, _, _, fun w => by rw [if_neg h1, if_neg h2, if_neg h3, if_neg h4], fun w => by rw [if_neg h1, if_neg h2, if_neg h3, if_neg h4]⟩


set_option maxRecDepth 100000 in
set_option maxHeartbeats 2000000 in
theorem rstep_w (x : Sc) (ep : Int) (A : Option Addr) (c : Nat) (xs : List Sh) (sto : Int) (hn6 : xs.length ≤ 1000) (w : World) (hI : SharesAt w A xs) :
    Calls Tryz.prog 30 #[scV x, .agg #[.int .i64 ep, .slice A xs.length c], .int .u8 sto] w (StepRQ w ep xs x sto) := by
  have HON := Lib.hid (fun w' => rone_w x w')
  have HSR := Lib.hid (fun w' (k : Ok w w') => rsharesRight_w ep A xs.length c xs rfl hn6 w' (hI.ok k))
  have HGO := Lib.hid (rgoes_w x.st sto)
  have HTN := Lib.hid (fun w' (k : Ok w w') => by have := rturn_w ep A xs.length c xs x.sp x.«to» rfl hn6 w' (hI.ok k); rwa [rturn_eq] at this)
  have HIN := Lib.hid (fun w' (k : Ok w w') => rin_w x.sp ep A xs.length c xs rfl hn6 w' (hI.ok k))
  obtain ⟨ib, hib⟩ := shV_first ep xs x.sp
  rw [hib] at HIN
  have HIT := Lib.hid (fun w' (k : Ok w w') => hI.ok k)
  obtain ⟨Q, hQ⟩ : ∃ Q, StepRQ w ep xs x sto = Q := ⟨_, rfl⟩
  rw [hQ]
  unfold StepRQ turnK at hQ
  generalize inM ep xs x.sp = y at HIN hQ
  generalize hR : turnM ep xs x.sp x.«to» = R at HTN hQ
  clear hR hib hI
  obtain ⟨go, hgo⟩ : ∃ b, goesB x.st sto = b := ⟨_, rfl⟩
  rw [hgo] at HGO hQ
  obtain ⟨rx, hrx⟩ : ∃ b, scB x = b := ⟨_, rfl⟩
  rw [hrx] at HON hQ
  obtain ⟨rs, hrs⟩ : ∃ b, sharesB ep xs = b := ⟨_, rfl⟩
  rw [hrs] at HSR hQ
  clear hgo hrx hrs
  obtain ⟨n, hn⟩ : ∃ n, xs.length = n := ⟨_, rfl⟩
  rw [hn] at HSR HTN HIN hn6 ⊢
  have HN := Lib.hid hn
  obtain ⟨⟨yl, yh⟩, yg, ye⟩ := y
  obtain ⟨rk, rys⟩ := R
  obtain ⟨m, hm⟩ : ∃ m, rys.length = m := ⟨_, rfl⟩
  unfold TurnPost at HTN
  simp only at HTN hQ
  rw [hm] at HTN
  have HM := Lib.hid hm
  clear hn hm
  obtain ⟨E, hE⟩ : ∃ E, (if rk = 0 then ep + 1 else 0) = E := ⟨_, rfl⟩
  rw [hE] at HTN
  have HE := Lib.hid hE
  clear hE
  obtain ⟨num, ⟨lo, hi⟩, fr, tt, xe, un, st⟩ := x
  unfold scV spV shV at *
  simp only at HON HTN HIN HGO hQ ⊢
  have HQ := Lib.hid hQ
  clear hQ
  obtain ⟨p, hp⟩ : ∃ p, w.heap.size = p := ⟨_, rfl⟩
  have hpw : w.heap.size ≤ p := by omega
  go_enter Tryz.func30, Tryz.ntmps30
  go_upto_region 1 with fail
  generalize hW : (((w.alloc (.cells #[.int .i64 num, .string lo, .string hi, .int .i64 fr, .int .i64 tt, .int .i64 xe, .int .i64 un, .int .u8 st] 52)).alloc (.cells #[.int .i64 ep, .slice A n c] 24)).alloc (.cells #[.int .i64 0, .string ⟨#[]⟩, .string ⟨#[]⟩, .int .i64 0, .int .i64 0, .int .i64 0, .int .i64 0, .int .u8 0] 52)).alloc (.cells #[.int .i64 0, .slice none 0 0] 24) = W
  have OKV : Hid (Ok w W) := Lib.hid (by subst hW; exact Ok.alloc (Ok.alloc (Ok.alloc (Ok.alloc (Ok.refl w) _) _) _) _)
  have HX : Hid (Sc8 W p ⟨num, ⟨lo, hi⟩, fr, tt, xe, un, st⟩) := Lib.hid (by subst hW; subst hp; constructor <;> go_cell)
  have HR : Hid (Sc8 W (p + 1 + 1) sc0) := Lib.hid (by subst hW; subst hp; unfold sc0 allS; constructor <;> go_cell)
  obtain ⟨z, hz⟩ : ∃ z : Sc, z = sc0 := ⟨_, rfl⟩
  rw [← hz] at HR
  clear hz
  have S0 : W.cell? ⟨p + 1, 0, none⟩ = some (.int .i64 ep) := by subst hW; subst hp; go_cell
  have S1 : W.cell? ⟨p + 1, 1, none⟩ = some (.slice A n c) := by subst hW; subst hp; go_cell
  obtain ⟨u0, u1, HT⟩ : ∃ u0 u1, Hid (W.cell? ⟨p + 1 + 1 + 1, 0, none⟩ = some u0 ∧ W.cell? ⟨p + 1 + 1 + 1, 1, none⟩ = some u1) := ⟨.int .i64 0, .slice none 0 0, Lib.hid (by subst hW; subst hp; constructor <;> go_cell)⟩
  have HFX : Hid (Fz W p 8) := Lib.hid (by
    subst hW; subst hp; intro j hj
    obtain rfl | rfl | rfl | rfl | rfl | rfl | rfl | rfl : j = 0 ∨ j = 1 ∨ j = 2 ∨ j = 3 ∨ j = 4 ∨ j = 5 ∨ j = 6 ∨ j = 7 := by omega
    all_goals go_cell)
  have HFS : Hid (Fz W (p + 1) 2) := Lib.hid (by
    subst hW; subst hp; intro j hj
    obtain rfl | rfl : j = 0 ∨ j = 1 := by omega
    all_goals go_cell)
  have HFR : Hid (Fz W (p + 1 + 1) 8) := Lib.hid (by
    subst hW; subst hp; intro j hj
    obtain rfl | rfl | rfl | rfl | rfl | rfl | rfl | rfl : j = 0 ∨ j = 1 ∨ j = 2 ∨ j = 3 ∨ j = 4 ∨ j = 5 ∨ j = 6 ∨ j = 7 := by omega
    all_goals go_cell)
  have HFR : Hid (Fz W (p + 1 + 1) 8) := Lib.hid (by
    subst hW; subst hp; intro j hj
    obtain rfl | rfl | rfl | rfl | rfl | rfl | rfl | rfl : j = 0 ∨ j = 1 ∨ j = 2 ∨ j = 3 ∨ j = 4 ∨ j = 5 ∨ j = 6 ∨ j = 7 := by omega
    all_goals go_cell)
  have HFT : Hid (Fz W (p + 1 + 1 + 1) 2) := Lib.hid (by
    subst hW; subst hp; intro j hj
    obtain rfl | rfl : j = 0 ∨ j = 1 := by omega
    all_goals go_cell)
  clear hW
  obtain ⟨X0, X1, X2, X3, X4, X5, X6, X7⟩ := HX.out
  simp only at X0 X1 X2 X3 X4 X5 X6 X7
  go_wp2_with fail
  (with_reducible refine (HON.out W).mono ?_)
  rintro _ w1 ⟨rfl, o1⟩
  replace HFR := Lib.hid (HFR.out.ok HR.out.c0 o1); replace HFT := Lib.hid (HFT.out.ok HT.out.1 o1); replace HFX := Lib.hid (HFX.out.ok X0 o1); replace HFS := Lib.hid (HFS.out.ok S0 o1); replace HR := Lib.hid (HR.out.ok o1); replace HT := Lib.hid (And.intro (Ok.cell o1 HT.out.1) (Ok.cell o1 HT.out.2))
  replace X0 := Ok.cell o1 X0; replace X1 := Ok.cell o1 X1; replace X2 := Ok.cell o1 X2; replace X3 := Ok.cell o1 X3; replace X4 := Ok.cell o1 X4; replace X5 := Ok.cell o1 X5; replace X6 := Ok.cell o1 X6; replace X7 := Ok.cell o1 X7; replace S0 := Ok.cell o1 S0; replace S1 := Ok.cell o1 S1
  replace OKV := Lib.hid (Ok.call OKV.out o1)
  clear o1 HON
  cases rx with
  | false =>
    clear HSR HTN HIN HGO
    have hq := HQ.out
    rw [if_pos (by rfl)] at hq
    have HQK := Lib.hid hq
    clear hq HQ
    obtain ⟨R0, R1, R2, R3, R4, R5, R6, R7⟩ := HR.out
    obtain ⟨T0, T1⟩ := HT.out
    have f0 := HFR.out 0 (by decide); have f1 := HFR.out 1 (by decide); have f2 := HFR.out 2 (by decide); have f3 := HFR.out 3 (by decide); have f4 := HFR.out 4 (by decide); have f5 := HFR.out 5 (by decide); have f6 := HFR.out 6 (by decide); have f7 := HFR.out 7 (by decide); have t0 := HFT.out 0 (by decide); have t1 := HFT.out 1 (by decide)
    go_wp2
    have B8 := (HR.out.put8 sc0).put2 (p := p + 1 + 1 + 1) (a := .int .i64 0) (b := .slice none 0 0) (by omega)
    have C2 := two_put2 (a := .int .i64 0) (b := .slice none 0 0) (other8 (p := p + 1 + 1) (x := sc0) (by omega) HT.out.1) (other8 (p := p + 1 + 1) (x := sc0) (by omega) HT.out.2)
    (try simp only [Exit.inBlock, Exit.then])
    change bodyPost Tryz.prog _ _ Exit.ret _ (put2 (put8 w1 (p + 1 + 1) sc0) (p + 1 + 1 + 1) (.int .i64 0) (.slice none 0 0))
    obtain ⟨Z, hZ⟩ : ∃ Z, put2 (put8 w1 (p + 1 + 1) sc0) (p + 1 + 1 + 1) (.int .i64 0) (.slice none 0 0) = Z := ⟨_, rfl⟩
    have OKZ : Ok w Z := by rw [← hZ]; exact Ok.put2 (Ok.put8 OKV.out (by omega)) (by omega)
    rw [hZ] at B8 C2 ⊢
    obtain ⟨b0, b1, b2, b3, b4, b5, b6, b7⟩ := B8
    obtain ⟨e0, e1⟩ := C2
    refine bodyPost_ret (by simp [results, Tryz.results30, go_sem, b0, b1, b2, b3, b4, b5, b6, b7, e0, e1]; try rfl) rfl ?_
    rw [← HQK.out]
    exact StepR.mk none 0 0 rfl rfl (fun j hj => absurd hj (Nat.not_lt_zero _)) OKZ
  | true =>
  go_wp2_with fail
  (with_reducible refine (HSR.out w1 OKV.out).mono ?_)
  rintro _ w2 ⟨rfl, o2⟩
  replace HFR := Lib.hid (HFR.out.ok HR.out.c0 o2); replace HFT := Lib.hid (HFT.out.ok HT.out.1 o2); replace HFX := Lib.hid (HFX.out.ok X0 o2); replace HFS := Lib.hid (HFS.out.ok S0 o2); replace HR := Lib.hid (HR.out.ok o2); replace HT := Lib.hid (And.intro (Ok.cell o2 HT.out.1) (Ok.cell o2 HT.out.2))
  replace X0 := Ok.cell o2 X0; replace X1 := Ok.cell o2 X1; replace X2 := Ok.cell o2 X2; replace X3 := Ok.cell o2 X3; replace X4 := Ok.cell o2 X4; replace X5 := Ok.cell o2 X5; replace X6 := Ok.cell o2 X6; replace X7 := Ok.cell o2 X7; replace S0 := Ok.cell o2 S0; replace S1 := Ok.cell o2 S1
  replace OKV := Lib.hid (Ok.call OKV.out o2)
  clear o2 HSR
  cases rs with
  | false =>
    clear HTN HIN HGO
    have hq := HQ.out
    rw [if_pos (by rfl)] at hq
    have HQK := Lib.hid hq
    clear hq HQ
    obtain ⟨R0, R1, R2, R3, R4, R5, R6, R7⟩ := HR.out
    obtain ⟨T0, T1⟩ := HT.out
    have f0 := HFR.out 0 (by decide); have f1 := HFR.out 1 (by decide); have f2 := HFR.out 2 (by decide); have f3 := HFR.out 3 (by decide); have f4 := HFR.out 4 (by decide); have f5 := HFR.out 5 (by decide); have f6 := HFR.out 6 (by decide); have f7 := HFR.out 7 (by decide); have t0 := HFT.out 0 (by decide); have t1 := HFT.out 1 (by decide)
    go_wp2
    have B8 := (HR.out.put8 sc0).put2 (p := p + 1 + 1 + 1) (a := .int .i64 0) (b := .slice none 0 0) (by omega)
    have C2 := two_put2 (a := .int .i64 0) (b := .slice none 0 0) (other8 (p := p + 1 + 1) (x := sc0) (by omega) HT.out.1) (other8 (p := p + 1 + 1) (x := sc0) (by omega) HT.out.2)
    (try simp only [Exit.inBlock, Exit.then])
    change bodyPost Tryz.prog _ _ Exit.ret _ (put2 (put8 w2 (p + 1 + 1) sc0) (p + 1 + 1 + 1) (.int .i64 0) (.slice none 0 0))
    obtain ⟨Z, hZ⟩ : ∃ Z, put2 (put8 w2 (p + 1 + 1) sc0) (p + 1 + 1 + 1) (.int .i64 0) (.slice none 0 0) = Z := ⟨_, rfl⟩
    have OKZ : Ok w Z := by rw [← hZ]; exact Ok.put2 (Ok.put8 OKV.out (by omega)) (by omega)
    rw [hZ] at B8 C2 ⊢
    obtain ⟨b0, b1, b2, b3, b4, b5, b6, b7⟩ := B8
    obtain ⟨e0, e1⟩ := C2
    refine bodyPost_ret (by simp [results, Tryz.results30, go_sem, b0, b1, b2, b3, b4, b5, b6, b7, e0, e1]; try rfl) rfl ?_
    rw [← HQK.out]
    exact StepR.mk none 0 0 rfl rfl (fun j hj => absurd hj (Nat.not_lt_zero _)) OKZ
  | true =>
  have hq := HQ.out
  rw [if_neg (by decide)] at hq
  have HQ2 := Lib.hid hq
  clear hq HQ
  by_cases hst : st = sto
  · subst hst
    have d0 : (st == st) = true := by simp
    have hq := HQ2.out
    rw [if_pos rfl] at hq
    have HQK := Lib.hid hq
    clear hq HQ2 HTN HIN HGO
    go_upto_region 4 with fail
    obtain ⟨R0, R1, R2, R3, R4, R5, R6, R7⟩ := HR.out
    obtain ⟨T0, T1⟩ := HT.out
    have f0 := HFR.out 0 (by decide); have f1 := HFR.out 1 (by decide); have f2 := HFR.out 2 (by decide); have f3 := HFR.out 3 (by decide); have f4 := HFR.out 4 (by decide); have f5 := HFR.out 5 (by decide); have f6 := HFR.out 6 (by decide); have f7 := HFR.out 7 (by decide); have t0 := HFT.out 0 (by decide); have t1 := HFT.out 1 (by decide)
    go_region
    go_wp2
    have B8 := ((HR.out.put8 ⟨num, ⟨lo, hi⟩, fr, tt, xe, un, st⟩).put2 (p := p + 1 + 1 + 1) (a := .int .i64 ep) (b := .slice A n c) (by omega)).ok (Ok.drew (Ok.refl _))
    have C0 := two_put2 (a := .int .i64 ep) (b := .slice A n c) (other8 (p := p + 1 + 1) (x := ⟨num, ⟨lo, hi⟩, fr, tt, xe, un, st⟩) (by omega) HT.out.1) (other8 (p := p + 1 + 1) (x := ⟨num, ⟨lo, hi⟩, fr, tt, xe, un, st⟩) (by omega) HT.out.2)
    have C2 := And.intro (Ok.cell (Ok.drew (Ok.refl _)) C0.1) (Ok.cell (Ok.drew (Ok.refl _)) C0.2)
    (try simp only [Exit.inBlock, Exit.then])
    change bodyPost Tryz.prog _ _ Exit.ret _ (put2 (put8 w2 (p + 1 + 1) ⟨num, ⟨lo, hi⟩, fr, tt, xe, un, st⟩) (p + 1 + 1 + 1) (.int .i64 ep) (.slice A n c)).drew
    obtain ⟨Z, hZ⟩ : ∃ Z, (put2 (put8 w2 (p + 1 + 1) ⟨num, ⟨lo, hi⟩, fr, tt, xe, un, st⟩) (p + 1 + 1 + 1) (.int .i64 ep) (.slice A n c)).drew = Z := ⟨_, rfl⟩
    have OKZ : Ok w Z := by rw [← hZ]; exact Ok.drew (Ok.put2 (Ok.put8 OKV.out (by omega)) (by omega))
    rw [hZ] at B8 C2 ⊢
    obtain ⟨b0, b1, b2, b3, b4, b5, b6, b7⟩ := B8
    obtain ⟨e0, e1⟩ := C2
    refine bodyPost_ret (by simp [results, Tryz.results30, go_sem, b0, b1, b2, b3, b4, b5, b6, b7, e0, e1]; try rfl) rfl ?_
    rw [← HQK.out]
    exact StepR.mk A n c rfl HN.out (HIT.out _ OKZ) OKZ
  · have d0 : (st == sto) = false := beq_eq_false_iff_ne.2 hst
    have hq := HQ2.out
    rw [if_neg hst] at hq
    have HQ3 := Lib.hid hq
    clear hq HQ2 hst
    go_wp2_with fail
    (with_reducible refine (HGO.out w2).mono ?_)
    rintro _ w3 ⟨rfl, o3⟩
    replace HFR := Lib.hid (HFR.out.ok HR.out.c0 o3); replace HFT := Lib.hid (HFT.out.ok HT.out.1 o3); replace HFX := Lib.hid (HFX.out.ok X0 o3); replace HFS := Lib.hid (HFS.out.ok S0 o3); replace HR := Lib.hid (HR.out.ok o3); replace HT := Lib.hid (And.intro (Ok.cell o3 HT.out.1) (Ok.cell o3 HT.out.2))
    replace X0 := Ok.cell o3 X0; replace X1 := Ok.cell o3 X1; replace X2 := Ok.cell o3 X2; replace X3 := Ok.cell o3 X3; replace X4 := Ok.cell o3 X4; replace X5 := Ok.cell o3 X5; replace X6 := Ok.cell o3 X6; replace X7 := Ok.cell o3 X7; replace S0 := Ok.cell o3 S0; replace S1 := Ok.cell o3 S1
    replace OKV := Lib.hid (Ok.call OKV.out o3)
    clear o3 HGO
    cases go with
    | false =>
      clear HTN HIN
      have hq := HQ3.out
      rw [if_pos rfl] at hq
      have HQK := Lib.hid hq
      clear hq HQ3
      obtain ⟨R0, R1, R2, R3, R4, R5, R6, R7⟩ := HR.out
      obtain ⟨T0, T1⟩ := HT.out
      have f0 := HFR.out 0 (by decide); have f1 := HFR.out 1 (by decide); have f2 := HFR.out 2 (by decide); have f3 := HFR.out 3 (by decide); have f4 := HFR.out 4 (by decide); have f5 := HFR.out 5 (by decide); have f6 := HFR.out 6 (by decide); have f7 := HFR.out 7 (by decide); have t0 := HFT.out 0 (by decide); have t1 := HFT.out 1 (by decide)
      go_wp2
      have B8 := (HR.out.put8 sc0).put2 (p := p + 1 + 1 + 1) (a := .int .i64 0) (b := .slice none 0 0) (by omega)
      have C2 := two_put2 (a := .int .i64 0) (b := .slice none 0 0) (other8 (p := p + 1 + 1) (x := sc0) (by omega) HT.out.1) (other8 (p := p + 1 + 1) (x := sc0) (by omega) HT.out.2)
      (try simp only [Exit.inBlock, Exit.then])
      change bodyPost Tryz.prog _ _ Exit.ret _ (put2 (put8 w3 (p + 1 + 1) sc0) (p + 1 + 1 + 1) (.int .i64 0) (.slice none 0 0))
      obtain ⟨Z, hZ⟩ : ∃ Z, put2 (put8 w3 (p + 1 + 1) sc0) (p + 1 + 1 + 1) (.int .i64 0) (.slice none 0 0) = Z := ⟨_, rfl⟩
      have OKZ : Ok w Z := by rw [← hZ]; exact Ok.put2 (Ok.put8 OKV.out (by omega)) (by omega)
      rw [hZ] at B8 C2 ⊢
      obtain ⟨b0, b1, b2, b3, b4, b5, b6, b7⟩ := B8
      obtain ⟨e0, e1⟩ := C2
      refine bodyPost_ret (by simp [results, Tryz.results30, go_sem, b0, b1, b2, b3, b4, b5, b6, b7, e0, e1]; try rfl) rfl ?_
      rw [← HQK.out]
      exact StepR.mk none 0 0 rfl rfl (fun j hj => absurd hj (Nat.not_lt_zero _)) OKZ
    | true =>
    have hq := HQ3.out
    rw [if_neg (by decide)] at hq
    have HQ4 := Lib.hid hq
    clear hq HQ3
    by_cases h4 : sto = 4
    · subst h4
      have hq := HQ4.out
      rw [if_pos rfl] at hq
      have HQ5 := Lib.hid hq
      clear hq HQ4
      go_wp2_with fail
      (with_reducible refine (HTN.out w3 OKV.out).mono ?_)
      rintro _ w4 ⟨A5, c5, rfl, hown, o4⟩
      have hpb : p + 1 + 1 + 1 < w3.heap.size := World.block_lt_of_cell? w3 ⟨p + 1 + 1 + 1, 0, none⟩ HT.out.1
      have HOW := Lib.hid hown
      clear hown HTN
      replace HFR := Lib.hid (HFR.out.ok HR.out.c0 o4); replace HFT := Lib.hid (HFT.out.ok HT.out.1 o4); replace HFX := Lib.hid (HFX.out.ok X0 o4); replace HFS := Lib.hid (HFS.out.ok S0 o4); replace HR := Lib.hid (HR.out.ok o4); replace HT := Lib.hid (And.intro (Ok.cell o4 HT.out.1) (Ok.cell o4 HT.out.2))
      replace X0 := Ok.cell o4 X0; replace X1 := Ok.cell o4 X1; replace X2 := Ok.cell o4 X2; replace X3 := Ok.cell o4 X3; replace X4 := Ok.cell o4 X4; replace X5 := Ok.cell o4 X5; replace X6 := Ok.cell o4 X6; replace X7 := Ok.cell o4 X7; replace S0 := Ok.cell o4 S0; replace S1 := Ok.cell o4 S1
      replace OKV := Lib.hid (Ok.call OKV.out o4)
      clear o4
      go_upto_region 9 with fail
      obtain ⟨q, hq⟩ : ∃ q, w4.heap.size = q := ⟨_, rfl⟩
      have hpq : p + 1 + 1 + 1 < q := by have : p + 1 + 1 + 1 < w4.heap.size := World.block_lt_of_cell? w4 ⟨p + 1 + 1 + 1, 0, none⟩ HT.out.1; omega
      have Y0 : (w4.alloc (.cells #[.int .i64 E, .slice A5 m c5] 24)).cell? ⟨q, 0, none⟩ = some (.int .i64 E) := by subst hq; go_cell
      have Y1 : (w4.alloc (.cells #[.int .i64 E, .slice A5 m c5] 24)).cell? ⟨q, 1, none⟩ = some (.slice A5 m c5) := by subst hq; go_cell
      have oa := Ok.alloc (Ok.refl w4) (.cells #[.int .i64 E, .slice A5 m c5] 24)
      try rw [hq]
      generalize w4.alloc (.cells #[.int .i64 E, .slice A5 m c5] 24) = V at Y0 Y1 oa ⊢
      replace HFR := Lib.hid (HFR.out.ok HR.out.c0 oa); replace HFT := Lib.hid (HFT.out.ok HT.out.1 oa); replace HFX := Lib.hid (HFX.out.ok X0 oa); replace HFS := Lib.hid (HFS.out.ok S0 oa); replace HR := Lib.hid (HR.out.ok oa); replace HT := Lib.hid (And.intro (Ok.cell oa HT.out.1) (Ok.cell oa HT.out.2))
      replace X0 := Ok.cell oa X0; replace X1 := Ok.cell oa X1; replace X2 := Ok.cell oa X2; replace X3 := Ok.cell oa X3; replace X4 := Ok.cell oa X4; replace X5 := Ok.cell oa X5; replace X6 := Ok.cell oa X6; replace X7 := Ok.cell oa X7; replace S0 := Ok.cell oa S0; replace S1 := Ok.cell oa S1
      replace OKV := Lib.hid (Ok.call OKV.out oa)
      have HOW := Lib.hid (HOW.out.ok oa)
      clear oa hq
      by_cases hk : rk = 0
      · subst hk
        have hE := HE.out
        rw [if_pos rfl] at hE
        subst hE
        have hq := HQ5.out
        rw [if_pos rfl] at hq
        have HQ6 := Lib.hid hq
        clear hq HQ5 HE
        go_wp2_with fail
        (with_reducible refine (HIN.out V OKV.out).mono ?_)
        rintro _ w5 ⟨rfl, o5⟩
        replace HFR := Lib.hid (HFR.out.ok HR.out.c0 o5); replace HFT := Lib.hid (HFT.out.ok HT.out.1 o5); replace HFX := Lib.hid (HFX.out.ok X0 o5); replace HFS := Lib.hid (HFS.out.ok S0 o5); replace HR := Lib.hid (HR.out.ok o5); replace HT := Lib.hid (And.intro (Ok.cell o5 HT.out.1) (Ok.cell o5 HT.out.2))
        replace X0 := Ok.cell o5 X0; replace X1 := Ok.cell o5 X1; replace X2 := Ok.cell o5 X2; replace X3 := Ok.cell o5 X3; replace X4 := Ok.cell o5 X4; replace X5 := Ok.cell o5 X5; replace X6 := Ok.cell o5 X6; replace X7 := Ok.cell o5 X7; replace S0 := Ok.cell o5 S0; replace S1 := Ok.cell o5 S1
        replace OKV := Lib.hid (Ok.call OKV.out o5)
        replace Y0 := Ok.cell o5 Y0; replace Y1 := Ok.cell o5 Y1
        have HOW := Lib.hid (HOW.out.ok o5)
        clear o5 HIN
        go_upto_region 12 with fail
        obtain ⟨q2, hq2⟩ : ∃ q, w5.heap.size = q := ⟨_, rfl⟩
        have hqq : p + 1 + 1 + 1 < q2 := by have : p + 1 + 1 + 1 < w5.heap.size := World.block_lt_of_cell? w5 ⟨p + 1 + 1 + 1, 0, none⟩ HT.out.1; omega
        have G2 : (w5.alloc (.cells #[.string yl, .string yh, .int .i64 yg, .int .i64 ye] 35)).cell? ⟨q2, 2, none⟩ = some (.int .i64 yg) := by subst hq2; go_cell
        have G3 : (w5.alloc (.cells #[.string yl, .string yh, .int .i64 yg, .int .i64 ye] 35)).cell? ⟨q2, 3, none⟩ = some (.int .i64 ye) := by subst hq2; go_cell
        have oa := Ok.alloc (Ok.refl w5) (.cells #[.string yl, .string yh, .int .i64 yg, .int .i64 ye] 35)
        try rw [hq2]
        generalize w5.alloc (.cells #[.string yl, .string yh, .int .i64 yg, .int .i64 ye] 35) = V2 at G2 G3 oa ⊢
        replace HFR := Lib.hid (HFR.out.ok HR.out.c0 oa); replace HFT := Lib.hid (HFT.out.ok HT.out.1 oa); replace HFX := Lib.hid (HFX.out.ok X0 oa); replace HFS := Lib.hid (HFS.out.ok S0 oa); replace HR := Lib.hid (HR.out.ok oa); replace HT := Lib.hid (And.intro (Ok.cell oa HT.out.1) (Ok.cell oa HT.out.2))
        replace X0 := Ok.cell oa X0; replace X1 := Ok.cell oa X1; replace X2 := Ok.cell oa X2; replace X3 := Ok.cell oa X3; replace X4 := Ok.cell oa X4; replace X5 := Ok.cell oa X5; replace X6 := Ok.cell oa X6; replace X7 := Ok.cell oa X7; replace S0 := Ok.cell oa S0; replace S1 := Ok.cell oa S1
        replace OKV := Lib.hid (Ok.call OKV.out oa)
        replace Y0 := Ok.cell oa Y0; replace Y1 := Ok.cell oa Y1
        have HOW := Lib.hid (HOW.out.ok oa)
        clear oa hq2
        by_cases hg : yg = fr ∧ ye = xe
        · have hq := HQ6.out
          rw [if_pos (by rw [if_pos hg])] at hq
          have HQ7 := Lib.hid hq
          clear hq HQ6
          have dg : (yg != fr) = false := by simp [hg.1]
          have de : (ye != xe) = false := by simp [hg.2]
          have ff0 := HFX.out 6 (by decide)
          have ff1 := HFX.out 7 (by decide)
          have fs0 := HFS.out 0 (by decide)
          have fs1 := HFS.out 1 (by decide)
          go_upto_region 17 with fail
          generalize hV3 : (((V2.setCell ⟨p + 1, 0, none⟩ (.int .i64 (ep + 1))).setCell ⟨p + 1, 1, none⟩ (.slice A5 m c5)).setCell ⟨p, 6, none⟩ (.int .i64 (ep + 1))).setCell ⟨p, 7, none⟩ (.int .u8 4) = V3
          have n1 : p ≠ p + 1 := by omega
          have n2 : p + 1 ≠ p := by omega
          have n3 : p + 1 + 1 ≠ p := by omega
          have n4 : p + 1 + 1 ≠ p + 1 := by omega
          have n5 : p + 1 + 1 + 1 ≠ p := by omega
          have n6 : p + 1 + 1 + 1 ≠ p + 1 := by omega
          replace X0 : V3.cell? ⟨p, 0, none⟩ = some (.int .i64 num) := by rw [← hV3]; exact cell_set _ p 7 0 _ _ (cell_set _ p 6 0 _ _ (other n1 (other n1 X0)))
          replace X1 : V3.cell? ⟨p, 1, none⟩ = some (.string lo) := by rw [← hV3]; exact cell_set _ p 7 1 _ _ (cell_set _ p 6 1 _ _ (other n1 (other n1 X1)))
          replace X2 : V3.cell? ⟨p, 2, none⟩ = some (.string hi) := by rw [← hV3]; exact cell_set _ p 7 2 _ _ (cell_set _ p 6 2 _ _ (other n1 (other n1 X2)))
          replace X3 : V3.cell? ⟨p, 3, none⟩ = some (.int .i64 fr) := by rw [← hV3]; exact cell_set _ p 7 3 _ _ (cell_set _ p 6 3 _ _ (other n1 (other n1 X3)))
          replace X4 : V3.cell? ⟨p, 4, none⟩ = some (.int .i64 tt) := by rw [← hV3]; exact cell_set _ p 7 4 _ _ (cell_set _ p 6 4 _ _ (other n1 (other n1 X4)))
          replace X5 : V3.cell? ⟨p, 5, none⟩ = some (.int .i64 xe) := by rw [← hV3]; exact cell_set _ p 7 5 _ _ (cell_set _ p 6 5 _ _ (other n1 (other n1 X5)))
          replace X6 : V3.cell? ⟨p, 6, none⟩ = some (.int .i64 (ep + 1)) := by rw [← hV3]; exact cell_set _ p 7 6 _ _ (cell_set _ p 6 6 _ _ (other n1 (other n1 X6)))
          replace X7 : V3.cell? ⟨p, 7, none⟩ = some (.int .u8 4) := by rw [← hV3]; exact cell_set _ p 7 7 _ _ (cell_set _ p 6 7 _ _ (other n1 (other n1 X7)))
          have hs := two_put2 (p := p + 1) (a := .int .i64 (ep + 1)) (b := .slice A5 m c5) S0 S1
          replace S0 : V3.cell? ⟨p + 1, 0, none⟩ = some (.int .i64 (ep + 1)) := by rw [← hV3]; exact other n2 (other n2 hs.1)
          replace S1 : V3.cell? ⟨p + 1, 1, none⟩ = some (.slice A5 m c5) := by rw [← hV3]; exact other n2 (other n2 hs.2)
          have o3 : ∀ {j u}, V2.cell? ⟨p + 1 + 1, j, none⟩ = some u → V3.cell? ⟨p + 1 + 1, j, none⟩ = some u := fun h => by rw [← hV3]; exact other n3 (other n3 (other n4 (other n4 h)))
          have o4 : ∀ {j u}, V2.cell? ⟨p + 1 + 1 + 1, j, none⟩ = some u → V3.cell? ⟨p + 1 + 1 + 1, j, none⟩ = some u := fun h => by rw [← hV3]; exact other n5 (other n5 (other n6 (other n6 h)))
          replace HR : Hid (Sc8 V3 (p + 1 + 1) z) := Lib.hid ⟨o3 HR.out.c0, o3 HR.out.c1, o3 HR.out.c2, o3 HR.out.c3, o3 HR.out.c4, o3 HR.out.c5, o3 HR.out.c6, o3 HR.out.c7⟩
          replace HT := Lib.hid (And.intro (o4 HT.out.1) (o4 HT.out.2))
          replace HFR : Hid (Fz V3 (p + 1 + 1) 8) := Lib.hid (fun j hj => by rw [← hV3]; simp only [World.frozen?_setCell]; exact HFR.out j hj)
          replace HFT : Hid (Fz V3 (p + 1 + 1 + 1) 2) := Lib.hid (fun j hj => by rw [← hV3]; simp only [World.frozen?_setCell]; exact HFT.out j hj)
          replace OKV : Hid (Ok w V3) := Lib.hid (by rw [← hV3]; exact Ok.set (Ok.set (Ok.set (Ok.set OKV.out (by show _ ≤ p + 1; omega) _) (by show _ ≤ p + 1; omega) _) (by show _ ≤ p; omega) _) (by show _ ≤ p; omega) _)
          have HOW := Lib.hid ((((HOW.out.set (p := ⟨p + 1, 0, none⟩) (by show p + 1 < _; omega) (.int .i64 (ep + 1))).set (p := ⟨p + 1, 1, none⟩) (by show p + 1 < _; omega) (.slice A5 m c5)).set (p := ⟨p, 6, none⟩) (by show p < _; omega) (.int .i64 (ep + 1))).set (p := ⟨p, 7, none⟩) (by show p < _; omega) (.int .u8 4))
          rw [hV3] at HOW
          clear hV3 hs o3 o4 ff0 ff1 fs0 fs1 Y0 Y1 G2 G3 dg de
          obtain ⟨R0, R1, R2, R3, R4, R5, R6, R7⟩ := HR.out
          obtain ⟨T0, T1⟩ := HT.out
          have f0 := HFR.out 0 (by decide); have f1 := HFR.out 1 (by decide); have f2 := HFR.out 2 (by decide); have f3 := HFR.out 3 (by decide); have f4 := HFR.out 4 (by decide); have f5 := HFR.out 5 (by decide); have f6 := HFR.out 6 (by decide); have f7 := HFR.out 7 (by decide); have t0 := HFT.out 0 (by decide); have t1 := HFT.out 1 (by decide)
          go_region
          go_wp2
          have B8 := ((HR.out.put8 ⟨num, ⟨lo, hi⟩, fr, tt, xe, ep + 1, 4⟩).put2 (p := p + 1 + 1 + 1) (a := .int .i64 (ep + 1)) (b := .slice A5 m c5) (by omega)).ok (Ok.drew (Ok.refl _))
          have C0 := two_put2 (a := .int .i64 (ep + 1)) (b := .slice A5 m c5) (other8 (p := p + 1 + 1) (x := ⟨num, ⟨lo, hi⟩, fr, tt, xe, ep + 1, 4⟩) (by omega) HT.out.1) (other8 (p := p + 1 + 1) (x := ⟨num, ⟨lo, hi⟩, fr, tt, xe, ep + 1, 4⟩) (by omega) HT.out.2)
          have C2 := And.intro (Ok.cell (Ok.drew (Ok.refl _)) C0.1) (Ok.cell (Ok.drew (Ok.refl _)) C0.2)
          (try simp only [Exit.inBlock, Exit.then])
          change bodyPost Tryz.prog _ _ Exit.ret _ (put2 (put8 V3 (p + 1 + 1) ⟨num, ⟨lo, hi⟩, fr, tt, xe, ep + 1, 4⟩) (p + 1 + 1 + 1) (.int .i64 (ep + 1)) (.slice A5 m c5)).drew
          obtain ⟨Z, hZ⟩ : ∃ Z, (put2 (put8 V3 (p + 1 + 1) ⟨num, ⟨lo, hi⟩, fr, tt, xe, ep + 1, 4⟩) (p + 1 + 1 + 1) (.int .i64 (ep + 1)) (.slice A5 m c5)).drew = Z := ⟨_, rfl⟩
          have OKZ : Ok w Z := by rw [← hZ]; exact Ok.drew (Ok.put2 (Ok.put8 OKV.out (by omega)) (by omega))
          rw [hZ] at B8 C2 ⊢
          obtain ⟨b0, b1, b2, b3, b4, b5, b6, b7⟩ := B8
          obtain ⟨e0, e1⟩ := C2
          refine bodyPost_ret (by simp [results, Tryz.results30, go_sem, b0, b1, b2, b3, b4, b5, b6, b7, e0, e1]; try rfl) rfl ?_
          have HOZ := ((HOW.out.put8 (p := p + 1 + 1) (x := ⟨num, ⟨lo, hi⟩, fr, tt, xe, ep + 1, 4⟩) (by omega)).put2 (p := p + 1 + 1 + 1) (a := .int .i64 (ep + 1)) (b := .slice A5 m c5) (by omega)).ok (Ok.drew (Ok.refl _))
          rw [hZ] at HOZ
          rw [← HQ7.out]
          exact StepR.mk A5 m c5 rfl HM.out HOZ.at OKZ
        · have hq := HQ6.out
          rw [if_neg (by rw [if_neg hg]; decide), if_neg hg] at hq
          have HQ7 := Lib.hid hq
          clear hq HQ6
          by_cases hg1 : yg = fr
          · have dg : (yg != fr) = false := by simp [hg1]
            have de : (ye != xe) = true := by simpa using fun h => hg ⟨hg1, h⟩
            clear hg hg1
            obtain ⟨R0, R1, R2, R3, R4, R5, R6, R7⟩ := HR.out
            obtain ⟨T0, T1⟩ := HT.out
            have f0 := HFR.out 0 (by decide); have f1 := HFR.out 1 (by decide); have f2 := HFR.out 2 (by decide); have f3 := HFR.out 3 (by decide); have f4 := HFR.out 4 (by decide); have f5 := HFR.out 5 (by decide); have f6 := HFR.out 6 (by decide); have f7 := HFR.out 7 (by decide); have t0 := HFT.out 0 (by decide); have t1 := HFT.out 1 (by decide)
            go_wp2
            have B8 := (HR.out.put8 sc0).put2 (p := p + 1 + 1 + 1) (a := .int .i64 0) (b := .slice none 0 0) (by omega)
            have C2 := two_put2 (a := .int .i64 0) (b := .slice none 0 0) (other8 (p := p + 1 + 1) (x := sc0) (by omega) HT.out.1) (other8 (p := p + 1 + 1) (x := sc0) (by omega) HT.out.2)
            (try simp only [Exit.inBlock, Exit.then])
            change bodyPost Tryz.prog _ _ Exit.ret _ (put2 (put8 V2 (p + 1 + 1) sc0) (p + 1 + 1 + 1) (.int .i64 0) (.slice none 0 0))
            obtain ⟨Z, hZ⟩ : ∃ Z, put2 (put8 V2 (p + 1 + 1) sc0) (p + 1 + 1 + 1) (.int .i64 0) (.slice none 0 0) = Z := ⟨_, rfl⟩
            have OKZ : Ok w Z := by rw [← hZ]; exact Ok.put2 (Ok.put8 OKV.out (by omega)) (by omega)
            rw [hZ] at B8 C2 ⊢
            obtain ⟨b0, b1, b2, b3, b4, b5, b6, b7⟩ := B8
            obtain ⟨e0, e1⟩ := C2
            refine bodyPost_ret (by simp [results, Tryz.results30, go_sem, b0, b1, b2, b3, b4, b5, b6, b7, e0, e1]; try rfl) rfl ?_
            rw [← HQ7.out]
            exact StepR.mk none 0 0 rfl rfl (fun j hj => absurd hj (Nat.not_lt_zero _)) OKZ
          · have dg : (yg != fr) = true := by simpa using hg1
            clear hg hg1
            obtain ⟨R0, R1, R2, R3, R4, R5, R6, R7⟩ := HR.out
            obtain ⟨T0, T1⟩ := HT.out
            have f0 := HFR.out 0 (by decide); have f1 := HFR.out 1 (by decide); have f2 := HFR.out 2 (by decide); have f3 := HFR.out 3 (by decide); have f4 := HFR.out 4 (by decide); have f5 := HFR.out 5 (by decide); have f6 := HFR.out 6 (by decide); have f7 := HFR.out 7 (by decide); have t0 := HFT.out 0 (by decide); have t1 := HFT.out 1 (by decide)
            go_wp2
            have B8 := (HR.out.put8 sc0).put2 (p := p + 1 + 1 + 1) (a := .int .i64 0) (b := .slice none 0 0) (by omega)
            have C2 := two_put2 (a := .int .i64 0) (b := .slice none 0 0) (other8 (p := p + 1 + 1) (x := sc0) (by omega) HT.out.1) (other8 (p := p + 1 + 1) (x := sc0) (by omega) HT.out.2)
            (try simp only [Exit.inBlock, Exit.then])
            change bodyPost Tryz.prog _ _ Exit.ret _ (put2 (put8 V2 (p + 1 + 1) sc0) (p + 1 + 1 + 1) (.int .i64 0) (.slice none 0 0))
            obtain ⟨Z, hZ⟩ : ∃ Z, put2 (put8 V2 (p + 1 + 1) sc0) (p + 1 + 1 + 1) (.int .i64 0) (.slice none 0 0) = Z := ⟨_, rfl⟩
            have OKZ : Ok w Z := by rw [← hZ]; exact Ok.put2 (Ok.put8 OKV.out (by omega)) (by omega)
            rw [hZ] at B8 C2 ⊢
            obtain ⟨b0, b1, b2, b3, b4, b5, b6, b7⟩ := B8
            obtain ⟨e0, e1⟩ := C2
            refine bodyPost_ret (by simp [results, Tryz.results30, go_sem, b0, b1, b2, b3, b4, b5, b6, b7, e0, e1]; try rfl) rfl ?_
            rw [← HQ7.out]
            exact StepR.mk none 0 0 rfl rfl (fun j hj => absurd hj (Nat.not_lt_zero _)) OKZ
      · have dk : (rk != 0) = true := by simpa using hk
        have hq := HQ5.out
        rw [if_neg hk, if_neg hk] at hq
        have HQ6 := Lib.hid hq
        clear hq HQ5 HE HIN hk
        obtain ⟨R0, R1, R2, R3, R4, R5, R6, R7⟩ := HR.out
        obtain ⟨T0, T1⟩ := HT.out
        have f0 := HFR.out 0 (by decide); have f1 := HFR.out 1 (by decide); have f2 := HFR.out 2 (by decide); have f3 := HFR.out 3 (by decide); have f4 := HFR.out 4 (by decide); have f5 := HFR.out 5 (by decide); have f6 := HFR.out 6 (by decide); have f7 := HFR.out 7 (by decide); have t0 := HFT.out 0 (by decide); have t1 := HFT.out 1 (by decide)
        go_wp2
        have B8 := (HR.out.put8 sc0).put2 (p := p + 1 + 1 + 1) (a := .int .i64 0) (b := .slice none 0 0) (by omega)
        have C2 := two_put2 (a := .int .i64 0) (b := .slice none 0 0) (other8 (p := p + 1 + 1) (x := sc0) (by omega) HT.out.1) (other8 (p := p + 1 + 1) (x := sc0) (by omega) HT.out.2)
        (try simp only [Exit.inBlock, Exit.then])
        change bodyPost Tryz.prog _ _ Exit.ret _ (put2 (put8 V (p + 1 + 1) sc0) (p + 1 + 1 + 1) (.int .i64 0) (.slice none 0 0))
        obtain ⟨Z, hZ⟩ : ∃ Z, put2 (put8 V (p + 1 + 1) sc0) (p + 1 + 1 + 1) (.int .i64 0) (.slice none 0 0) = Z := ⟨_, rfl⟩
        have OKZ : Ok w Z := by rw [← hZ]; exact Ok.put2 (Ok.put8 OKV.out (by omega)) (by omega)
        rw [hZ] at B8 C2 ⊢
        obtain ⟨b0, b1, b2, b3, b4, b5, b6, b7⟩ := B8
        obtain ⟨e0, e1⟩ := C2
        refine bodyPost_ret (by simp [results, Tryz.results30, go_sem, b0, b1, b2, b3, b4, b5, b6, b7, e0, e1]; try rfl) rfl ?_
        rw [← HQ6.out]
        exact StepR.mk none 0 0 rfl rfl (fun j hj => absurd hj (Nat.not_lt_zero _)) OKZ
    · have d4 : (sto == 4) = false := beq_eq_false_iff_ne.2 h4
      have hq := HQ4.out
      rw [if_neg h4] at hq
      have HQ5 := Lib.hid hq
      clear hq HQ4 HTN HIN h4
      have fx7 := HFX.out 7 (by decide)
      go_upto_region 17 with fail
      generalize hV3 : w3.setCell ⟨p, 7, none⟩ (.int .u8 sto) = V3
      have n2 : p + 1 ≠ p := by omega
      have n3 : p + 1 + 1 ≠ p := by omega
      have n5 : p + 1 + 1 + 1 ≠ p := by omega
      replace X0 : V3.cell? ⟨p, 0, none⟩ = some (.int .i64 num) := by rw [← hV3]; exact cell_set _ p 7 0 _ _ X0
      replace X1 : V3.cell? ⟨p, 1, none⟩ = some (.string lo) := by rw [← hV3]; exact cell_set _ p 7 1 _ _ X1
      replace X2 : V3.cell? ⟨p, 2, none⟩ = some (.string hi) := by rw [← hV3]; exact cell_set _ p 7 2 _ _ X2
      replace X3 : V3.cell? ⟨p, 3, none⟩ = some (.int .i64 fr) := by rw [← hV3]; exact cell_set _ p 7 3 _ _ X3
      replace X4 : V3.cell? ⟨p, 4, none⟩ = some (.int .i64 tt) := by rw [← hV3]; exact cell_set _ p 7 4 _ _ X4
      replace X5 : V3.cell? ⟨p, 5, none⟩ = some (.int .i64 xe) := by rw [← hV3]; exact cell_set _ p 7 5 _ _ X5
      replace X6 : V3.cell? ⟨p, 6, none⟩ = some (.int .i64 un) := by rw [← hV3]; exact cell_set _ p 7 6 _ _ X6
      replace X7 : V3.cell? ⟨p, 7, none⟩ = some (.int .u8 sto) := by rw [← hV3]; exact cell_set _ p 7 7 _ _ X7
      replace S0 : V3.cell? ⟨p + 1, 0, none⟩ = some (.int .i64 ep) := by rw [← hV3]; exact other n2 S0
      replace S1 : V3.cell? ⟨p + 1, 1, none⟩ = some (.slice A n c) := by rw [← hV3]; exact other n2 S1
      have o3 : ∀ {j u}, w3.cell? ⟨p + 1 + 1, j, none⟩ = some u → V3.cell? ⟨p + 1 + 1, j, none⟩ = some u := fun h => by rw [← hV3]; exact other n3 h
      replace HR : Hid (Sc8 V3 (p + 1 + 1) z) := Lib.hid ⟨o3 HR.out.c0, o3 HR.out.c1, o3 HR.out.c2, o3 HR.out.c3, o3 HR.out.c4, o3 HR.out.c5, o3 HR.out.c6, o3 HR.out.c7⟩
      replace HT : Hid (V3.cell? ⟨p + 1 + 1 + 1, 0, none⟩ = some u0 ∧ V3.cell? ⟨p + 1 + 1 + 1, 1, none⟩ = some u1) := Lib.hid (by rw [← hV3]; exact ⟨other n5 HT.out.1, other n5 HT.out.2⟩)
      replace HFR : Hid (Fz V3 (p + 1 + 1) 8) := Lib.hid (fun j hj => by rw [← hV3]; simp only [World.frozen?_setCell]; exact HFR.out j hj)
      replace HFT : Hid (Fz V3 (p + 1 + 1 + 1) 2) := Lib.hid (fun j hj => by rw [← hV3]; simp only [World.frozen?_setCell]; exact HFT.out j hj)
      replace OKV : Hid (Ok w V3) := Lib.hid (by rw [← hV3]; exact Ok.set OKV.out (by show _ ≤ p; omega) _)
      clear hV3 o3 fx7 d4 d0
      obtain ⟨R0, R1, R2, R3, R4, R5, R6, R7⟩ := HR.out
      obtain ⟨T0, T1⟩ := HT.out
      have f0 := HFR.out 0 (by decide); have f1 := HFR.out 1 (by decide); have f2 := HFR.out 2 (by decide); have f3 := HFR.out 3 (by decide); have f4 := HFR.out 4 (by decide); have f5 := HFR.out 5 (by decide); have f6 := HFR.out 6 (by decide); have f7 := HFR.out 7 (by decide); have t0 := HFT.out 0 (by decide); have t1 := HFT.out 1 (by decide)
      go_region
      go_wp2
      have B8 := ((HR.out.put8 ⟨num, ⟨lo, hi⟩, fr, tt, xe, un, sto⟩).put2 (p := p + 1 + 1 + 1) (a := .int .i64 ep) (b := .slice A n c) (by omega)).ok (Ok.drew (Ok.refl _))
      have C0 := two_put2 (a := .int .i64 ep) (b := .slice A n c) (other8 (p := p + 1 + 1) (x := ⟨num, ⟨lo, hi⟩, fr, tt, xe, un, sto⟩) (by omega) HT.out.1) (other8 (p := p + 1 + 1) (x := ⟨num, ⟨lo, hi⟩, fr, tt, xe, un, sto⟩) (by omega) HT.out.2)
      have C2 := And.intro (Ok.cell (Ok.drew (Ok.refl _)) C0.1) (Ok.cell (Ok.drew (Ok.refl _)) C0.2)
      (try simp only [Exit.inBlock, Exit.then])
      change bodyPost Tryz.prog _ _ Exit.ret _ (put2 (put8 V3 (p + 1 + 1) ⟨num, ⟨lo, hi⟩, fr, tt, xe, un, sto⟩) (p + 1 + 1 + 1) (.int .i64 ep) (.slice A n c)).drew
      obtain ⟨Z, hZ⟩ : ∃ Z, (put2 (put8 V3 (p + 1 + 1) ⟨num, ⟨lo, hi⟩, fr, tt, xe, un, sto⟩) (p + 1 + 1 + 1) (.int .i64 ep) (.slice A n c)).drew = Z := ⟨_, rfl⟩
      have OKZ : Ok w Z := by rw [← hZ]; exact Ok.drew (Ok.put2 (Ok.put8 OKV.out (by omega)) (by omega))
      rw [hZ] at B8 C2 ⊢
      obtain ⟨b0, b1, b2, b3, b4, b5, b6, b7⟩ := B8
      obtain ⟨e0, e1⟩ := C2
      refine bodyPost_ret (by simp [results, Tryz.results30, go_sem, b0, b1, b2, b3, b4, b5, b6, b7, e0, e1]; try rfl) rfl ?_
      rw [← HQ5.out]
      exact StepR.mk A n c rfl HN.out (HIT.out _ OKZ) OKZ
end Go.Proofs.YtdabdkedgigjdaaGreat
