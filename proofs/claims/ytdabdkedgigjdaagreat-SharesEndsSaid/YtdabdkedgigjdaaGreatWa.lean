/- The document's own Groups, walked. -/
import Derived.Test.YtdabdkedgigjdaaGreatSl
import Derived.Test.YtdabdkedgigjdaaGreatSm
import Derived.Test.YtdabdkedgigjdaaGreatO
import Derived.Test.YtdabdkedgigjdaaGreatSw
import Derived.Test.YtdabdkedgigjdaaGreatYp
import Derived.Laws.AppendOwnNone
import Derived.Deep.RegionHeld3
import Derived.Test.YtdabdkedgigjdaaGreatYf
import Derived.Outline
import Derived.Test.YtdabdkedgigjdaaGreatSx
import Derived.Test.YtdabdkedgigjdaaGreatSr
import Derived.Lib.RowBridge
import Derived.Lib.SlicesCompact
import Derived.Deep.CutRange
namespace Go.Proofs.YtdabdkedgigjdaaGreat
open Go.RowKit

set_option maxRecDepth 100000 in
theorem run_appT (w : World) (ty base m : Nat) (v : Value) (xs ys : List Str) (vx : Value) (hown : OwnT w base v xs) (hy : StrsN m w vx ys) (hlen : xs.length ≤ 100) (hbase : base ≤ w.heap.size) :
    ∃ A n c w', (Builtin.append_ #[27, 27] ty #[v, vx]).run Tryz.prog w = .ok (.slice A n c) w' ∧ OwnT w' base (.slice A n c) (xs ++ ys) ∧ Below base w w' := by
  obtain ⟨i0, hi, hz0, hz1, hz2⟩ := info_parts info9
  have form : ∀ v' w', w'.ownsRow base 9 1 v' (xs.length + ys.length) (xs.map Value.string ++ ys.map Value.string) → ∃ A n c, v' = .slice A n c ∧ OwnT w' base (.slice A n c) (xs ++ ys) := fun v' w' h2 => by
    have h2' : OwnT w' base v' (xs ++ ys) := by unfold OwnT; rw [List.map_append, List.length_append]; exact h2
    rcases h2.2 with ⟨rfl, _⟩ | ⟨g', cap', cur, rfl, _⟩
    · exact ⟨_, _, _, rfl, h2'⟩
    · exact ⟨_, _, _, rfl, h2'⟩
  have some_ : ∀ (ad : Addr) (len c : Nat), vx = .slice (some ad) len c → ys.length = len → (∀ j u, (ys.map Value.string)[j]? = some u → w.cell? (ad.add j) = some u) → len ≤ 8796093021952 →
      ∃ A n c w', (Builtin.append_ #[27, 27] ty #[v, vx]).run Tryz.prog w = .ok (.slice A n c) w' ∧ OwnT w' base (.slice A n c) (xs ++ ys) ∧ Below base w w' := by
    rintro ad len c rfl rfl hn hm
    obtain ⟨v', w', hr, h2, h3, _, _⟩ := run_append_own_at (P := Tryz.prog) w base 27 ty 9 i0 (.string ⟨#[]⟩) 1 16 Tryz.underlying27 hi hz0 hz1 hz2 rfl (by decide) v xs.length (xs.map Value.string) hown ad ys.length c (ys.map Value.string) (by simp) hn
      (fun u hu => by obtain ⟨y, _, rfl⟩ := List.mem_map.1 hu; rfl) (by unfold maxLen; omega) (by omega) hbase
    obtain ⟨A, n, c', rfl, hO⟩ := form v' w' h2
    exact ⟨A, n, c', w', hr, hO, (Below.refl base w).grown h3 hbase (fun k hk => (World.ownsRow.lt hown k hk).1)⟩
  rcases hy with ⟨rfl, A, c, rfl, hA⟩ | ⟨b, off, c, rfl, _, hm, hc⟩
  · cases A with
    | some ad => exact some_ ad 0 c rfl rfl (fun j u hu => by simp at hu) (by omega)
    | none =>
      obtain rfl := hA rfl
      have hrun := run_append_owned_none (P := Tryz.prog) (w := w) base 27 ty 9 i0 1 Tryz.underlying27 hi v xs.length (xs.map Value.string) hown
      obtain ⟨A, n, c', rfl, hO⟩ := form v w (by have h2 : w.ownsRow base 9 1 v xs.length (xs.map Value.string) := hown; simpa using h2)
      exact ⟨A, n, c', w, hrun, hO, Below.refl _ _⟩
  · refine some_ _ _ c rfl rfl (fun j u hu => ?_) hm
    have hj : j < ys.length := by
      by_cases hl : j < ys.length
      · exact hl
      · rw [List.getElem?_eq_none (by simp; omega)] at hu; cases hu
    rw [add_off, hc j hj, ← hu]
    simp [hj, at0]
/-- A list of texts appended, at a step of a region that draws. -/
theorem step_appTs {ops : Array Oper} {o : Oper} {a : Act} {w : World} {K : Act → World → Prop} {Q : Exit → Act → World → Prop} {E : Prop} (hgd : o.guard = none) (s x : Operand)
    (ho : o.op = .call { callee := .builtin .append, args := #[s, x], argTypes := #[27, 27] })
    (base : Nat) (v : Value) (xs ys : List Str) (vx : Value) (m : Nat) (hs : a.eval s = v) (hx : a.eval x = vx) (hown : OwnT w base v xs) (hy : StrsN m w vx ys) (hlen : xs.length ≤ 100) (hbase : base ≤ w.heap.size)
    (hk : ∀ A n c w', OwnT w' base (.slice A n c) (xs ++ ys) → Below base w w' → K (a.put o.dst (.slice A n c)) w') :
    if Region.wanted o (yielded ops a.tmps) = true then Oper.wp Tryz.prog o a w K Q else E := by
  have hw : Region.wanted o (yielded ops a.tmps) = true := by simp [Region.wanted, hgd]
  rw [if_pos hw]
  obtain ⟨A, n, c, w', hr, h2, h3⟩ := run_appT w o.type base m v xs ys vx hown hy hlen hbase
  unfold Oper.wp execOp
  simp only [ho, resolve, invoke, builtin, Sem.run_bind, Sem.run_pure, Result.andThen_ok, List.map_toArray, List.map_cons, List.map_nil, hs, hx, hr]
  exact hk A n c w' h2 h3
theorem two_own (w : World) (a b : Str) : OwnT (w.alloc (.cells #[.string a, .string b] 9)) w.heap.size (.slice (some ⟨w.heap.size, 0, none⟩) 2 2) [a, b] :=
  World.ownsRow_lit w #[.string a, .string b] 2 (Nat.le_refl _) (by decide) rfl
end Go.Proofs.YtdabdkedgigjdaaGreat
namespace Go.Proofs.YtdabdkedgigjdaaGreat
open Go.RowKit

def markSh (i : Nat) : Sh := ⟨allS, 0, 8000024 + (i : Int)⟩
def markSh2 (i : Nat) : Sh := ⟨allS, 0, 9000027 + (i : Int)⟩
set_option maxHeartbeats 1000000 in
theorem markSh_w (i : Nat) (h : i < 100000) (w : World) : Calls Tryz.prog 95 #[.int .i64 1, .int .i64 (i : Int)] w (Ret w (shV (markSh i))) := by
  have h0 : (0 : Int) ≤ (i : Int) := Int.natCast_nonneg _
  have h1 : (i : Int) < 100000 := by omega
  unfold markSh shV allS
  simp only
  have hm : ∀ w', Calls Tryz.prog 123 #[.int .i64 1, .int .i64 (i : Int)] w' fun e w'' => e = .returned (.int .i64 (8000024 + (i : Int))) ∧ w' = w'' := fun w' => by
    go_enter Tryz.func123, Tryz.ntmps123
    go_wp2
    go_ret
    exact ⟨by go_num, rfl⟩
  generalize (8000024 + (i : Int)) = y at *
  go_enter Tryz.func95, Tryz.ntmps95
  go_wp2_with fail
  refine (hm _).mono ?_
  rintro _ w1 ⟨rfl, rfl⟩
  go_wp2_with fail
  refine bodyPost_ret (by simp [results, Tryz.results95, go_sem]; try rfl) rfl ?_
  exact ⟨rfl, Ok.alloc (Ok.refl _) _⟩
set_option maxHeartbeats 1000000 in
theorem markSh2_w (i : Nat) (h : i < 100000) (w : World) : Calls Tryz.prog 95 #[.int .i64 2, .int .i64 (i : Int)] w (Ret w (shV (markSh2 i))) := by
  have h0 : (0 : Int) ≤ (i : Int) := Int.natCast_nonneg _
  have h1 : (i : Int) < 100000 := by omega
  unfold markSh2 shV allS
  simp only
  have hm : ∀ w', Calls Tryz.prog 123 #[.int .i64 2, .int .i64 (i : Int)] w' fun e w'' => e = .returned (.int .i64 (9000027 + (i : Int))) ∧ w' = w'' := fun w' => by
    go_enter Tryz.func123, Tryz.ntmps123
    go_wp2
    go_ret
    exact ⟨by go_num, rfl⟩
  generalize (9000027 + (i : Int)) = y at *
  go_enter Tryz.func95, Tryz.ntmps95
  go_wp2_with fail
  refine (hm _).mono ?_
  rintro _ w1 ⟨rfl, rfl⟩
  go_wp2_with fail
  refine bodyPost_ret (by simp [results, Tryz.results95, go_sem]; try rfl) rfl ?_
  exact ⟨rfl, Ok.alloc (Ok.refl _) _⟩

def marksSh (m : Nat) : List Sh := (List.range m).map markSh
theorem marksSh_len (m : Nat) : (marksSh m).length = m := by simp [marksSh]
theorem marksSh_succ (m : Nat) : marksSh (m + 1) = marksSh m ++ [markSh m] := by simp [marksSh, List.range_succ]
theorem lentSh_at0 (zs : List Sh) (j : Nat) (h : j < zs.length) : at2 (zs ++ marksSh 12) j = at2 zs j := by
  rw [at2, at2, List.getElem?_append_left h]
theorem lentSh_at1 (zs : List Sh) (j : Nat) (h : j < 12) : at2 (zs ++ marksSh 12) (zs.length + j) = markSh j := by
  simp [at2, marksSh, h]
/-- What LentShareRows leaves: the shares, in a new row, with twelve marks behind them. -/
def LentShP (w : World) (zs : List Sh) : Ending → World → Prop := fun e w' => ∃ g cap, e = .returned (.slice (some ⟨g, 0, none⟩) zs.length cap) ∧ zs.length + 12 ≤ cap ∧ w.heap.size ≤ g ∧ g < w'.heap.size ∧ Ok w w' ∧ SharesAt w' (some ⟨g, 0, none⟩) (zs ++ marksSh 12)
theorem OwnSh.form {w : World} {B : Nat} {A : Option Addr} {n c : Nat} {xs : List Sh} (h : OwnSh w B A n c xs) (hp : 0 < xs.length) : ∃ g, A = Option.some ⟨g, 0, none⟩ ∧ xs.length ≤ c ∧ B ≤ g := by
  obtain ⟨h1, rfl⟩ := h
  rcases h1.2 with ⟨e, h5⟩ | ⟨g, cap, cur, e, r1, r2, r3, r4, r5⟩
  · omega
  · simp only [Value.slice.injEq] at e
    obtain ⟨rfl, -, rfl⟩ := e
    exact ⟨g, rfl, by omega, r1⟩
theorem one_sh2 (w : World) (t : Sh) : SharesAt (w.alloc (.cells #[.string t.sp.lo, .string t.sp.hi, .int .i64 t.g, .int .i64 t.e] 35)) (some ⟨w.heap.size, 0, none⟩) [t] := (one_ownsh w t).at
theorem SharesAt.nth {w : World} {b off : Nat} {xs : List Sh} (h : SharesAt w (some ⟨b, off, none⟩) xs) (j : Nat) (hj : j < xs.length) : w.cell? ⟨b, off + j * 4, none⟩ = some (.string (at2 xs j).sp.lo) ∧ w.cell? ⟨b, off + j * 4 + 1, none⟩ = some (.string (at2 xs j).sp.hi) ∧ w.cell? ⟨b, off + j * 4 + 2, none⟩ = some (.int .i64 (at2 xs j).g) ∧ w.cell? ⟨b, off + j * 4 + 3, none⟩ = some (.int .i64 (at2 xs j).e) := by
  obtain ⟨b', off', e, c0, c1, c2, c3⟩ := h j hj
  simp only [Option.some.injEq, Addr.mk.injEq, and_true] at e
  obtain ⟨rfl, rfl⟩ := e
  exact ⟨c0, c1, c2, c3⟩
/-- Shares of any address appended; nil too. -/
theorem wpList_appShN {ops : Array Oper} {rest : List Oper} {o : Oper} {a : Act} {w : World} {Q : Exit → Act → World → Prop} (hgd : o.guard = none) (s x : Operand)
    (ho : o.op = .call { callee := .builtin .append, args := #[s, x], argTypes := #[22, 22] })
    (base : Nat) (A : Option Addr) (n c : Nat) (xs : List Sh) (hs : a.eval s = .slice A n c) (hown : OwnSh w base A n c xs)
    (A2 : Option Addr) (m c2 : Nat) (ys : List Sh) (hx : a.eval x = .slice A2 m c2) (hm : ys.length = m) (hnil : A2 = none → c2 = 0) (hnews : SharesAt w A2 ys) (hlen : xs.length + m ≤ 100000) (hbase : base ≤ w.heap.size)
    (hk : ∀ A' c' w', OwnSh w' base A' (n + m) c' (xs ++ ys) → Below base w w' → wpList Tryz.prog ops Q rest (a.put o.dst (.slice A' (n + m) c')) w') : wpList Tryz.prog ops Q (o :: rest) a w := by
  obtain ⟨i0, hi, hz0, hz1, hz2⟩ := info_parts info60
  obtain ⟨hown, rfl⟩ := hown
  have late : ∀ v' w', w'.ownsRow base 35 4 v' (xs.length + m) (flat4 xs ++ flat4 ys) → w.grownBy w' (Value.ownBlock (.slice A xs.length c)) → wpList Tryz.prog ops Q rest (a.put o.dst v') w' := by
    intro v' w' h2 h3
    have hb : Below base w w' := (Below.refl base w).grown h3 hbase (fun k hk => (World.ownsRow.lt hown k hk).1)
    rw [← hm, ← flat4_append, ← List.length_append] at h2
    obtain ⟨A', c', rfl⟩ : ∃ A' c', v' = .slice A' (xs.length + m) c' := by
      rcases h2.2 with ⟨rfl, h5⟩ | ⟨g', cap', cur, rfl, _⟩
      · exact ⟨none, 0, by rw [List.length_append] at h5; rw [← hm, h5]⟩
      · exact ⟨_, _, by rw [List.length_append, hm]⟩
    exact hk A' c' w' ⟨h2, by rw [List.length_append, hm]⟩ hb
  cases A2 with
  | none =>
    obtain rfl : ys = [] := by
      cases ys with
      | nil => rfl
      | cons y ys => obtain ⟨_, _, e, _⟩ := hnews 0 (by simp); cases e
    obtain rfl : m = 0 := hm.symm
    obtain rfl := hnil rfl
    refine wpList_append_own_none hgd s x 22 ho base 35 i0 4 Tryz.underlying22 hi _ xs.length (flat4 xs) hs hown hx ?_
    exact late _ w (by simpa [flat4] using hown) ⟨rfl, rfl, rfl, Nat.le_refl _, fun _ _ _ => rfl⟩
  | some ad =>
    have hin : ShIn w ad ys := by
      cases ys with
      | nil => intro j u hu; simp [flat4] at hu
      | cons y ys =>
        obtain ⟨b, off, e, _⟩ := hnews 0 (by simp)
        simp only [Option.some.injEq] at e
        subst e
        exact hnews.inn
    refine wpList_append_own_at _ hgd s x 22 ho base 35 i0 (.agg #[.string ⟨#[]⟩, .string ⟨#[]⟩, .int .i64 0, .int .i64 0]) 4 48 Tryz.underlying22 hi hz0 hz1 hz2 rfl (by decide) _ xs.length (flat4 xs) hs hown ad m c2 (flat4 ys) hx (by rw [flat4_len, hm]) hin (flat4_one ys) (by unfold maxLen; omega) (by omega) hbase ?_
    intro v' w' h2 h3 _ _
    exact late v' w' h2 h3

set_option maxRecDepth 100000 in
set_option maxHeartbeats 4000000 in
theorem lentRows_w (A : Option Addr) (n c : Nat) (zs : List Sh) (hn : zs.length = n) (hn6 : n ≤ 10000) (w : World) (hI : SharesAt w A zs) (hA0 : A = none → c = 0) : Calls Tryz.prog 48 #[.slice A n c] w (LentShP w zs) := by
  have H := Lib.hid hI
  have HA0 := Lib.hid hA0
  have HN := Lib.hid hn
  clear hI hn hA0
  obtain ⟨i0, hi, hz0, hz1, hz2⟩ := info_parts info60
  have HI := Lib.hid hi
  have HZ0 := Lib.hid hz0
  have HZ1 := Lib.hid hz1
  have HZ2 := Lib.hid hz2
  clear hi hz0 hz1 hz2
  go_enter Tryz.func48, Tryz.ntmps48
  go_wp2_with (first
    | (at_make; go_must (refine wpList_make_own _ rfl _ _ 22 rfl w.heap.size 35 i0 (.agg #[.string ⟨#[]⟩, .string ⟨#[]⟩, .int .i64 0, .int .i64 0]) 4 Tryz.underlying22 HI.out HZ0.out HZ1.out .i64 .i64 _ (n + 12) rfl rfl (by first | rfl | simp | (push_cast; omega)) (by rw [HZ2.out]; omega) (by unfold maxLen; omega) (Nat.le_refl _) ?_; intro w0 hown0 hgrow0; have HOW0 : Hid (OwnSh w0 w.heap.size (some ⟨w.heap.size, 0, none⟩) 0 (n + 12) []) := Lib.hid ⟨hown0, rfl⟩; have HB0 : Hid (Ok w w0) := Lib.hid ((Below.refl _ _).grown hgrow0 (Nat.le_refl _) (fun k hk => by cases hk)); clear hown0 hgrow0))
    | (at_builtin; go_must (refine wpList_appShN rfl (.tmp 9) (.tmp 10) rfl w.heap.size _ _ _ [] rfl HOW0.out A n c zs rfl HN.out HA0.out (H.out.ok HB0.out) (by simp; omega) HB0.out.size ?_; intro A1 c1 w1 hown1 hbel1; simp only [List.nil_append, Nat.zero_add] at hown1 ⊢; have HOW1 := Lib.hid hown1; have HB1 : Hid (Ok w w1) := Lib.hid (Below.trans HB0.out hbel1); clear hown1 hbel1)))
  go_loopw [3, 4] (fun o i wr => ∃ (j : Nat) (A2 : Option Addr) (n2 c2 : Nat), j ≤ 12 ∧ i = .int .i64 j ∧ o = .slice A2 n2 c2 ∧ OwnSh wr w.heap.size A2 n2 c2 (zs ++ marksSh j) ∧ Ok w wr) (fun _ i _ => 12 - (intOf i).toNat)
  case atStart => exact ⟨0, A1, _, c1, by omega, rfl, rfl, by simpa [marksSh] using HOW1.out, HB1.out⟩
  case round =>
    obtain ⟨j, A2, n2, c2, hj, rfl, rfl, hown, hok⟩ := hrel
    have HOW := Lib.hid hown
    have HOK := Lib.hid hok
    clear hown hok HOW1 HB1 HOW0 HB0
    by_cases hlt : j < 12
    · have HMS := Lib.hid (marksSh_succ j)
      have HL : Hid ((zs ++ marksSh j).length + 1 ≤ 100000) := Lib.hid (by rw [List.length_append, marksSh_len, HN.out]; omega)
      have hd : decide ((j : Int) < 12) = true := decide_eq_true (by omega)
      have hmk := fun w' => markSh_w j (by omega) w'
      unfold shV at hmk
      obtain ⟨⟨⟨ylo, yhi⟩, yg, ye⟩, hy⟩ : ∃ y, markSh j = y := ⟨_, rfl⟩
      rw [hy] at hmk HMS
      simp only at hmk
      clear hy
      go_wp2_with fail
      refine (hmk _).mono ?_
      rintro e w2 ⟨rfl, o2⟩
      have HNEW := Lib.hid (one_sh2 w2 ⟨⟨ylo, yhi⟩, yg, ye⟩)
      have HOWA : Hid (OwnSh (w2.alloc (.cells #[.string ylo, .string yhi, .int .i64 yg, .int .i64 ye] 35)) w.heap.size A2 n2 c2 (zs ++ marksSh j)) := Lib.hid ((HOW.out.ok o2).alloc _)
      have HOK2 := Lib.hid (Ok.call HOK.out o2)
      clear o2
      go_wp2_with (at_builtin; go_must (refine wpList_appShN rfl (.tmp 16) (.tmp 19) rfl w.heap.size _ _ _ (zs ++ marksSh j) rfl HOWA.out (some ⟨w2.heap.size, 0, none⟩) 1 1 [⟨⟨ylo, yhi⟩, yg, ye⟩] rfl rfl (fun e => by cases e) HNEW.out HL.out (Nat.le_trans HOK2.out.size (by simp)) ?_; intro A3 c3 w3 hown3 hbel3; have HOW3 := Lib.hid hown3; have HB3 : Hid (Ok w w3) := Lib.hid (Below.trans (Ok.alloc HOK2.out _) hbel3); clear hown3 hbel3))
      go_roundw
      case rel => exact ⟨j + 1, A3, _, c3, by omega, by go_num, rfl, by rw [HMS.out, ← List.append_assoc]; exact HOW3.out, HB3.out⟩
      case measure => simp [intOf]; omega
    · have hje : j = 12 := by omega
      subst hje
      have hl : (zs ++ marksSh 12).length = n + 12 := by rw [List.length_append, marksSh_len, HN.out]
      obtain ⟨g, rfl, hcap, hg⟩ := HOW.out.form (by rw [hl]; omega)
      have hat := HOW.out.at
      have hn2 : n2 = n + 12 := by rw [HOW.out.2, hl]
      subst hn2
      rw [hl] at hcap
      have HCL := Lib.hid hat
      have HG := Lib.hid (And.intro hg (World.ownsRow.lt HOW.out.1 g rfl).2)
      have hi1 : (n : Int) ≤ (c2 : Int) := by omega
      have hn0 : (0 : Int) ≤ (n : Int) := by omega
      have HFIN : Hid (∀ e, e = .returned (.slice (some ⟨g, 0, none⟩) n c2) → LentShP w zs e wr) := Lib.hid fun e he => ⟨g, c2, by rw [HN.out]; exact he, by rw [HN.out]; exact hcap, HG.out.1, HG.out.2, HOK.out, HCL.out⟩
      clear hl hat hg hcap HOW
      go_wp2_with fail
      go_ret
      exact HFIN.out _ rfl
end Go.Proofs.YtdabdkedgigjdaaGreat
namespace Go.Proofs.YtdabdkedgigjdaaGreat
open Go.RowKit

set_option maxRecDepth 100000 in
set_option maxHeartbeats 4000000 in
theorem keptRows_w (g cap : Nat) (A : Option Addr) (n c : Nat) (zs : List Sh) (hn : zs.length = n) (hn6 : n ≤ 10000) (w : World) (hcap : n + 12 ≤ cap)
    (hG : SharesAt w (some ⟨g, 0, none⟩) (zs ++ marksSh 12)) (hI : SharesAt w A zs) :
    Calls Tryz.prog 75 #[.slice (some ⟨g, 0, none⟩) n cap, .slice A n c] w (Ret w (.bool true)) := by
  have HG := Lib.hid hG
  have HI := Lib.hid hI
  have HN := Lib.hid hn
  have HL : Hid ((zs ++ marksSh 12).length = n + 12) := Lib.hid (by rw [List.length_append, marksSh_len, hn])
  clear hG hI hn
  have s1 : wrap64 ((n : Int) + 12) = (n : Int) + 12 := by simp only [wrap64]; omega
  have s3 : (0 : Int) ≤ (n : Int) + 12 := by omega
  have s4 : (n : Int) + 12 ≤ (cap : Int) := by omega
  have s5 : ((n : Int) + 12).toNat = n + 12 := by omega
  go_enter Tryz.func75, Tryz.ntmps75
  go_wp2_with fail
  go_loopw [6] (fun i wr => ∃ k : Nat, k ≤ n + 12 ∧ i = .int .i64 k ∧ Ok w wr) (fun i _ => n + 12 - (intOf i).toNat)
  case atStart => exact ⟨0, Nat.zero_le _, rfl, Ok.refl _⟩
  case round =>
    obtain ⟨k, hk, rfl, okr⟩ := hrel
    have HOKR := Lib.hid okr
    clear okr
    by_cases hlt : k < n + 12
    · have d1 : decide ((k : Int) < (n : Int) + 12) = true := decide_eq_true (by omega)
      obtain ⟨C0, C1, C2, C3⟩ := (HG.out.ok HOKR.out).nth k (by rw [HL.out]; exact hlt)
      rw [Nat.zero_add] at C0 C1 C2 C3
      have hi0 : (0 : Int) ≤ (k : Int) := Int.natCast_nonneg _
      have hi1 : (k : Int) < (n : Int) + 12 := by omega
      by_cases h2 : k < n
      · have d2 : decide ((k : Int) < (n : Int)) = true := decide_eq_true (by omega)
        have d3 : decide (n ≤ k) = false := decide_eq_false (by omega)
        obtain ⟨b, off, rfl, D0, D1, D2, D3⟩ := HI.out.ok HOKR.out k (by rw [HN.out]; exact h2)
        rw [lentSh_at0 zs k (by rw [HN.out]; exact h2)] at C0 C1 C2 C3
        generalize (at2 zs k).sp.lo = tl at C0 D0
        generalize (at2 zs k).sp.hi = th at C1 D1
        generalize (at2 zs k).g = tg at C2 D2
        generalize (at2 zs k).e = te at C3 D3
        have hi2 : (k : Int) < (n : Int) := by omega
        have kC0 := cell_regrown C0
        have kC1 := cell_regrown C1
        have kC2 := cell_regrown C2
        have kC3 := cell_regrown C3
        have kD0 := cell_regrown D0
        have kD1 := cell_regrown D1
        have kD2 := cell_regrown D2
        have kD3 := cell_regrown D3
        go_wp2_with fail
        refine wp_region_quiet_below (by kernel_rfl) (by kernel_rfl) ?_
        refine HeldU.out ?_
        repeat (
          refine hqU_step (fun K hK => ?_)
          go_simp
          (refine hK _ ?_; clear hK K))
        refine HeldU.mk (wpQuiet_nil ?_)
        intro _ hw'
        obtain ⟨⟨dq, osq⟩, hw''⟩ := hw'
        subst hw''
        go_wp2
        refine ⟨⟨k + 1, hlt, rfl, Ok.call HOKR.out (below_regrown wr dq osq)⟩, ?_⟩
        show n + 12 - ((k : Int) + 1).toNat < n + 12 - (k : Int).toNat
        omega
      · obtain ⟨j, hj⟩ : ∃ j, k = n + j := ⟨k - n, by omega⟩
        have hj12 : j < 12 := by omega
        have d2 : decide ((k : Int) < (n : Int)) = false := decide_eq_false (by omega)
        have d3 : decide (n ≤ k) = true := decide_eq_true (by omega)
        have s2 : wrap64 ((k : Int) - (n : Int)) = (j : Int) := by simp only [wrap64]; omega
        have s6 : IntKind.i64.wrap ((k : Int) - (n : Int)) = (j : Int) := by simp only [IntKind.wrap_i64]; omega
        have e0 : at2 (zs ++ marksSh 12) k = markSh j := by rw [hj, ← HN.out]; exact lentSh_at1 zs j hj12
        rw [e0] at C0 C1 C2 C3
        have hm := fun w' => markSh_w j (by omega) w'
        unfold shV at hm
        obtain ⟨⟨⟨yl, yh⟩, yg, ye⟩, hy⟩ : ∃ y, markSh j = y := ⟨_, rfl⟩
        rw [hy] at hm C0 C1 C2 C3
        simp only at hm C0 C1 C2 C3
        clear e0 hj hy
        have kC0 := cell_regrown C0
        have kC1 := cell_regrown C1
        have kC2 := cell_regrown C2
        have kC3 := cell_regrown C3
        have q1 : ∀ d os, Calls Tryz.prog 95 #[.int .i64 1, .int .i64 (j : Int)] (Go.Sort.grow (redrawn wr d) os) fun e w'' => e = .returned (.agg #[.string yl, .string yh, .int .i64 yg, .int .i64 ye]) ∧ ∃ p : Regrown, w'' = Go.Sort.grow (redrawn wr p.d) p.os := fun d os => Calls.regrown_of (hm _)
        go_wp2_with fail
        refine wp_region_quiet_below (by kernel_rfl) (by kernel_rfl) ?_
        refine HeldU.out ?_
        repeat (
          refine hqU_step (fun K hK => ?_)
          go_simp
          first
            | (refine hK _ ?_; clear hK K)
            | (apply Exists.intro
               refine ⟨fun _ => ?_, hK _ ?_⟩
               (with_reducible exact q1 _ _)
               clear hK K))
        refine HeldU.mk (wpQuiet_nil ?_)
        intro _ hw'
        obtain ⟨⟨dq, osq⟩, hw''⟩ := hw'
        subst hw''
        go_wp2
        refine ⟨⟨k + 1, hlt, rfl, Ok.call HOKR.out (below_regrown wr dq osq)⟩, ?_⟩
        show n + 12 - ((k : Int) + 1).toNat < n + 12 - (k : Int).toNat
        omega
    · have d1 : decide ((k : Int) < (n : Int) + 12) = false := decide_eq_false (by omega)
      go_wp2
      go_ret
      exact ⟨rfl, HOKR.out⟩
end Go.Proofs.YtdabdkedgigjdaaGreat
namespace Go.Proofs.YtdabdkedgigjdaaGreat
open Go.RowKit

theorem SharesAt.set {w : World} {A : Option Addr} {xs : List Sh} (h : SharesAt w A xs) {p : Nat} (hp : ∀ b off, A = some ⟨b, off, none⟩ → b ≠ p) (o : Nat) (v : Value) : SharesAt (w.setCell ⟨p, o, none⟩ v) A xs := fun j hj => by
  obtain ⟨b, off, e, c0, c1, c2, c3⟩ := h j hj
  have hb := hp b off e
  have key : ∀ q, (w.setCell ⟨p, o, none⟩ v).cell? ⟨b, q, none⟩ = w.cell? ⟨b, q, none⟩ := fun q => World.cell?_setCell_other _ _ _ _ (fun h => by cases h; exact hb rfl)
  exact ⟨b, off, e, (key _).trans c0, (key _).trans c1, (key _).trans c2, (key _).trans c3⟩
theorem SharesAt.put2 {w : World} {A : Option Addr} {xs : List Sh} (h : SharesAt w A xs) {p : Nat} (hp : ∀ b off, A = some ⟨b, off, none⟩ → b ≠ p) (a b : Value) : SharesAt (YtdabdkedgigjdaaGreat.put2 w p a b) A xs := (h.set hp 0 a).set hp 1 b
theorem cell_stays {w : World} {p q : Addr} {x y : Value} (h : w.cell? q = some y) : ∃ z, (w.setCell p x).cell? q = some z := by
  by_cases e : q = p
  · subst e; exact ⟨_, World.cell?_setCell_same _ _ _ h⟩
  · exact ⟨_, (World.cell?_setCell_other _ _ _ _ (fun h' => e (by rw [h']))).trans h⟩
/-- A block of cells that may be written: as many, none frozen. -/
def RowB (w : World) (g c : Nat) : Prop := (∀ j, j < c → ∃ x, w.cell? ⟨g, j, none⟩ = some x) ∧ ∀ j, j < c → w.frozen? ⟨g, j, none⟩ = false
theorem RowB.set {w : World} {g c : Nat} (h : RowB w g c) (p : Addr) (x : Value) : RowB (w.setCell p x) g c :=
  ⟨fun j hj => by obtain ⟨y, hy⟩ := h.1 j hj; exact cell_stays hy, fun j hj => by rw [World.frozen?_setCell]; exact h.2 j hj⟩
theorem RowB.ok {w w' : World} {g c : Nat} (h : RowB w g c) (k : Ok w w') : RowB w' g c :=
  ⟨fun j hj => by obtain ⟨y, hy⟩ := h.1 j hj; exact ⟨y, Ok.cell k hy⟩, fun j hj => by
    obtain ⟨y, hy⟩ := h.1 j hj
    rw [Below.frozen k (p := ⟨g, j, none⟩) (World.block_lt_of_cell? _ _ hy)]; exact h.2 j hj⟩
/-- A row of shares that may be written over, from block B on. -/
def RowV (w : World) (B : Nat) (A : Option Addr) (n c : Nat) : Prop := (A = none ∧ n = 0 ∧ c = 0) ∨ ∃ g, A = some ⟨g, 0, none⟩ ∧ B ≤ g ∧ n ≤ c ∧ n ≤ 90000 ∧ c ≤ 9223372036854775807 ∧ RowB w g (c * 4)
theorem RowV.ok {w w' : World} {B : Nat} {A : Option Addr} {n c : Nat} (h : RowV w B A n c) (k : Ok w w') : RowV w' B A n c := by
  rcases h with h | ⟨g, h1, h2, h3, h4, h5, h6⟩
  · exact .inl h
  · exact .inr ⟨g, h1, h2, h3, h4, h5, h6.ok k⟩
theorem OwnSh.row {w : World} {B : Nat} {A : Option Addr} {n c : Nat} {xs : List Sh} (h : OwnSh w B A n c xs) (hl : n ≤ 90000) : RowV w B A n c := by
  obtain ⟨h1, rfl⟩ := h
  rcases h1.2 with ⟨e, h5⟩ | ⟨g, cap, cur, e, hB, hg, h1, h2, h3, h4⟩
  · simp only [Value.slice.injEq] at e
    exact .inl ⟨e.1, h5, e.2.2⟩
  · simp only [Value.slice.injEq] at e
    obtain ⟨rfl, -, rfl⟩ := e
    refine .inr ⟨g, rfl, hB, h1, by omega, by unfold maxLen at h2; omega, fun j hj => ?_, fun j _ => ?_⟩
    · rw [cell_of_row _ _ _ _ _ _ hg]; exact ⟨cur[j]'(by omega), by simp⟩
    · rw [World.frozen?, hg]; simp
def OverP (B : Nat) (w : World) (e : Ending) (w' : World) : Prop := e = .returned (.tuple #[]) ∧ Below B w w'

set_option maxRecDepth 100000 in
set_option maxHeartbeats 4000000 in
theorem overRows_w (A : Option Addr) (n c : Nat) (B : Nat) (w : World) (h : RowV w B A n c) : Calls Tryz.prog 74 #[.slice A n c] w (OverP B w) := by
  rcases h with ⟨rfl, rfl, rfl⟩ | ⟨g, rfl, hB, hnc, hn, hcm, hR⟩
  · go_enter Tryz.func74, Tryz.ntmps74
    go_wp2_with fail
    go_loopw [3] (fun i wr => i = .int .i64 0 ∧ wr = w) (fun _ _ => 0)
    case atStart => exact ⟨rfl, rfl⟩
    case round =>
      obtain ⟨rfl, rfl⟩ := hrel
      go_wp2_with fail
      go_end0
      exact ⟨rfl, Below.refl _ _⟩
  · have HR := Lib.hid hR
    clear hR
    have s1 : wrap64 ((n : Int) + 12) = (n : Int) + 12 := by simp only [wrap64]; omega
    obtain ⟨k, hk, hkc, hkm⟩ : ∃ k : Nat, min (c : Int) ((n : Int) + 12) = (k : Int) ∧ k ≤ c ∧ k ≤ 90012 := ⟨min c (n + 12), by omega, by omega, by omega⟩
    have HK := Lib.hid hk
    by_cases hcn : (n : Int) + 12 < (c : Int)
    · obtain rfl : k = n + 12 := by omega
      clear hk
      have hk : (n : Int) + 12 = ((n + 12 : Nat) : Int) := by omega
      rw [hk] at hcn s1
      generalize n + 12 = k at *
      have d1 : decide ((k : Int) < (c : Int)) = true := decide_eq_true hcn
      have d2 : decide (k < c) = true := decide_eq_true (by omega)
      have hk0 : (0 : Int) ≤ (k : Int) := Int.natCast_nonneg _
      have hki : (k : Int) ≤ (c : Int) := by omega
      go_enter Tryz.func74, Tryz.ntmps74
      go_wp2_with fail
      go_loopw [3] (fun i wr => ∃ j : Nat, j ≤ k ∧ i = .int .i64 j ∧ Below B w wr ∧ RowB wr g (c * 4)) (fun i _ => k - (intOf i).toNat)
      case atStart => exact ⟨0, Nat.zero_le _, rfl, Below.refl _ _, HR.out⟩
      case round =>
        obtain ⟨j, hj, rfl, hbel, hst⟩ := hrel
        have HBL := Lib.hid hbel
        have HST := Lib.hid hst
        clear hbel hst
        by_cases hlt : j < k
        · obtain ⟨hcs, hfs⟩ := HST.out
          obtain ⟨x0, hx0⟩ := hcs (j * 4) (by omega)
          obtain ⟨x1, hx1⟩ := hcs (j * 4 + 1) (by omega)
          obtain ⟨x2, hx2⟩ := hcs (j * 4 + 2) (by omega)
          obtain ⟨x3, hx3⟩ := hcs (j * 4 + 3) (by omega)
          have hf0 := hfs (j * 4) (by omega)
          have hf1 := hfs (j * 4 + 1) (by omega)
          have hf2 := hfs (j * 4 + 2) (by omega)
          have hf3 := hfs (j * 4 + 3) (by omega)
          have hblk : g < wr.heap.size := World.block_lt_of_cell? _ _ hx0
          clear hcs hfs
          have hj0 : (0 : Int) ≤ (j : Int) := Int.natCast_nonneg _
          have hj1 : (j : Int) < (k : Int) := by omega
          have hjc : (j : Int) < (c : Int) := by omega
          have hmk := fun w' => markSh2_w j (by omega) w'
          unfold shV at hmk
          obtain ⟨⟨⟨yl, yh⟩, yg, ye⟩, hy⟩ : ∃ y, markSh2 j = y := ⟨_, rfl⟩
          rw [hy] at hmk
          simp only at hmk
          clear hy
          have HMK := Lib.hid hmk
          have HFIN : Hid (∀ w2, Ok wr w2 → ∀ y0 y1 y2 y3, Below B w ((((w2.setCell ⟨g, j * 4, none⟩ y0).setCell ⟨g, j * 4 + 1, none⟩ y1).setCell ⟨g, j * 4 + 2, none⟩ y2).setCell ⟨g, j * 4 + 3, none⟩ y3) ∧ RowB ((((w2.setCell ⟨g, j * 4, none⟩ y0).setCell ⟨g, j * 4 + 1, none⟩ y1).setCell ⟨g, j * 4 + 2, none⟩ y2).setCell ⟨g, j * 4 + 3, none⟩ y3) g (c * 4)) := Lib.hid fun w2 k2 y0 y1 y2 y3 =>
            ⟨Below.setCell (Below.setCell (Below.setCell (Below.setCell (Below.trans HBL.out (k2.mono (by omega))) hB _) hB _) hB _) hB _, ((((HST.out.ok k2).set _ _).set _ _).set _ _).set _ _⟩
          clear hmk
          go_wp2_with fail
          (with_reducible refine (HMK.out _).mono ?_)
          rintro e w2 ⟨rfl, o2⟩
          replace hx0 := Ok.cell o2 hx0
          replace hx1 := Ok.cell o2 hx1
          replace hx2 := Ok.cell o2 hx2
          replace hx3 := Ok.cell o2 hx3
          replace hf0 := (Below.frozen o2 (p := ⟨g, j * 4, none⟩) hblk).trans hf0
          replace hf1 := (Below.frozen o2 (p := ⟨g, j * 4 + 1, none⟩) hblk).trans hf1
          replace hf2 := (Below.frozen o2 (p := ⟨g, j * 4 + 2, none⟩) hblk).trans hf2
          replace hf3 := (Below.frozen o2 (p := ⟨g, j * 4 + 3, none⟩) hblk).trans hf3
          have HF2 := Lib.hid (fun y0 y1 y2 y3 => HFIN.out w2 o2 y0 y1 y2 y3)
          clear o2 HFIN
          go_wp2_with fail
          go_roundw
          case rel => exact ⟨j + 1, by omega, by go_num, (HF2.out _ _ _ _).1, (HF2.out _ _ _ _).2⟩
          case measure => simp [intOf]; omega
        · have hje : j = k := by omega
          subst hje
          go_wp2_with fail
          go_end0
          exact ⟨rfl, HBL.out⟩
    · obtain rfl : k = c := by omega
      clear hk
      have d1 : decide ((n : Int) + 12 < (k : Int)) = false := decide_eq_false hcn
      have hc0 : (0 : Int) ≤ (k : Int) := Int.natCast_nonneg _
      go_enter Tryz.func74, Tryz.ntmps74
      go_wp2_with fail
      go_loopw [3] (fun i wr => ∃ j : Nat, j ≤ k ∧ i = .int .i64 j ∧ Below B w wr ∧ RowB wr g (k * 4)) (fun i _ => k - (intOf i).toNat)
      case atStart => exact ⟨0, Nat.zero_le _, rfl, Below.refl _ _, HR.out⟩
      case round =>
        obtain ⟨j, hj, rfl, hbel, hst⟩ := hrel
        have HBL := Lib.hid hbel
        have HST := Lib.hid hst
        clear hbel hst
        by_cases hlt : j < k
        · obtain ⟨hcs, hfs⟩ := HST.out
          obtain ⟨x0, hx0⟩ := hcs (j * 4) (by omega)
          obtain ⟨x1, hx1⟩ := hcs (j * 4 + 1) (by omega)
          obtain ⟨x2, hx2⟩ := hcs (j * 4 + 2) (by omega)
          obtain ⟨x3, hx3⟩ := hcs (j * 4 + 3) (by omega)
          have hf0 := hfs (j * 4) (by omega)
          have hf1 := hfs (j * 4 + 1) (by omega)
          have hf2 := hfs (j * 4 + 2) (by omega)
          have hf3 := hfs (j * 4 + 3) (by omega)
          have hblk : g < wr.heap.size := World.block_lt_of_cell? _ _ hx0
          clear hcs hfs
          have hj0 : (0 : Int) ≤ (j : Int) := Int.natCast_nonneg _
          have hj1 : (j : Int) < (k : Int) := by omega
          have hmk := fun w' => markSh2_w j (by omega) w'
          unfold shV at hmk
          obtain ⟨⟨⟨yl, yh⟩, yg, ye⟩, hy⟩ : ∃ y, markSh2 j = y := ⟨_, rfl⟩
          rw [hy] at hmk
          simp only at hmk
          clear hy
          have HMK := Lib.hid hmk
          have HFIN : Hid (∀ w2, Ok wr w2 → ∀ y0 y1 y2 y3, Below B w ((((w2.setCell ⟨g, j * 4, none⟩ y0).setCell ⟨g, j * 4 + 1, none⟩ y1).setCell ⟨g, j * 4 + 2, none⟩ y2).setCell ⟨g, j * 4 + 3, none⟩ y3) ∧ RowB ((((w2.setCell ⟨g, j * 4, none⟩ y0).setCell ⟨g, j * 4 + 1, none⟩ y1).setCell ⟨g, j * 4 + 2, none⟩ y2).setCell ⟨g, j * 4 + 3, none⟩ y3) g (k * 4)) := Lib.hid fun w2 k2 y0 y1 y2 y3 =>
            ⟨Below.setCell (Below.setCell (Below.setCell (Below.setCell (Below.trans HBL.out (k2.mono (by omega))) hB _) hB _) hB _) hB _, ((((HST.out.ok k2).set _ _).set _ _).set _ _).set _ _⟩
          clear hmk
          go_wp2_with fail
          (with_reducible refine (HMK.out _).mono ?_)
          rintro e w2 ⟨rfl, o2⟩
          replace hx0 := Ok.cell o2 hx0
          replace hx1 := Ok.cell o2 hx1
          replace hx2 := Ok.cell o2 hx2
          replace hx3 := Ok.cell o2 hx3
          replace hf0 := (Below.frozen o2 (p := ⟨g, j * 4, none⟩) hblk).trans hf0
          replace hf1 := (Below.frozen o2 (p := ⟨g, j * 4 + 1, none⟩) hblk).trans hf1
          replace hf2 := (Below.frozen o2 (p := ⟨g, j * 4 + 2, none⟩) hblk).trans hf2
          replace hf3 := (Below.frozen o2 (p := ⟨g, j * 4 + 3, none⟩) hblk).trans hf3
          have HF2 := Lib.hid (fun y0 y1 y2 y3 => HFIN.out w2 o2 y0 y1 y2 y3)
          clear o2 HFIN
          go_wp2_with fail
          go_roundw
          case rel => exact ⟨j + 1, by omega, by go_num, (HF2.out _ _ _ _).1, (HF2.out _ _ _ _).2⟩
          case measure => simp [intOf]; omega
        · have hje : j = k := by omega
          subst hje
          go_wp2_with fail
          go_end0
          exact ⟨rfl, HBL.out⟩

/-- What LentShares leaves. -/
def LentP (w : World) (ep : Int) (zs : List Sh) : Ending → World → Prop := fun e w' => ∃ g cap, e = .returned (.agg #[.int .i64 ep, .slice (some ⟨g, 0, none⟩) zs.length cap]) ∧ zs.length + 12 ≤ cap ∧ w.heap.size ≤ g ∧ g < w'.heap.size ∧ Ok w w' ∧ SharesAt w' (some ⟨g, 0, none⟩) (zs ++ marksSh 12)
set_option maxRecDepth 100000 in
set_option maxHeartbeats 2000000 in
theorem lentShares_w (ep : Int) (A : Option Addr) (n c : Nat) (zs : List Sh) (hn : zs.length = n) (hn6 : n ≤ 10000) (w : World) (hI : SharesAt w A zs) (hA0 : A = none → c = 0) :
    Calls Tryz.prog 10 #[.agg #[.int .i64 ep, .slice A n c]] w (LentP w ep zs) := by
  have HR := Lib.hid (fun w' (k : Ok w w') => lentRows_w A n c zs hn hn6 w' (hI.ok k) hA0)
  have HN := Lib.hid hn
  clear hI hA0 hn
  obtain ⟨p, hp⟩ : ∃ p, w.heap.size = p := ⟨_, rfl⟩
  go_enter Tryz.func10, Tryz.ntmps10
  go_wp2_with fail
  generalize hW : (w.alloc (.cells #[.int .i64 ep, .slice A n c] 24)).alloc (.cells #[.int .i64 0, .slice none 0 0] 24) = W
  have S0 : W.cell? ⟨p, 0, none⟩ = some (.int .i64 ep) := by subst hW; subst hp; go_cell
  have S1 : W.cell? ⟨p, 1, none⟩ = some (.slice A n c) := by subst hW; subst hp; go_cell
  have T0 : W.cell? ⟨p + 1, 0, none⟩ = some (.int .i64 0) := by subst hW; subst hp; go_cell
  have T1 : W.cell? ⟨p + 1, 1, none⟩ = some (.slice none 0 0) := by subst hW; subst hp; go_cell
  have f1 : W.frozen? ⟨p, 1, none⟩ = false := by subst hW; subst hp; go_cell
  have t0 : W.frozen? ⟨p + 1, 0, none⟩ = false := by subst hW; subst hp; go_cell
  have t1 : W.frozen? ⟨p + 1, 1, none⟩ = false := by subst hW; subst hp; go_cell
  have okW : Ok w W := by subst hW; exact Ok.alloc (Ok.alloc (Ok.refl w) _) _
  have hpz : p + 1 < W.heap.size := by subst hW; subst hp; simp
  clear hW
  (with_reducible refine (HR.out W okW).mono ?_)
  rintro _ w1 ⟨g, cap, rfl, hcap, hg, hg1, o1, hat⟩
  replace S0 := Ok.cell o1 S0
  replace S1 := Ok.cell o1 S1
  replace T0 := Ok.cell o1 T0
  replace T1 := Ok.cell o1 T1
  replace f1 := (Below.frozen o1 (p := ⟨p, 1, none⟩) (by show p < _; omega)).trans f1
  replace t0 := (Below.frozen o1 (p := ⟨p + 1, 0, none⟩) hpz).trans t0
  replace t1 := (Below.frozen o1 (p := ⟨p + 1, 1, none⟩) hpz).trans t1
  have n1 : p ≠ p + 1 := by omega
  have n2 : p + 1 ≠ p := by omega
  have hgp : g ≠ p := by omega
  have hgq : g ≠ p + 1 := by omega
  have T' := two_put2 (p := p + 1) (a := .int .i64 ep) (b := .slice (some ⟨g, 0, none⟩) zs.length cap) (other (p := p) (i := 1) (v := .slice (some ⟨g, 0, none⟩) zs.length cap) n2 T0) (other (p := p) (i := 1) (v := .slice (some ⟨g, 0, none⟩) zs.length cap) n2 T1)
  have okF : Ok w (put2 (w1.setCell ⟨p, 1, none⟩ (.slice (some ⟨g, 0, none⟩) zs.length cap)) (p + 1) (.int .i64 ep) (.slice (some ⟨g, 0, none⟩) zs.length cap)) := Ok.put2 (Ok.set (Ok.call okW o1) (by show _ ≤ p; omega) _) (by omega)
  have hatF : SharesAt (put2 (w1.setCell ⟨p, 1, none⟩ (.slice (some ⟨g, 0, none⟩) zs.length cap)) (p + 1) (.int .i64 ep) (.slice (some ⟨g, 0, none⟩) zs.length cap)) (some ⟨g, 0, none⟩) (zs ++ marksSh 12) := by
    have k1 : ∀ q, q ≠ g → ∀ (b off : Nat), (some ⟨g, 0, none⟩ : Option Addr) = some ⟨b, off, none⟩ → b ≠ q := fun q hq b off e => by
      simp only [Option.some.injEq, Addr.mk.injEq] at e; omega
    exact (hat.set (k1 p (fun e => hgp e.symm)) 1 _).put2 (k1 (p + 1) (fun e => hgq e.symm)) _ _
  have hsz : g < (put2 (w1.setCell ⟨p, 1, none⟩ (.slice (some ⟨g, 0, none⟩) zs.length cap)) (p + 1) (.int .i64 ep) (.slice (some ⟨g, 0, none⟩) zs.length cap)).heap.size := by
    unfold put2; simp; exact hg1
  have HFIN : Hid (∀ e, e = .returned (.agg #[.int .i64 ep, .slice (some ⟨g, 0, none⟩) zs.length cap]) → LentP w ep zs e (put2 (w1.setCell ⟨p, 1, none⟩ (.slice (some ⟨g, 0, none⟩) zs.length cap)) (p + 1) (.int .i64 ep) (.slice (some ⟨g, 0, none⟩) zs.length cap))) := Lib.hid fun e he => ⟨g, cap, he, hcap, by have := okW.size; omega, hsz, okF, hatF⟩
  have HT := Lib.hid T'
  clear T' hcap hg hg1 o1 hat okF hatF hsz okW
  go_wp2_with fail
  (try simp only [Exit.inBlock, Exit.then])
  change bodyPost Tryz.prog _ _ Exit.ret _ (put2 (w1.setCell ⟨p, 1, none⟩ (.slice (some ⟨g, 0, none⟩) zs.length cap)) (p + 1) (.int .i64 ep) (.slice (some ⟨g, 0, none⟩) zs.length cap))
  have hT := HT.out
  generalize put2 (w1.setCell ⟨p, 1, none⟩ (.slice (some ⟨g, 0, none⟩) zs.length cap)) (p + 1) (.int .i64 ep) (.slice (some ⟨g, 0, none⟩) zs.length cap) = Z at hT HFIN ⊢
  obtain ⟨hT0, hT1⟩ := hT
  refine bodyPost_ret (by simp [results, Tryz.results10, hT0, hT1, go_sem]; try rfl) rfl ?_
  exact HFIN.out _ rfl

set_option maxRecDepth 100000 in
set_option maxHeartbeats 2000000 in
theorem keptShares_w (ep : Int) (g cap : Nat) (A : Option Addr) (n c : Nat) (zs : List Sh) (hn : zs.length = n) (hn6 : n ≤ 10000) (w : World) (hcap : n + 12 ≤ cap)
    (hG : SharesAt w (some ⟨g, 0, none⟩) (zs ++ marksSh 12)) (hI : SharesAt w A zs) :
    Calls Tryz.prog 26 #[.agg #[.int .i64 ep, .slice (some ⟨g, 0, none⟩) n cap], .agg #[.int .i64 ep, .slice A n c]] w (Ret w (.bool true)) := by
  have hG0 : SharesAt w (some ⟨g, 0, none⟩) zs := fun j hj => by
    have := hG j (by rw [List.length_append]; omega)
    rwa [lentSh_at0 zs j hj] at this
  have HS := Lib.hid (fun w' (k : Ok w w') => sameShares_w ep (some ⟨g, 0, none⟩) A n cap c zs hn (by omega) w' (hG0.ok k) (hI.ok k))
  have HK := Lib.hid (fun w' (k : Ok w w') => keptRows_w g cap A n c zs hn hn6 w' hcap (hG.ok k) (hI.ok k))
  clear hG hG0 hI
  obtain ⟨p, hp⟩ : ∃ p, w.heap.size = p := ⟨_, rfl⟩
  go_enter Tryz.func26, Tryz.ntmps26
  go_wp2_with fail
  generalize hW : (w.alloc (.cells #[.int .i64 ep, .slice (some ⟨g, 0, none⟩) n cap] 24)).alloc (.cells #[.int .i64 ep, .slice A n c] 24) = W
  have S0 : W.cell? ⟨p, 0, none⟩ = some (.int .i64 ep) := by subst hW; subst hp; go_cell
  have S1 : W.cell? ⟨p, 1, none⟩ = some (.slice (some ⟨g, 0, none⟩) n cap) := by subst hW; subst hp; go_cell
  have T0 : W.cell? ⟨p + 1, 0, none⟩ = some (.int .i64 ep) := by subst hW; subst hp; go_cell
  have T1 : W.cell? ⟨p + 1, 1, none⟩ = some (.slice A n c) := by subst hW; subst hp; go_cell
  have okW : Hid (Ok w W) := Lib.hid (by subst hW; exact Ok.alloc (Ok.alloc (Ok.refl w) _) _)
  clear hW hp
  (with_reducible refine (HS.out W okW.out).mono ?_)
  rintro _ w1 ⟨rfl, o1⟩
  replace S1 := Ok.cell o1 S1
  replace T1 := Ok.cell o1 T1
  replace okW := Lib.hid (Ok.call okW.out o1)
  clear o1 S0 T0
  go_wp2_with fail
  (with_reducible refine (HK.out w1 okW.out).mono ?_)
  rintro _ w2 ⟨rfl, o2⟩
  go_wp2
  go_ret
  exact ⟨rfl, Ok.call okW.out o2⟩

set_option maxRecDepth 100000 in
set_option maxHeartbeats 2000000 in
theorem overShares_w (ep : Int) (A : Option Addr) (n c : Nat) (B : Nat) (w : World) (hB : B ≤ w.heap.size) (h : RowV w B A n c) : Calls Tryz.prog 25 #[.agg #[.int .i64 ep, .slice A n c]] w (OverP B w) := by
  have HR := Lib.hid (fun w' (k : Ok w w') => overRows_w A n c B w' (h.ok k))
  clear h
  go_enter Tryz.func25, Tryz.ntmps25
  go_wp2_with fail
  have okW : Ok w (w.alloc (.cells #[.int .i64 ep, .slice A n c] 24)) := Ok.alloc (Ok.refl w) _
  (with_reducible refine (HR.out _ okW).mono ?_)
  rintro _ w1 ⟨rfl, o1⟩
  have HF : Hid (Below B w w1) := Lib.hid (Below.trans (Below.mono okW hB) o1)
  clear o1 okW
  go_wp2_with fail
  go_end0
  exact ⟨rfl, HF.out⟩
end Go.Proofs.YtdabdkedgigjdaaGreat
namespace Go.Proofs.YtdabdkedgigjdaaGreat
open Go.RowKit

set_option maxRecDepth 100000 in
set_option maxHeartbeats 8000000 in
theorem rof_w (kk : Str) (ep : Int) (A : Option Addr) (n c : Nat) (xs : List Sh) (hn : xs.length = n) (hn6 : n ≤ 1000) (w : World) (hI : SharesAt w A xs) :
    Calls Tryz.prog 24 #[.agg #[.int .i64 ep, .slice A n c], .string kk] w (Ret w (shareV (firstM ep xs (fun x => hasB x.sp kk)))) := by
  have HRR := Lib.hid (fun w' h => rsharesRight_w ep A n c xs hn hn6 w' h)
  have HWI := Lib.hid (fun s => rhas_w s kk)
  have HN := Lib.hid hn
  have HI := Lib.hid hI
  clear hI
  have hnone : sharesB ep xs = false → shareV (firstM ep xs (fun x => hasB x.sp kk)) = shareV none := fun h => by simp [firstM, h]
  have hlost : (∀ j, j < n → hasB (at2 xs j).sp kk = false) → shareV (firstM ep xs (fun x => hasB x.sp kk)) = shareV none := fun h => by
    unfold firstM
    split
    · rw [List.find?_eq_none.2]
      intro x hx
      obtain ⟨j, hj, rfl⟩ := List.getElem_of_mem hx
      have := h j (by omega)
      rw [at2_get xs j hj] at this
      simp [this]
    · rfl
  have hfound : ∀ k, k < n → sharesB ep xs = true → (∀ j, j < k → hasB (at2 xs j).sp kk = false) → hasB (at2 xs k).sp kk = true → shareV (firstM ep xs (fun x => hasB x.sp kk)) = shareV (some (at2 xs k)) := fun k hk hs hb hw => by
    unfold firstM
    rw [if_pos hs]
    congr 1
    rw [List.find?_eq_some_iff_getElem]
    refine ⟨hw, k, by omega, by rw [at2_get xs k (by omega)], fun j hj => ?_⟩
    have := hb j hj
    rw [at2_get xs j (by omega)] at this
    simp [this]
  obtain ⟨R, hR⟩ : ∃ R, shareV (firstM ep xs (fun x => hasB x.sp kk)) = R := ⟨_, rfl⟩
  rw [hR] at hnone hlost hfound ⊢
  have HNONE := Lib.hid hnone
  have HLOST := Lib.hid hlost
  have HFOUND := Lib.hid hfound
  clear hR hnone hlost hfound hn
  generalize sharesB ep xs = sr at HRR HNONE HFOUND
  unfold spV at HWI
  go_enter Tryz.func24, Tryz.ntmps24
  go_wp2_with fail
  generalize hW : (w.alloc (.cells #[.int .i64 ep, .slice A n c] 24)).alloc (.cells #[.string ⟨#[]⟩, .string ⟨#[]⟩, .int .i64 0, .int .i64 0] 35) = W
  have oW : Ok w W := by subst hW; exact Ok.alloc (Ok.alloc (Ok.refl w) _) _
  have E0 : W.cell? ⟨w.heap.size, 0, none⟩ = some (.int .i64 ep) := by subst hW; go_cell
  have E1 : W.cell? ⟨w.heap.size, 1, none⟩ = some (.slice A n c) := by subst hW; go_cell
  have R0 : W.cell? ⟨w.heap.size + 1, 0, none⟩ = some (.string ⟨#[]⟩) := by subst hW; go_cell
  have F0 : W.frozen? ⟨w.heap.size + 1, 0, none⟩ = false := by subst hW; go_cell
  have R1 : W.cell? ⟨w.heap.size + 1, 1, none⟩ = some (.string ⟨#[]⟩) := by subst hW; go_cell
  have F1 : W.frozen? ⟨w.heap.size + 1, 1, none⟩ = false := by subst hW; go_cell
  have R2 : W.cell? ⟨w.heap.size + 1, 2, none⟩ = some (.int .i64 0) := by subst hW; go_cell
  have F2 : W.frozen? ⟨w.heap.size + 1, 2, none⟩ = false := by subst hW; go_cell
  have R3 : W.cell? ⟨w.heap.size + 1, 3, none⟩ = some (.int .i64 0) := by subst hW; go_cell
  have F3 : W.frozen? ⟨w.heap.size + 1, 3, none⟩ = false := by subst hW; go_cell
  clear hW
  have HIW := Lib.hid (HI.out.ok oW)
  go_loopw [6] (fun l wr => ∃ k : Nat, k ≤ n ∧ l = .int .i64 k ∧ (∀ j, j < k → hasB (at2 xs j).sp kk = false) ∧ Ok W wr) (fun l _ => n - (intOf l).toNat)
  case atStart => exact ⟨0, Nat.zero_le _, rfl, fun j hj => absurd hj (Nat.not_lt_zero _), Ok.refl _⟩
  case round =>
    obtain ⟨k, hk, rfl, hall, okr⟩ := hrel
    have HALL := Lib.hid hall
    have HOKR := Lib.hid okr
    have F0 := (Below.frozen okr (World.block_lt_of_cell? _ _ R0)).trans F0
    have F1 := (Below.frozen okr (World.block_lt_of_cell? _ _ R1)).trans F1
    have F2 := (Below.frozen okr (World.block_lt_of_cell? _ _ R2)).trans F2
    have F3 := (Below.frozen okr (World.block_lt_of_cell? _ _ R3)).trans F3
    have R0 := Ok.cell okr R0
    have R1 := Ok.cell okr R1
    have R2 := Ok.cell okr R2
    have R3 := Ok.cell okr R3
    have E0 := Ok.cell okr E0
    have E1 := Ok.cell okr E1
    clear hall okr
    by_cases hlt : k < n
    · have d4 : decide ((k : Int) < (n : Int)) = true := decide_eq_true (by omega)
      go_wp2_with fail
      refine (HRR.out _ (HIW.out.ok HOKR.out)).mono ?_
      rintro _ w1 ⟨rfl, o1⟩
      have F0 := (Below.frozen o1 (World.block_lt_of_cell? _ _ R0)).trans F0
      have F1 := (Below.frozen o1 (World.block_lt_of_cell? _ _ R1)).trans F1
      have F2 := (Below.frozen o1 (World.block_lt_of_cell? _ _ R2)).trans F2
      have F3 := (Below.frozen o1 (World.block_lt_of_cell? _ _ R3)).trans F3
      have R0 := Ok.cell o1 R0
      have R1 := Ok.cell o1 R1
      have R2 := Ok.cell o1 R2
      have R3 := Ok.cell o1 R3
      have E0 := Ok.cell o1 E0
      have E1 := Ok.cell o1 E1
      have HOK1 := Lib.hid (Ok.call HOKR.out o1)
      clear o1
      cases sr with
      | false =>
        have e := Lib.hid (HNONE.out rfl)
        go_wp2
        have st := store4 w1 (w.heap.size + 1) _ _ _ _ (.string ⟨#[]⟩) (.string ⟨#[]⟩) (.int .i64 0) (.int .i64 0) R0 R1 R2 R3
        (try simp only [Exit.inBlock, Exit.then])
        refine bodyPost_ret (by simp [results, Tryz.results24, go_sem, st.1, st.2.1, st.2.2.1, st.2.2.2]; try rfl) rfl ?_
        exact ⟨by rw [e.out]; try rfl, Ok.set4 (Ok.call oW HOK1.out) (by omega) _ _ _ _⟩
      | true =>
        obtain ⟨b, off, rfl, C0, C1, C2, C3⟩ := HIW.out.ok HOK1.out k (by rw [HN.out]; exact hlt)
        have HFO := Lib.hid (HFOUND.out k hlt rfl HALL.out)
        have HAN : Hid (hasB (at2 xs k).sp kk = false → ∀ j, j < k + 1 → hasB (at2 xs j).sp kk = false) := Lib.hid fun h j hj => by
          by_cases hjk : j = k
          · rw [hjk]; exact h
          · exact HALL.out j (by omega)
        generalize at2 xs k = x at C0 C1 C2 C3 HFO HAN
        obtain ⟨⟨xl, xh⟩, xg, xe⟩ := x
        simp only at C0 C1 C2 C3 HFO HAN
        have hi0 : (0 : Int) ≤ (k : Int) := Int.natCast_nonneg _
        have hi1 : (k : Int) < (n : Int) := by omega
        have hwi := HWI.out ⟨xl, xh⟩
        simp only at hwi
        go_wp2_with fail
        have kE1 := cell_regrown E1
        have kC0 := cell_regrown C0
        have kC1 := cell_regrown C1
        cases h5 : hasB ⟨xl, xh⟩ kk with
        | false =>
          rw [h5] at hwi
          have HAN2 := Lib.hid (HAN.out h5)
          refine (hwi w1).mono ?_
          rintro _ w2 ⟨rfl, oq⟩
          go_wp2
          refine ⟨⟨k + 1, hlt, rfl, HAN2.out, Ok.call HOK1.out oq⟩, ?_⟩
          show n - ((k : Int) + 1).toNat < n - (k : Int).toNat
          omega
        | true =>
          rw [h5] at hwi
          have e := Lib.hid (HFO.out h5)
          refine (hwi w1).mono ?_
          rintro _ w2 ⟨rfl, oq⟩
          have F0 := (Below.frozen oq (World.block_lt_of_cell? _ _ R0)).trans F0
          have F1 := (Below.frozen oq (World.block_lt_of_cell? _ _ R1)).trans F1
          have F2 := (Below.frozen oq (World.block_lt_of_cell? _ _ R2)).trans F2
          have F3 := (Below.frozen oq (World.block_lt_of_cell? _ _ R3)).trans F3
          have R0 := Ok.cell oq R0
          have R1 := Ok.cell oq R1
          have R2 := Ok.cell oq R2
          have R3 := Ok.cell oq R3
          have E1 := Ok.cell oq E1
          have C0 := Ok.cell oq C0
          have C1 := Ok.cell oq C1
          have C2 := Ok.cell oq C2
          have C3 := Ok.cell oq C3
          have HOK2 := Lib.hid (Ok.call (Ok.call oW HOK1.out) oq)
          go_wp2
          have st := store4 w2 (w.heap.size + 1) _ _ _ _ (.string xl) (.string xh) (.int .i64 xg) (.int .i64 xe) R0 R1 R2 R3
          (try simp only [Exit.inBlock, Exit.then])
          refine bodyPost_ret (by simp [results, Tryz.results24, go_sem, st.1, st.2.1, st.2.2.1, st.2.2.2]; try rfl) rfl ?_
          exact ⟨by rw [e.out]; try rfl, Ok.set4 HOK2.out (by omega) _ _ _ _⟩
    · have d4 : decide ((k : Int) < (n : Int)) = false := decide_eq_false (by omega)
      have e := Lib.hid (HLOST.out fun j hj => HALL.out j (by omega))
      go_wp2
      have st := store4 wr (w.heap.size + 1) _ _ _ _ (.string ⟨#[]⟩) (.string ⟨#[]⟩) (.int .i64 0) (.int .i64 0) R0 R1 R2 R3
      (try simp only [Exit.inBlock, Exit.then])
      refine bodyPost_ret (by simp [results, Tryz.results24, go_sem, st.1, st.2.1, st.2.2.1, st.2.2.2]; try rfl) rfl ?_
      exact ⟨by rw [e.out]; try rfl, Ok.set4 (Ok.call oW HOKR.out) (by omega) _ _ _ _⟩
end Go.Proofs.YtdabdkedgigjdaaGreat
namespace Go.Proofs.YtdabdkedgigjdaaGreat
open Go.RowKit

def Rises (l : List Int) : Prop := l.Pairwise (· < ·)
theorem rises_one {a b : List Int} (ha : Rises a) (hb : Rises b) (h : ∀ x, x ∈ a ↔ x ∈ b) : a = b := by
  induction a generalizing b with
  | nil =>
    cases b with
    | nil => rfl
    | cons y r => exact absurd ((h y).2 (by simp)) (by simp)
  | cons x r ih =>
    cases b with
    | nil => exact absurd ((h x).1 (by simp)) (by simp)
    | cons y s =>
      have hx := List.pairwise_cons.1 ha
      have hy := List.pairwise_cons.1 hb
      have e : x = y := by
        have h1 := (h x).1 (by simp)
        have h2 := (h y).2 (by simp)
        rcases List.mem_cons.1 h1 with e | h1
        · exact e
        · rcases List.mem_cons.1 h2 with e | h2
          · exact e.symm
          · have := hy.1 x h1
            have := hx.1 y h2
            omega
      subst e
      rw [ih hx.2 hy.2 fun z => ?_]
      constructor
      · intro hz
        rcases List.mem_cons.1 ((h z).1 (List.mem_cons_of_mem _ hz)) with e | h2
        · have := hx.1 z hz; omega
        · exact h2
      · intro hz
        rcases List.mem_cons.1 ((h z).2 (List.mem_cons_of_mem _ hz)) with e | h2
        · have := hy.1 z hz; omega
        · exact h2
theorem sortI_mem (zs : List Int) (x : Int) : x ∈ sortI zs ↔ x ∈ zs := by simp [sortI]
theorem sortI_up (zs : List Int) : (sortI zs).Pairwise (· ≤ ·) := by
  have := List.pairwise_mergeSort (le := fun x y : Int => decide (x ≤ y)) (fun a b c h1 h2 => by simp at *; omega) (fun a b => by simp; omega) zs
  simpa [sortI] using this
theorem keepsI (s : List Int) (m : Nat) (h : m < s.length) : Lib.keeps s.toArray m = (decide (m = 0) || decide (s.getD m 0 ≠ s.getD (m - 1) 0)) := by
  unfold Lib.keeps
  by_cases hm : m = 0
  · subst hm; simp
  · have h1 : m - 1 < s.length := by omega
    simp [h, h1]
theorem compact_at (s : List Int) (m : Nat) (h : m < s.length) : s.toArray[m]! = s.getD m 0 := by simp [h]
theorem compact_up (s : List Int) (hs : s.Pairwise (· ≤ ·)) (m : Nat) (hm : m ≤ s.length) :
    (∀ x, x ∈ Lib.compactUpTo s.toArray m ↔ x ∈ s.take m) ∧ Rises (Lib.compactUpTo s.toArray m) ∧ (0 < m → ∀ x ∈ Lib.compactUpTo s.toArray m, x ≤ s.getD (m - 1) 0) := by
  induction m with
  | zero => exact ⟨fun x => by simp [Lib.compactUpTo], by simp [Lib.compactUpTo, Rises], fun h => by omega⟩
  | succ m ih =>
    obtain ⟨h1, h2, h3⟩ := ih (by omega)
    have hlt : m < s.length := by omega
    have ht : s.take (m + 1) = s.take m ++ [s.getD m 0] := by
      rw [List.take_succ_eq_append_getElem hlt]; simp [hlt]
    rw [Lib.compactUpTo_succ, keepsI s m hlt, compact_at s m hlt, ht]
    generalize Lib.compactUpTo s.toArray m = L at *
    by_cases hm0 : m = 0
    · subst hm0
      have hL : L = [] := by
        cases L with
        | nil => rfl
        | cons y r => exact absurd ((h1 y).1 (by simp)) (by simp)
      subst hL
      simp only [decide_true, Bool.true_or, if_true, List.nil_append, List.take_zero, List.mem_singleton]
      exact ⟨by simp, by simp [Rises], fun _ x hx => by subst hx; simp⟩
    · have hle : s.getD (m - 1) 0 ≤ s.getD m 0 := by
        have := List.pairwise_iff_getElem.1 hs (m - 1) m (by omega) hlt (by omega)
        simpa [hlt, show m - 1 < s.length by omega] using this
      have hmem : s.getD (m - 1) 0 ∈ s.take m := by
        rw [List.mem_take_iff_getElem]
        exact ⟨m - 1, by omega, by simp [show m - 1 < s.length by omega]⟩
      by_cases hd : s.getD m 0 = s.getD (m - 1) 0
      · simp only [hm0, decide_false, Bool.false_or, hd, ne_eq, not_true_eq_false, Bool.false_eq_true, if_false, List.append_nil, List.mem_append, List.mem_singleton, Nat.add_sub_cancel]
        refine ⟨fun x => ⟨fun h => .inl ((h1 x).1 h), fun h => ?_⟩, h2, fun _ x hx => h3 (by omega) x hx⟩
        rcases h with h | rfl
        · exact (h1 x).2 h
        · exact (h1 _).2 hmem
      · simp only [hm0, decide_false, Bool.false_or, ne_eq, hd, not_false_eq_true, decide_true, if_true, List.mem_append, List.mem_singleton, Nat.add_sub_cancel]
        refine ⟨fun x => or_congr (h1 x) Iff.rfl, ?_, fun _ x hx => ?_⟩
        · unfold Rises at h2 ⊢
          rw [List.pairwise_append]
          exact ⟨h2, by simp, fun x hx y hy => by simp at hy; subst hy; have := h3 (by omega) x hx; simp only [List.getD_eq_getElem?_getD] at *; omega⟩
        · rcases hx with hx | rfl
          · have := h3 (by omega) x hx; omega
          · exact Int.le_refl _

theorem one_four (l : List Int) (h : ∀ x ∈ l, 1 ≤ x ∧ x ≤ 4) : Lib.compact (sortI l) = ([1, 2, 3, 4] : List Int).filter (fun g => decide (g ∈ l)) := by
  obtain ⟨h1, h2, _⟩ := compact_up (sortI l) (sortI_up _) (sortI l).length (Nat.le_refl _)
  refine rises_one h2 ?_ fun x => ?_
  · unfold Rises
    exact List.Pairwise.sublist List.filter_sublist (by decide)
  · have := h1 x
    rw [List.take_length, sortI_mem] at this
    show x ∈ Lib.compactUpTo _ _ ↔ _
    rw [List.mem_filter]
    refine this.trans ⟨fun hx => ⟨?_, by simpa using hx⟩, fun hx => by simpa using hx.2⟩
    have := h x hx
    have : x = 1 ∨ x = 2 ∨ x = 3 ∨ x = 4 := by omega
    simpa using this
/-- Numbers, read. -/
def IntsR (w : World) (A : Option Addr) (zs : List Int) : Prop := ∀ j (h : j < zs.length), ∃ b off, A = some ⟨b, off, none⟩ ∧ w.cell? ⟨b, off + j, none⟩ = some (.int .i64 zs[j])
theorem IntsR.ok {w w' : World} {A : Option Addr} {zs : List Int} (h : IntsR w A zs) (k : Ok w w') : IntsR w' A zs := fun j hj => by
  obtain ⟨b, off, e, c⟩ := h j hj
  exact ⟨b, off, e, Ok.cell k c⟩
theorem OwnI.rd {w : World} {B : Nat} {A : Option Addr} {n c : Nat} {zs : List Int} (h : OwnI w B A n c zs) : IntsR w A zs := fun j hj => by
  obtain ⟨h1, rfl⟩ := h
  rcases h1.2 with ⟨e, h5⟩ | ⟨g, cap, cur, e, r⟩
  · omega
  · obtain ⟨rfl, -, rfl⟩ : A = some ⟨g, 0, none⟩ ∧ True ∧ c = cap := by
      simp only [Value.slice.injEq] at e
      exact ⟨e.1, trivial, e.2.2⟩
    refine ⟨g, 0, rfl, ?_⟩
    rw [Nat.zero_add, World.ownsRow.cellAt h1 j (by omega)]
    simp [hj]

set_option maxRecDepth 100000 in
set_option maxHeartbeats 1000000 in
theorem sameInts_w (A B : Option Addr) (n c d : Nat) (zs : List Int) (hn : zs.length = n) (hn6 : n ≤ 1000000) (w : World) (hA : IntsR w A zs) (hB : IntsR w B zs) :
    Calls Tryz.prog 18 #[.slice A n c, .slice B n d] w (Ret w (.bool true)) := by
  have HA := Lib.hid hA
  have HB := Lib.hid hB
  have HN := Lib.hid hn
  clear hA hB hn
  go_enter Tryz.func18, Tryz.ntmps18
  go_wp2_with fail
  go_loopw [5] (fun i wr => ∃ k : Nat, k ≤ n ∧ i = .int .i64 k ∧ Ok w wr) (fun i _ => n - (intOf i).toNat)
  case atStart => exact ⟨0, Nat.zero_le _, rfl, Ok.refl _⟩
  case round =>
    obtain ⟨k, hk, rfl, ok⟩ := hrel
    by_cases hlt : k < n
    · have d1 : decide ((k : Int) < (n : Int)) = true := decide_eq_true (by omega)
      obtain ⟨b, o, e1, p0⟩ := HA.out k (by rw [HN.out]; exact hlt)
      obtain ⟨b2, o2, e2, q0⟩ := HB.out k (by rw [HN.out]; exact hlt)
      subst e1 e2
      replace p0 := Ok.cell ok p0
      replace q0 := Ok.cell ok q0
      have OK := Lib.hid ok
      clear ok
      generalize zs[k]'(by rw [HN.out]; exact hlt) = z at p0 q0
      have hj0 : (0 : Int) ≤ (k : Int) := Int.natCast_nonneg _
      have hj1 : (k : Int) < (n : Int) := by omega
      go_wp2_with fail
      go_quiet (fail)
      go_wp2
      refine ⟨⟨k + 1, hlt, by go_num, Ok.trans' OK.out ⟨rfl, rfl, rfl, Nat.le_refl _, fun _ _ => rfl⟩⟩, ?_⟩
      show n - ((k : Int) + 1).toNat < n - (k : Int).toNat
      omega
    · have d1 : decide ((k : Int) < (n : Int)) = false := decide_eq_false (by omega)
      have OK := Lib.hid ok
      clear ok
      go_wp2
      go_ret
      exact ⟨rfl, OK.out⟩
end Go.Proofs.YtdabdkedgigjdaaGreat
namespace Go.Proofs.YtdabdkedgigjdaaGreat
open Go.RowKit

def inG (xs : List Sh) (ks : List Str) (k : Nat) (g : Int) : Bool := (ks.take k).any fun s => groupOf xs s == g
theorem inG_succ (xs : List Sh) (ks : List Str) (k : Nat) (hk : k < ks.length) (g : Int) : inG xs ks (k + 1) g = (inG xs ks k g || (groupOf xs (at0 ks k) == g)) := by
  unfold inG
  rw [List.take_succ_eq_append_getElem hk, List.any_append]
  simp [at0, hk]
theorem groupOf_in {ep : Int} {xs : List Sh} (h : sharesB ep xs = true) {s : Str} (hs : keyB s = true) : 1 ≤ groupOf xs s ∧ groupOf xs s ≤ 4 := by
  have := shares_some h s
  rw [hs] at this
  obtain ⟨y, hy⟩ := Option.isSome_iff_exists.1 this
  have hm := List.mem_of_find?_eq_some hy
  have ho := (shares_parts h).2.2.2.2 y hm
  unfold groupOf
  rw [hy]
  simp only [shOkB, groupB, Bool.and_eq_true, decide_eq_true_eq] at ho
  exact ho.1.1
theorem groups_good {ep : Int} {xs : List Sh} {ks : List Str} (h : sharesB ep xs = true) (hk : ∀ j, j < ks.length → keyB (at0 ks j) = true) :
    groupsM ep xs ks = (([1, 2, 3, 4] : List Int).filter (fun g => inG xs ks ks.length g), true) := by
  have hall : ks.all keyB = true := by
    rw [List.all_eq_true]
    intro s hs
    obtain ⟨j, hj, rfl⟩ := List.getElem_of_mem hs
    have := hk j hj
    simpa [at0, hj] using this
  unfold groupsM
  rw [if_pos (by rw [h, hall]; rfl), one_four _ (fun x hx => by
    obtain ⟨s, hs, rfl⟩ := List.mem_map.1 hx
    exact groupOf_in h (List.all_eq_true.1 hall s hs))]
  congr 2
  funext g
  unfold inG
  rw [List.take_length]
  rw [Bool.eq_iff_iff]
  simp [List.mem_map]
theorem groups_bad {ep : Int} {xs : List Sh} {ks : List Str} (h : sharesB ep xs = false ∨ ∃ j, j < ks.length ∧ keyB (at0 ks j) = false) : groupsM ep xs ks = ([], false) := by
  unfold groupsM
  rw [if_neg]
  intro hc
  rw [Bool.and_eq_true] at hc
  rcases h with h | ⟨j, hj, h⟩
  · rw [h] at hc; exact absurd hc.1 (by decide)
  · have := List.all_eq_true.1 hc.2 (at0 ks j) (by simp [at0, hj])
    rw [h] at this; exact absurd this (by decide)
/-- Five marks at a block. -/
def IsAt (w : World) (q : Nat) (f : Int → Bool) : Prop := (∀ g : Nat, g < 5 → w.cell? ⟨q, g, none⟩ = some (.bool (f g))) ∧ ∀ g : Nat, g < 5 → w.frozen? ⟨q, g, none⟩ = false
theorem IsAt.ok {w w' : World} {q : Nat} {f : Int → Bool} (h : IsAt w q f) (k : Ok w w') : IsAt w' q f :=
  ⟨fun g hg => Ok.cell k (h.1 g hg), fun g hg => (Below.frozen k (p := ⟨q, g, none⟩) (World.block_lt_of_cell? w ⟨q, g, none⟩ (h.1 g hg))).trans (h.2 g hg)⟩
theorem IsAt.set {w : World} {q : Nat} {f f' : Int → Bool} (h : IsAt w q f) (d : Nat) (hd : d < 5) (hf : ∀ g : Int, f' g = (f g || ((d : Int) == g))) : IsAt (w.setCell ⟨q, d, none⟩ (.bool true)) q f' := by
  refine ⟨fun g hg => ?_, fun g hg => by rw [World.frozen?_setCell]; exact h.2 g hg⟩
  by_cases e : g = d
  · subst e
    rw [World.cell?_setCell_same _ _ _ (h.1 g hg), hf]; simp
  · rw [World.cell?_setCell_other _ _ _ _ (fun h => by cases h; exact e rfl), h.1 g hg, hf]
    have : ((d : Int) == (g : Int)) = false := beq_eq_false_iff_ne.2 (by omega)
    rw [this, Bool.or_false]
def XAt (wq : World) (is : Bool) (g : Int) (vp vo : Value) (wx : World) : Prop := ∃ p, vp = .pointer (some ⟨p, 0, none⟩) ∧ vo = .bool is ∧ wx.cell? ⟨p, 2, none⟩ = some (.int .i64 g) ∧ Ok wq wx
theorem GroupsPost.mk {w w' : World} {r : List Int × Bool} {e : Ending} (A : Option Addr) (n c : Nat) (he : e = .returned (.tuple #[.slice A n c, .bool r.2])) (h : OwnI w' w.heap.size A n c r.1) (ho : Ok w w') : GroupsPost w r e w' := by
  obtain ⟨h1, rfl⟩ := h
  exact ⟨A, c, he, ⟨h1, rfl⟩, ho⟩

set_option maxRecDepth 100000 in
set_option maxHeartbeats 2000000 in
theorem rgroups_w (ep : Int) (A : Option Addr) (n c : Nat) (xs : List Sh) (B : Option Addr) (m d : Nat) (ks : List Str) (hn : xs.length = n) (hn6 : n ≤ 1000) (hm : ks.length = m) (hk6 : m ≤ 1000) (w : World) (hI : SharesAt w A xs)
    (hz : ∀ j, j < m → ∃ b off, B = some ⟨b, off, none⟩ ∧ w.cell? ⟨b, off + j, none⟩ = some (.string (at0 ks j))) :
    Calls Tryz.prog 16 #[.agg #[.int .i64 ep, .slice A n c], .slice B m d] w (GroupsPost w (groupsM ep xs ks)) := by
  have HSR := Lib.hid (fun w' (k : Ok w w') => rsharesRight_w ep A n c xs hn hn6 w' (hI.ok k))
  have HOF := Lib.hid (fun kk w' (k : Ok w w') => rof_w kk ep A n c xs hn hn6 w' (hI.ok k))
  have HZ := Lib.hid hz
  have HM := Lib.hid hm
  obtain ⟨R, hR⟩ : ∃ R, groupsM ep xs ks = R := ⟨_, rfl⟩
  have HBAD : Hid ((sharesB ep xs = false ∨ ∃ j, j < m ∧ keyB (at0 ks j) = false) → R = ([], false)) := Lib.hid (fun h => by rw [← hR]; exact groups_bad (by rwa [hm]))
  have HGOOD : Hid (sharesB ep xs = true → (∀ j, j < m → keyB (at0 ks j) = true) → R = (([1, 2, 3, 4] : List Int).filter (fun g => inG xs ks m g), true)) := Lib.hid (fun h1 h2 => by rw [← hR, groups_good h1 (by rwa [hm]), hm])
  have HFK : Hid (sharesB ep xs = true → ∀ s, ∃ x, shareV (firstM ep xs (fun x => hasB x.sp s)) = .tuple #[shV x, .bool (keyB s)] ∧ (keyB s = true → x.g = groupOf xs s ∧ 1 ≤ x.g ∧ x.g ≤ 4)) := Lib.hid (fun h s => by
    refine ⟨_, by unfold shareV firstM; rw [if_pos h, shares_some h], fun hs => ?_⟩
    have := groupOf_in h hs
    exact ⟨rfl, this⟩)
  rw [hR]
  clear hR hI hz hn hm
  obtain ⟨sr, hsr⟩ : ∃ b, sharesB ep xs = b := ⟨_, rfl⟩
  rw [hsr] at HSR HBAD HGOOD HFK
  clear hsr
  obtain ⟨p, hp⟩ : ∃ p, w.heap.size = p := ⟨_, rfl⟩
  go_enter Tryz.func16, Tryz.ntmps16
  go_wp2_with fail
  generalize hW : w.alloc (.cells #[.int .i64 ep, .slice A n c] 24) = W
  have S0 : W.cell? ⟨p, 0, none⟩ = some (.int .i64 ep) := by subst hW; subst hp; go_cell
  have S1 : W.cell? ⟨p, 1, none⟩ = some (.slice A n c) := by subst hW; subst hp; go_cell
  have okW : Hid (Ok w W) := Lib.hid (by subst hW; exact Ok.alloc (Ok.refl w) _)
  clear hW
  (with_reducible refine (HSR.out W okW.out).mono ?_)
  rintro _ w1 ⟨rfl, o1⟩
  have OK1 := Lib.hid (Ok.call okW.out o1)
  replace S0 := Ok.cell o1 S0; replace S1 := Ok.cell o1 S1
  clear o1 okW HSR
  cases sr with
  | false =>
    have HR := Lib.hid (HBAD.out (.inl rfl))
    go_wp2
    go_ret2
    exact GroupsPost.mk none 0 0 (by rw [HR.out]; rfl) (by rw [HR.out]; exact OwnI.nil _ _) OK1.out
  | true =>
  have HFK2 := Lib.hid (HFK.out rfl)
  have HGOOD2 := Lib.hid (HGOOD.out rfl)
  clear HFK HGOOD
  go_wp2_with fail
  obtain ⟨q, hq⟩ : ∃ q, w1.heap.size = q := ⟨_, rfl⟩
  have hpq : p < q := by have : p < w1.heap.size := World.block_lt_of_cell? w1 ⟨p, 0, none⟩ S0; omega
  have hwq : w.heap.size ≤ q := by omega
  try rw [hq]
  generalize hU : w1.alloc (.cells #[.bool false, .bool false, .bool false, .bool false, .bool false] 99) = U
  have oU : Ok w1 U := by subst hU; exact Ok.alloc (Ok.refl _) _
  have HIS : Hid (IsAt U q (inG xs ks 0)) := Lib.hid ⟨fun g hg => by
    subst hU; subst hq
    obtain rfl | rfl | rfl | rfl | rfl : g = 0 ∨ g = 1 ∨ g = 2 ∨ g = 3 ∨ g = 4 := by omega
    all_goals (simp only [inG, List.take_zero, List.any_nil]; go_cell), fun g hg => by
    subst hU; subst hq
    obtain rfl | rfl | rfl | rfl | rfl : g = 0 ∨ g = 1 ∨ g = 2 ∨ g = 3 ∨ g = 4 := by omega
    all_goals go_cell⟩
  replace S0 := Ok.cell oU S0; replace S1 := Ok.cell oU S1
  have OKU := Lib.hid (Ok.call OK1.out oU)
  clear hU oU OK1
  have HS01 := Lib.hid (And.intro S0 S1)
  clear S0 S1
  go_loopw [7] (fun i wr => ∃ k : Nat, k ≤ m ∧ i = .int .i64 k ∧ (∀ j, j < k → keyB (at0 ks j) = true) ∧ IsAt wr q (inG xs ks k) ∧ wr.cell? ⟨p, 0, none⟩ = some (.int .i64 ep) ∧ wr.cell? ⟨p, 1, none⟩ = some (.slice A n c) ∧ Ok w wr) (fun i _ => m - (intOf i).toNat)
  case atStart => exact ⟨0, Nat.zero_le _, rfl, fun j hj => absurd hj (Nat.not_lt_zero _), HIS.out, HS01.out.1, HS01.out.2, OKU.out⟩
  case round =>
    clear HIS HS01 OKU
    obtain ⟨k, hk, rfl, hkeys, his, S0, S1, okr⟩ := hrel
    have HKEYS := Lib.hid hkeys
    have HIS := Lib.hid his
    have OKR := Lib.hid okr
    clear hkeys his okr
    by_cases hlt : k < m
    · have d1 : decide ((k : Int) < (m : Int)) = true := decide_eq_true (by omega)
      have hj0 : (0 : Int) ≤ (k : Int) := Int.natCast_nonneg _
      have hj1 : (k : Int) < (m : Int) := by omega
      have hj2 : (k : Int) < 1000 := by omega
      obtain ⟨bl, off, rfl, hc0⟩ := HZ.out k hlt
      have hc := Ok.cell OKR.out hc0
      clear hc0
      obtain ⟨x, hx, hxg⟩ := HFK2.out (at0 ks k)
      have HOFK := Lib.hid (fun w' (k' : Ok wr w') => HOF.out (at0 ks k) w' (Ok.call OKR.out k'))
      rw [hx] at HOFK
      have HNX := Lib.hid (inG_succ xs ks k (by rw [HM.out]; exact hlt))
      obtain ⟨kb, hkb⟩ : ∃ b, keyB (at0 ks k) = b := ⟨_, rfl⟩
      rw [hkb] at HOFK hxg
      have HKB := Lib.hid hkb
      have HXG := Lib.hid hxg
      clear hkb hxg hx
      generalize hkey : at0 ks k = key at hc HOFK HNX HXG HKB
      have HKEY := Lib.hid hkey
      clear hkey
      obtain ⟨⟨xl, xh⟩, xg, xe⟩ := x
      unfold shV at HOFK
      simp only at HOFK HXG
      have HSQ := Lib.hid fun w' (k' : Ok wr w') => show w'.cell? ⟨p, 0, none⟩ = some (.int .i64 ep) ∧ w'.cell? ⟨p, 1, none⟩ = some (.slice A n c) ∧ w'.cell? ⟨bl, off + k, none⟩ = some (.string key) ∧ OkS wr w' from ⟨Ok.cell k' S0, Ok.cell k' S1, Ok.cell k' hc, k'⟩
      have HD0 : Hid (Ok wr wr.drew) := Lib.hid (Ok.drew (Ok.refl _))
      have HDA : Hid (Ok wr (wr.alloc (.cells #[.string ⟨#[]⟩, .string ⟨#[]⟩, .int .i64 0, .int .i64 0] 35)).drew) := Lib.hid (Ok.drew (Ok.alloc (Ok.refl _) _))
      have HZW : Hid (∀ w', Ok (wr.alloc (.cells #[.string ⟨#[]⟩, .string ⟨#[]⟩, .int .i64 0, .int .i64 0] 35)).drew w' → (w'.cell? ⟨wr.heap.size, 0, none⟩ = some (.string ⟨#[]⟩) ∧ w'.cell? ⟨wr.heap.size, 1, none⟩ = some (.string ⟨#[]⟩) ∧ w'.cell? ⟨wr.heap.size, 2, none⟩ = some (.int .i64 0) ∧ w'.cell? ⟨wr.heap.size, 3, none⟩ = some (.int .i64 0)) ∧ (w'.frozen? ⟨wr.heap.size, 0, none⟩ = false ∧ w'.frozen? ⟨wr.heap.size, 1, none⟩ = false ∧ w'.frozen? ⟨wr.heap.size, 2, none⟩ = false ∧ w'.frozen? ⟨wr.heap.size, 3, none⟩ = false)) := Lib.hid fun w' k' => by
        generalize hV : (wr.alloc (.cells #[.string ⟨#[]⟩, .string ⟨#[]⟩, .int .i64 0, .int .i64 0] 35)).drew = V at k'
        have Z0 : V.cell? ⟨wr.heap.size, 0, none⟩ = some (.string ⟨#[]⟩) := by subst hV; go_cell
        have Z1 : V.cell? ⟨wr.heap.size, 1, none⟩ = some (.string ⟨#[]⟩) := by subst hV; go_cell
        have Z2 : V.cell? ⟨wr.heap.size, 2, none⟩ = some (.int .i64 0) := by subst hV; go_cell
        have Z3 : V.cell? ⟨wr.heap.size, 3, none⟩ = some (.int .i64 0) := by subst hV; go_cell
        have F0 : V.frozen? ⟨wr.heap.size, 0, none⟩ = false := by subst hV; go_cell
        have F1 : V.frozen? ⟨wr.heap.size, 1, none⟩ = false := by subst hV; go_cell
        have F2 : V.frozen? ⟨wr.heap.size, 2, none⟩ = false := by subst hV; go_cell
        have F3 : V.frozen? ⟨wr.heap.size, 3, none⟩ = false := by subst hV; go_cell
        exact ⟨⟨Ok.cell k' Z0, Ok.cell k' Z1, Ok.cell k' Z2, Ok.cell k' Z3⟩, (Below.frozen k' (World.block_lt_of_cell? _ _ Z0)).trans F0, (Below.frozen k' (World.block_lt_of_cell? _ _ Z1)).trans F1, (Below.frozen k' (World.block_lt_of_cell? _ _ Z2)).trans F2, (Below.frozen k' (World.block_lt_of_cell? _ _ Z3)).trans F3⟩
      go_upto_region 7 with fail
      go_cut [8, 9] from 15 to 34 (fun vp vo wx => XAt wr kb xg vp vo wx)
      case first =>
        go_region_held3 (fun w' => w'.cell? ⟨p, 0, none⟩ = some (.int .i64 ep) ∧ w'.cell? ⟨p, 1, none⟩ = some (.slice A n c) ∧ w'.cell? ⟨bl, off + k, none⟩ = some (.string key) ∧ OkS wr w')
          ((refine HSQ.out _ ?_; (repeat (first | (with_reducible exact Ok.refl _) | (with_reducible assumption) | (with_reducible refine Ok.drew ?_) | (with_reducible refine Ok.alloc ?_ _) | (with_reducible refine Ok.trans' ?_ (by assumption)) | (refine Ok.set ?_ (by first | (simp; done) | (have h9 := o5.size; simp at h9; simp; omega)) _)))))
          (first
            | (go_at_call 24; (with_reducible refine (HOFK.out wr.drew HD0.out).mono ?_); rintro e w5 ⟨rfl, o5⟩)
            | (go_at_call 24; (with_reducible refine (HOFK.out (wr.alloc (.cells #[.string ⟨#[]⟩, .string ⟨#[]⟩, .int .i64 0, .int .i64 0] 35)).drew HDA.out).mono ?_); rintro e w5 ⟨rfl, o5⟩; obtain ⟨⟨Z0, Z1, Z2, Z3⟩, F0, F1, F2, F3⟩ := HZW.out _ o5))
        all_goals (go_wp2_with fail; go_meet)
        · exact ⟨_, rfl, rfl, by go_cell, Ok.alloc (Ok.trans' HD0.out o5) _⟩
        · have st := store4 w5 wr.heap.size _ _ _ _ (.string xl) (.string xh) (.int .i64 xg) (.int .i64 xe) Z0 Z1 Z2 Z3
          exact ⟨_, rfl, rfl, st.2.2.1, Ok.set4 (Ok.trans' HDA.out o5) (Nat.le_refl _) _ _ _ _⟩
      case rest =>
        obtain ⟨px, rfl, rfl, hg2, oc⟩ := hcut
        obtain ⟨wd, hwd⟩ : ∃ v, v = wc := ⟨_, rfl⟩
        subst hwd
        have HISD := Lib.hid (HIS.out.ok oc)
        replace S0 := Ok.cell oc S0; replace S1 := Ok.cell oc S1
        have OKD := Lib.hid (Ok.call OKR.out oc)
        clear oc HSQ HD0 HDA HZW HIS hc
        cases kb with
        | false =>
          have HR := Lib.hid (HBAD.out (.inr ⟨k, hlt, by rw [HKEY.out]; exact HKB.out⟩))
          go_wp2
          go_ret2
          exact GroupsPost.mk none 0 0 (by rw [HR.out]; rfl) (by rw [HR.out]; exact OwnI.nil _ _) OKD.out
        | true =>
          obtain ⟨hg3, hg4, hg5⟩ := HXG.out rfl
          obtain ⟨gn, rfl⟩ : ∃ gn : Nat, xg = (gn : Int) := ⟨xg.toNat, by omega⟩
          have HG3 := Lib.hid hg3
          clear hg3
          have hgn : gn < 5 := by omega
          have hi0 : (0 : Int) ≤ (gn : Int) := Int.natCast_nonneg _
          have hi1 : (gn : Int) < 5 := by omega
          have hcq := HISD.out.1 gn hgn
          have hfq := HISD.out.2 gn hgn
          have HNEW : Hid (IsAt (wd.setCell ⟨q, gn, none⟩ (.bool true)) q (inG xs ks (k + 1))) := Lib.hid (HISD.out.set gn hgn (fun g => by rw [HNX.out g, HG3.out]))
          have HSS : Hid ((wd.setCell ⟨q, gn, none⟩ (.bool true)).cell? ⟨p, 0, none⟩ = some (.int .i64 ep) ∧ (wd.setCell ⟨q, gn, none⟩ (.bool true)).cell? ⟨p, 1, none⟩ = some (.slice A n c)) := Lib.hid ⟨other (by omega) S0, other (by omega) S1⟩
          clear hg4 hg5
          go_wp2
          refine ⟨⟨k + 1, hlt, by go_num, fun j hj => ?_, HNEW.out, HSS.out.1, HSS.out.2, Ok.set OKD.out hwq _⟩, ?_⟩
          · by_cases e : j = k
            · subst e; rw [HKEY.out]; exact HKB.out
            · exact HKEYS.out j (by omega)
          · show m - ((k : Int) + 1).toNat < m - (k : Int).toNat
            omega
    · have d1 : decide ((k : Int) < (m : Int)) = false := decide_eq_false (by omega)
      obtain rfl : k = m := by omega
      have HR := Lib.hid (HGOOD2.out HKEYS.out)
      obtain ⟨wa, hwa⟩ : ∃ v, v = wr := ⟨_, rfl⟩
      subst hwa
      have hqr : q < wa.heap.size := World.block_lt_of_cell? wa ⟨q, 0, none⟩ (HIS.out.1 0 (by decide))
      go_wp2_with fail
      go_loopw [10, 11] (fun o g wr => ∃ (t : Nat) (A2 : Option Addr) (n2 c2 : Nat), t ≤ 4 ∧ g = .int .i64 ((t : Int) + 1) ∧ o = .slice A2 n2 c2 ∧ OwnI wr wa.heap.size A2 n2 c2 ((([1, 2, 3, 4] : List Int).take t).filter (fun g => inG xs ks k g)) ∧ Ok wa wr) (fun _ g _ => 6 - (intOf g).toNat)
      case atStart => exact ⟨0, none, 0, 0, by omega, rfl, rfl, OwnI.nil _ _, Ok.refl _⟩
      case round =>
        obtain ⟨t, A2, n2, c2, ht, rfl, rfl, hown, ok2⟩ := hrel
        have HOW := Lib.hid hown
        have OK2 := Lib.hid ok2
        have HIS2 := Lib.hid (HIS.out.ok ok2)
        clear hown ok2
        by_cases ht4 : t < 4
        · have d2 : decide ((t : Int) + 1 ≤ 4) = true := decide_eq_true (by omega)
          have hi0 : (0 : Int) ≤ (t : Int) + 1 := by omega
          have hi1 : (t : Int) + 1 < 5 := by omega
          have hi2 : ((t : Int) + 1).toNat = t + 1 := by omega
          have hcq := HIS2.out.1 (t + 1) (by omega)
          have hlst : (([1, 2, 3, 4] : List Int).take (t + 1)).filter (fun g => inG xs ks k g) = (([1, 2, 3, 4] : List Int).take t).filter (fun g => inG xs ks k g) ++ (if inG xs ks k ((t + 1 : Nat) : Int) = true then [((t + 1 : Nat) : Int)] else []) := by
            have : t = 0 ∨ t = 1 ∨ t = 2 ∨ t = 3 := by omega
            rcases this with rfl | rfl | rfl | rfl <;> simp [List.filter_cons] <;> (repeat' split) <;> simp_all
          have HLST := Lib.hid hlst
          have HLE : Hid (((([1, 2, 3, 4] : List Int).take t).filter (fun g => inG xs ks k g)).length ≤ 1000000) := Lib.hid (by
            have h1 := List.length_filter_le (fun g => inG xs ks k g) (([1, 2, 3, 4] : List Int).take t)
            rw [List.length_take] at h1
            omega)
          clear hlst
          obtain ⟨bb, hbb⟩ : ∃ b, inG xs ks k ((t + 1 : Nat) : Int) = b := ⟨_, rfl⟩
          rw [hbb] at hcq HLST
          clear hbb
          cases bb with
          | true =>
            have hsz := OK2.out.size
            have HNA : Hid ((wr.alloc (.cells #[.int .i64 ((t : Int) + 1)] 3)).cell? ⟨wr.heap.size, 0, none⟩ = some (.int .i64 ((t : Int) + 1))) := Lib.hid (by go_cell)
            have HOWA : Hid (OwnI (wr.alloc (.cells #[.int .i64 ((t : Int) + 1)] 3)) wa.heap.size A2 n2 c2 ((([1, 2, 3, 4] : List Int).take t).filter (fun g => inG xs ks k g))) := Lib.hid (HOW.out.alloc _)
            have HSZ : Hid (wa.heap.size ≤ (wr.alloc (.cells #[.int .i64 ((t : Int) + 1)] 3)).heap.size) := Lib.hid (by simp; omega)
            go_wp2_with (at_builtin; go_must (refine wpList_appI rfl (.tmp 42) (.tmp 44) rfl wa.heap.size A2 n2 c2 _ wr.heap.size ((t : Int) + 1) rfl rfl HOWA.out HNA.out HLE.out HSZ.out ?_; intro A3 c3 w3 hown3 hbel3; have HOW3 := Lib.hid hown3; have HB3 : Hid (Ok wa w3) := Lib.hid (Below.trans (Ok.alloc OK2.out _) hbel3); clear hown3 hbel3))
            go_roundw
            case rel =>
              refine ⟨t + 1, A3, n2 + 1, c3, by omega, by go_num, rfl, ?_, HB3.out⟩
              rw [HLST.out, if_pos rfl]
              exact HOW3.out
            case measure => simp [intOf]; omega
          | false =>
            go_wp2_with fail
            go_roundw
            case rel =>
              refine ⟨t + 1, A2, n2, c2, by omega, by go_num, rfl, ?_, OK2.out⟩
              rw [HLST.out, if_neg (by decide), List.append_nil]
              exact HOW.out
            case measure => simp [intOf]; omega
        · have d2 : decide ((t : Int) + 1 ≤ 4) = false := decide_eq_false (by omega)
          obtain rfl : t = 4 := by omega
          go_wp2
          go_ret2
          exact GroupsPost.mk A2 n2 c2 (by rw [HR.out]; rfl) (by rw [HR.out]; exact (HOW.out.base (by have := OKR.out.size; omega))) (Ok.call OKR.out OK2.out)
end Go.Proofs.YtdabdkedgigjdaaGreat
