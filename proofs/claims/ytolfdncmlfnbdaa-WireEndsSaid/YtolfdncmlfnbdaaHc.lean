/- Lists of bytes lent, with marks behind them; whether they are kept. -/
import Derived.Test.YtolfdncmlfnbdaaGf
import Derived.Test.YtolfdncmlfnbdaaHb
namespace Go.Proofs.Ytolfdncmlfnbdaa
open Go.RowKit

theorem wpList_appG {ops : Array Oper} {rest : List Oper} {o : Oper} {a : Act} {w : World} {Q : Exit → Act → World → Prop} (hgd : o.guard = none) (s x : Operand)
    (ho : o.op = .call { callee := .builtin .append, args := #[s, x], argTypes := #[26, 26] })
    (base : Nat) (v : Value) (xs ys : List B8) (vx : Value) (hs : a.eval s = v) (hx : a.eval x = vx) (hown : OwnN w base v xs) (hy : BytesIn w vx ys)
    (hlen : xs.length + ys.length ≤ 140737488351262) (hbase : base ≤ w.heap.size)
    (h : ∀ A N c w', OwnN w' base (.slice A N c) (xs ++ ys) → Below base w w' → w.grownBy w' v.ownBlock → wpList Try.prog ops Q rest (a.put o.dst (.slice A N c)) w') : wpList Try.prog ops Q (o :: rest) a w := by
  obtain ⟨i0, hi, hz0, hz1, hz2⟩ := info_parts info5
  have hlate : ∀ v' w', w'.ownsRow base 5 1 v' (xs.length + ys.length) (xs.map bv ++ ys.map bv) → w.grownBy w' v.ownBlock → wpList Try.prog ops Q rest (a.put o.dst v') w' := by
    intro v' w' h2 h3
    have hb : Below base w w' := (Below.refl base w).grown h3 hbase (fun k hk => (World.ownsRow.lt hown k hk).1)
    have h2' : OwnN w' base v' (xs ++ ys) := by unfold OwnN; rw [List.map_append, List.length_append]; exact h2
    obtain ⟨A, c, rfl⟩ := h2'.form
    exact h A _ c w' h2' hb h3
  rcases hy with ⟨rfl, A, c, rfl, hA⟩ | ⟨b, off, c, rfl, _, hm, hc⟩
  · cases A with
    | some ad =>
      refine wpList_append_own _ hgd s x 26 ho base 5 i0 (.int .u8 0) 1 1 Try.underlying26 hi hz0 hz1 hz2 rfl (by decide) _ xs.length (xs.map bv) hs hown ad 0 c [] hx rfl (fun j u hu => by simp at hu) (fun u hu => by simp at hu) (by unfold maxLen; simp at hlen; omega) (by simp at hlen; omega) hbase ?_
      intro v' w' h2 h3 _
      exact hlate v' w' h2 h3
    | none =>
      obtain rfl := hA rfl
      refine wpList_append_own_none hgd s x 26 ho base 5 i0 1 Try.underlying26 hi _ xs.length (xs.map bv) hs hown hx ?_
      exact hlate v w (by have := hown; unfold OwnN at this; simpa using this) ⟨rfl, rfl, rfl, Nat.le_refl _, fun _ _ _ => rfl⟩
  · refine wpList_append_own _ hgd s x 26 ho base 5 i0 (.int .u8 0) 1 1 Try.underlying26 hi hz0 hz1 hz2 rfl (by decide) _ xs.length (xs.map bv) hs hown ⟨b, off, none⟩ ys.length c (ys.map bv) hx (by simp) ?_ ?_ (by unfold maxLen; omega) (by omega) hbase ?_
    · intro j u hu
      have hj : j < ys.length := by
        by_cases hl : j < ys.length
        · exact hl
        · rw [List.getElem?_eq_none (by simp; omega)] at hu; cases hu
      have e : (⟨b, off, none⟩ : Addr).add j = ⟨b, off + j, none⟩ := by unfold Addr.add; split <;> simp_all
      rw [e, hc j hj, ← hu]
      simp [hj, bv]
    · intro u hu
      obtain ⟨y, _, rfl⟩ := List.mem_map.1 hu
      rfl
    · intro v' w' h2 h3 _
      exact hlate v' w' h2 h3
theorem OwnN.len' {w : World} {B : Nat} {A : Option Addr} {n c : Nat} {xs : List B8} (h : OwnN w B (.slice A n c) xs) : xs.length = n := by
  rcases own_form h with ⟨e, h0⟩ | ⟨g, cap, e⟩
  · simp only [Value.slice.injEq] at e; omega
  · simp only [Value.slice.injEq] at e; exact e.2.1.symm
theorem OwnN.cell {w : World} {B g c n : Nat} {xs : List B8} (h : OwnN w B (.slice (some ⟨g, 0, none⟩) n c) xs) (j : Nat) (hj : j < xs.length) : w.cell? ⟨g, j, none⟩ = some (.int .u8 (ub (xs.getD j 0#8))) ∧ w.frozen? ⟨g, j, none⟩ = false := by
  obtain rfl := h.len'
  refine ⟨?_, World.ownsRow.frozenAt h j⟩
  rw [World.ownsRow.cellAt h j (by omega)]
  simp [hj, bv]
def mks (n : Nat) : List B8 := (List.range n).map (mB 1)
theorem mks_len (m : Nat) : (mks m).length = m := by simp [mks]
theorem mks_succ (m : Nat) : mks (m + 1) = mks m ++ [mB 1 m] := by simp [mks, List.range_succ]
def LentBP (w : World) (n : Nat) (zs : List B8) : Ending → World → Prop := fun e w' => ∃ g cap, e = .returned (.slice (some ⟨g, 0, none⟩) n cap) ∧ n + 12 ≤ cap ∧ w.heap.size ≤ g ∧ Ok w w' ∧ OwnN w' w.heap.size (.slice (some ⟨g, 0, none⟩) (n + 12) cap) (zs ++ mks 12)
theorem OwnN.capd {w : World} {B : Nat} {A : Option Addr} {n c : Nat} {xs : List B8} (h : OwnN w B (.slice A n c) xs) (hp : 0 < n) : ∃ g, A = some ⟨g, 0, none⟩ ∧ n ≤ c ∧ B ≤ g := by
  have hl := h.len'
  rcases h.2 with ⟨e, h5⟩ | ⟨g, cap, cur, e, r1, r2, r3, r4, r5⟩
  · omega
  · simp only [Value.slice.injEq] at e
    obtain ⟨rfl, -, rfl⟩ := e
    exact ⟨g, rfl, by omega, r1⟩
set_option maxRecDepth 100000 in
set_option maxHeartbeats 4000000 in
theorem lentB_w (A : Option Addr) (n c : Nat) (zs : List B8) (hn : zs.length = n) (hn6 : n ≤ 1000000) (w : World) (hI : BytesIn w (.slice A n c) zs) : Calls Try.prog 23 #[.slice A n c] w (LentBP w n zs) := by
  have H := Lib.hid hI
  have HN := Lib.hid hn
  clear hI hn
  obtain ⟨i0, hi, hz0, hz1, hz2⟩ := info_parts info5
  have HI := Lib.hid hi
  have HZ0 := Lib.hid hz0
  have HZ1 := Lib.hid hz1
  have HZ2 := Lib.hid hz2
  clear hi hz0 hz1 hz2
  go_enter Try.func23, Try.ntmps23
  go_wp2_with (first
    | (at_make; go_must (refine wpList_make_own _ rfl _ _ 26 rfl w.heap.size 5 i0 (.int .u8 0) 1 Try.underlying26 HI.out HZ0.out HZ1.out .i64 .i64 _ (n + 12) rfl rfl (by first | rfl | simp | (push_cast; omega)) (by rw [HZ2.out]; omega) (by unfold maxLen; omega) (Nat.le_refl _) ?_; intro w0 hown0 hgrow0; have HOW0 : Hid (OwnN w0 w.heap.size (.slice (some ⟨w.heap.size, 0, none⟩) 0 (n + 12)) []) := Lib.hid hown0; have HB0 : Hid (Ok w w0) := Lib.hid ((Below.refl _ _).grown hgrow0 (Nat.le_refl _) (fun k hk => by cases hk)); clear hown0 hgrow0))
    | (at_builtin; go_must (refine wpList_appG rfl (.tmp 9) (.tmp 10) rfl w.heap.size (.slice (some ⟨w.heap.size, 0, none⟩) 0 (n + 12)) [] zs (.slice A n c) rfl rfl HOW0.out (HB0.out.bytes H.out) (by rw [HN.out]; simp; omega) HB0.out.size ?_; intro A1 N1 c1 w1 hown1 hbel1 hgr1; simp only [List.nil_append] at hown1; have HOW1 := Lib.hid hown1; have HB1 : Hid (Ok w w1) := Lib.hid (Below.trans HB0.out hbel1); clear hown1 hbel1 hgr1)))
  go_loopw [3, 4] (fun o i wr => ∃ (j : Nat) (A2 : Option Addr) (n2 c2 : Nat), j ≤ 12 ∧ i = .int .i64 j ∧ o = .slice A2 n2 c2 ∧ OwnN wr w.heap.size (.slice A2 n2 c2) (zs ++ mks j) ∧ Ok w wr) (fun _ i _ => 12 - (intOf i).toNat)
  case atStart => exact ⟨0, A1, N1, c1, by omega, rfl, rfl, by simpa [mks] using HOW1.out, HB1.out⟩
  case round =>
    obtain ⟨j, A2, n2, c2, hj, rfl, rfl, hown, hok⟩ := hrel
    have HOW := Lib.hid hown
    have HOK := Lib.hid hok
    clear hown hok HOW1 HB1 HOW0 HB0
    by_cases hlt : j < 12
    · have HMS := Lib.hid (mks_succ j)
      have HL : Hid ((zs ++ mks j).length = n + j) := Lib.hid (by rw [List.length_append, mks_len, HN.out])
      have hd : decide ((j : Int) < 12) = true := decide_eq_true (by omega)
      have hmk : ∀ w', Calls Try.prog 93 #[.int .i64 1, .int .i64 (j : Int)] w' fun e w'' => e = .returned (.int .u8 (ub (mB 1 j))) ∧ w' = w'' := fun w' => markByte_w 1 j (by decide) (by omega) w'
      generalize mB 1 j = mb at *
      go_wp2_with fail
      refine (hmk _).mono ?_
      rintro e w2 ⟨rfl, rfl⟩
      have HOA : Hid (Ok wr (wr.alloc (.cells #[.int .u8 (ub mb)] 5))) := Lib.hid ((Ok.refl wr).alloc _)
      have HOWA : Hid (OwnN (wr.alloc (.cells #[.int .u8 (ub mb)] 5)) w.heap.size (.slice A2 n2 c2) (zs ++ mks j)) := Lib.hid (HOW.out.ok HOA.out)
      have HOK2 := Lib.hid (Ok.trans HOK.out HOA.out)
      have HNB : Hid (BytesIn (wr.alloc (.cells #[.int .u8 (ub mb)] 5)) (.slice (some ⟨wr.heap.size, 0, none⟩) 1 1) [mb]) := Lib.hid (bytes_new wr [mb] _ 5 (0, 0) _ 1 1 rfl rfl (Nat.le_refl _) (by simp) rfl)
      go_wp2_with (at_builtin; go_must (refine wpList_appG rfl (.tmp 16) (.tmp 19) rfl w.heap.size (.slice A2 n2 c2) (zs ++ mks j) [mb] (.slice (some ⟨wr.heap.size, 0, none⟩) 1 1) rfl rfl HOWA.out HNB.out (by rw [HL.out]; simp; omega) HOK2.out.size ?_; intro A3 N3 c3 w3 hown3 hbel3 hgr3; have HOW3 := Lib.hid hown3; have HB3 : Hid (Ok w w3) := Lib.hid (Below.trans HOK2.out hbel3); clear hown3 hbel3 hgr3))
      go_roundw
      case rel => exact ⟨j + 1, A3, N3, c3, by omega, by go_num, rfl, by rw [HMS.out, ← List.append_assoc]; exact HOW3.out, HB3.out⟩
      case measure => simp [intOf]; omega
    · have hje : j = 12 := by omega
      subst hje
      have hl : (zs ++ mks 12).length = n + 12 := by rw [List.length_append, mks_len, HN.out]
      have hn2 : n2 = n + 12 := by rw [← HOW.out.len', hl]
      subst hn2
      obtain ⟨g, rfl, hcap, hg⟩ := HOW.out.capd (by omega)
      have hi1 : (n : Int) ≤ (c2 : Int) := by omega
      have hn0 : (0 : Int) ≤ (n : Int) := by omega
      have HFIN : Hid (∀ e, e = .returned (.slice (some ⟨g, 0, none⟩) n c2) → LentBP w n zs e wr) := Lib.hid fun e he => ⟨g, c2, he, hcap, hg, HOK.out, HOW.out⟩
      clear hl hg hcap HOW
      go_wp2_with fail
      go_ret
      exact HFIN.out _ rfl
theorem mks_at0 (zs : List B8) (j : Nat) (h : j < zs.length) : (zs ++ mks 12).getD j 0#8 = zs.getD j 0#8 := by
  simp only [List.getD, List.getElem?_append_left h]
theorem mks_at1 (zs : List B8) (j : Nat) (h : j < 12) : (zs ++ mks 12).getD (zs.length + j) 0#8 = mB 1 j := by
  simp [mks, h]
set_option maxRecDepth 100000 in
set_option maxHeartbeats 4000000 in
theorem keptB_w (g cap : Nat) (A : Option Addr) (n c B : Nat) (zs : List B8) (hn : zs.length = n) (hn6 : n ≤ 1000000) (w : World) (hcap : n + 12 ≤ cap)
    (hG : OwnN w B (.slice (some ⟨g, 0, none⟩) (n + 12) cap) (zs ++ mks 12)) (hI : BytesIn w (.slice A n c) zs) :
    Calls Try.prog 90 #[.slice (some ⟨g, 0, none⟩) n cap, .slice A n c] w (Ret w (.bool true)) := by
  have HG := Lib.hid hG
  have HI := Lib.hid hI
  have HN := Lib.hid hn
  have HL : Hid ((zs ++ mks 12).length = n + 12) := Lib.hid (by rw [List.length_append, mks_len, hn])
  clear hG hI hn
  have s1 : wrap64 ((n : Int) + 12) = (n : Int) + 12 := by simp only [wrap64]; omega
  have s3 : (0 : Int) ≤ (n : Int) + 12 := by omega
  have s4 : (n : Int) + 12 ≤ (cap : Int) := by omega
  have s5 : ((n : Int) + 12).toNat = n + 12 := by omega
  go_enter Try.func90, Try.ntmps90
  go_wp2_with fail
  go_loopw [6] (fun i wr => ∃ k : Nat, k ≤ n + 12 ∧ i = .int .i64 k ∧ Ok w wr) (fun i _ => n + 12 - (intOf i).toNat)
  case atStart => exact ⟨0, Nat.zero_le _, rfl, Ok.refl _⟩
  case round =>
    obtain ⟨k, hk, rfl, okr⟩ := hrel
    have HOKR := Lib.hid okr
    clear okr
    by_cases hlt : k < n + 12
    · have d1 : decide ((k : Int) < (n : Int) + 12) = true := decide_eq_true (by omega)
      have C0 := ((HG.out.ok HOKR.out).cell k (by rw [HL.out]; exact hlt)).1
      have hi0 : (0 : Int) ≤ (k : Int) := Int.natCast_nonneg _
      have hi1 : (k : Int) < (n : Int) + 12 := by omega
      have hek : IntKind.i64.wrap ((k : Int) + 1) = (k : Int) + 1 := IntWalk.i64_in _ (by omega)
      have HLT : Hid (n + 12 - ((k : Int) + 1).toNat < n + 12 - (k : Int).toNat) := Lib.hid (by omega)
      by_cases h2 : k < n
      · have d2 : decide ((k : Int) < (n : Int)) = true := decide_eq_true (by omega)
        have d3 : decide (n ≤ k) = false := decide_eq_false (by omega)
        obtain ⟨-, b, off, rfl, D0⟩ := same_cells (HOKR.out.bytes HI.out) rfl k h2
        rw [mks_at0 zs k (by rw [HN.out]; exact h2)] at C0
        generalize zs.getD k 0#8 = y at C0 D0
        have hi2 : (k : Int) < (n : Int) := by omega
        have kC0 := cell_regrown C0
        have kD0 := cell_regrown D0
        go_wp2_with fail
        refine wp_region_quiet_below (by kernel_rfl) (by kernel_rfl) ?_
        refine HeldF.out ?_
        repeat (
          refine hqF_step (fun K hK => ?_)
          go_simp
          (refine hK _ ?_; clear hK K))
        refine HeldF.mk (wpQuiet_nil ?_)
        intro _ hw'
        obtain ⟨⟨dq, osq⟩, hw''⟩ := hw'
        subst hw''
        have HO2 := Lib.hid (Ok.trans HOKR.out (below_regrown wr dq osq))
        clear kC0 kD0 C0 D0
        generalize Go.Sort.grow (redrawn wr dq) osq = w2 at *
        go_wp2_with fail
        exact ⟨⟨k + 1, hlt, rfl, HO2.out⟩, HLT.out⟩
      · obtain ⟨j, hj⟩ : ∃ j, k = n + j := ⟨k - n, by omega⟩
        have hj12 : j < 12 := by omega
        have d2 : decide ((k : Int) < (n : Int)) = false := decide_eq_false (by omega)
        have d3 : decide (n ≤ k) = true := decide_eq_true (by omega)
        have s2 : wrap64 ((k : Int) - (n : Int)) = (j : Int) := by simp only [wrap64]; omega
        have s6 : IntKind.i64.wrap ((k : Int) - (n : Int)) = (j : Int) := by simp only [IntKind.wrap_i64]; omega
        have e0 : (zs ++ mks 12).getD k 0#8 = mB 1 j := by rw [hj, ← HN.out]; exact mks_at1 zs j hj12
        rw [e0] at C0
        have q1 : ∀ d os, Calls Try.prog 93 #[.int .i64 1, .int .i64 (j : Int)] (Go.Sort.grow (redrawn wr d) os) fun e w'' => e = .returned (.int .u8 (ub (mB 1 j))) ∧ ∃ q : Regrown, w'' = Go.Sort.grow (redrawn wr q.d) q.os := fun d os => mark_q 1 j (by decide) (by omega) wr d os
        generalize mB 1 j = mb at *
        clear e0 hj
        have kC0 := cell_regrown C0
        go_wp2_with fail
        refine wp_region_quiet_below (by kernel_rfl) (by kernel_rfl) ?_
        refine HeldF.out ?_
        repeat (
          refine hqF_step (fun K hK => ?_)
          go_simp
          first
            | (refine hK _ ?_; clear hK K)
            | (apply Exists.intro
               refine ⟨fun _ => ?_, hK _ ?_⟩
               (with_reducible exact q1 _ _)
               clear hK K))
        refine HeldF.mk (wpQuiet_nil ?_)
        intro _ hw'
        obtain ⟨⟨dq, osq⟩, hw''⟩ := hw'
        subst hw''
        have HO2 := Lib.hid (Ok.trans HOKR.out (below_regrown wr dq osq))
        clear kC0 C0 q1
        generalize Go.Sort.grow (redrawn wr dq) osq = w2 at *
        go_wp2_with fail
        exact ⟨⟨k + 1, hlt, rfl, HO2.out⟩, HLT.out⟩
    · have d1 : decide ((k : Int) < (n : Int) + 12) = false := decide_eq_false (by omega)
      go_wp2
      go_ret
      exact ⟨rfl, HOKR.out⟩
theorem wpList_app1 {ops : Array Oper} {rest : List Oper} {o : Oper} {a : Act} {w : World} {Q : Exit → Act → World → Prop} (hgd : o.guard = none) (s x : Operand)
    (ho : o.op = .call { callee := .builtin .append, args := #[s, x], argTypes := #[25, 25] })
    (base : Nat) (A : Option Addr) (n c : Nat) (cs : List Value) (hs : a.eval s = .slice A n c) (h1 : w.ownsRow base 26 1 (.slice A n c) n cs)
    (b : Nat) (v : Value) (hv : v.oneCell' = true) (hx : a.eval x = .slice (some ⟨b, 0, none⟩) 1 1) (hc : w.heap[b]? = some (.cells #[v] 26 (0, 0))) (hlen : n ≤ 1000000000) (hbase : base ≤ w.heap.size)
    (hk : ∀ A' c' w', w'.ownsRow base 26 1 (.slice A' (n + 1) c') (n + 1) (cs ++ [v]) → Below base w w' → w.grownBy w' (Value.slice A n c).ownBlock → wpList Try.prog ops Q rest (a.put o.dst (.slice A' (n + 1) c')) w') : wpList Try.prog ops Q (o :: rest) a w := by
  obtain ⟨i0, hi, hz0, hz1, hz2⟩ := info_parts info23
  refine wpList_append_own_at _ hgd s x 25 ho base 26 i0 (.slice none 0 0) 1 24 Try.underlying25 hi hz0 hz1 hz2 rfl (by decide) _ n cs hs h1 ⟨b, 0, none⟩ 1 1 [v] hx rfl ?_ (fun u hu => (List.mem_singleton.1 hu) ▸ hv) (by unfold maxLen; omega) (by omega) hbase ?_
  · intro j u hu
    have hadd : (⟨b, 0, none⟩ : Addr).add j = ⟨b, j, none⟩ := by unfold Addr.add; split <;> simp_all
    rw [hadd, cell_of_heap hc]
    simpa using hu
  · intro v' w' g1 g2 _ _
    have hb : Below base w w' := (Below.refl base w).grown g2 hbase (fun k hk => (World.ownsRow.lt h1 k hk).1)
    rcases g1.2 with ⟨_, h5⟩ | ⟨g', cap', cur, rfl, hr⟩
    · omega
    · exact hk _ _ w' ⟨g1.1, .inr ⟨g', cap', cur, rfl, hr⟩⟩ hb g2
theorem row_blk {w : World} {base e sz n : Nat} {v : Value} {cs : List Value} (h : w.ownsRow base e sz v n cs) : ∀ k, v.ownBlock = some k → ∃ cur, w.heap[k]? = some (.cells cur e (0, 0)) := by
  intro k hk
  rcases h.2 with ⟨e2, _⟩ | ⟨g, cap, cur, e2, _, hg, _⟩
  · rw [e2] at hk; cases hk
  · rw [e2] at hk
    simp only [Value.ownBlock, Option.some.injEq] at hk
    subst hk
    exact ⟨cur, hg⟩
/-- A row of one type keeps where a row of another grows. -/
theorem row_keep {w w' : World} {base e sz n base2 e2 sz2 n2 : Nat} {v v2 : Value} {cs cs2 : List Value} (h : w.ownsRow base e sz v n cs) (h2 : w.ownsRow base2 e2 sz2 v2 n2 cs2) (he : e2 ≠ e) (hg : w.grownBy w' v2.ownBlock) : w'.ownsRow base e sz v n cs :=
  own_stays h fun b hb => hg.block b (World.ownsRow.lt h b hb).2 (fun e => by
    obtain ⟨cur, hc⟩ := row_blk h2 b e.symm
    exact own_ty h hc he hb)
theorem lent_bytes {w : World} {g n cap B : Nat} {zs : List B8} (hn : zs.length = n) (hc : n + 12 ≤ 140737488351232) (ho : OwnN w B (.slice (some ⟨g, 0, none⟩) (n + 12) cap) (zs ++ mks 12)) : BytesIn w (.slice (some ⟨g, 0, none⟩) n cap) zs := by
  have h := bytes_take (N := n) (ho.bytes (by rw [List.length_append, mks_len, hn]; exact hc)) (by rw [List.length_append, hn]; omega)
  have e : (zs ++ mks 12).take n = zs := by rw [← hn]; exact List.take_left
  rw [e] at h
  exact h

/-- A row of lists of bytes that came in. -/
def RowsA (w : World) (A : Option Addr) (ll : List (List B8)) : Prop := ∀ k, k < ll.length → ∃ b o V, A = some ⟨b, o, none⟩ ∧ w.cell? ⟨b, o + k, none⟩ = some V ∧ BytesIn w V (ll.getD k [])
/-- Lent lists, at their places. -/
def LentAt (wr : World) (B : Nat) (v : Option Value) (xs : List B8) : Prop := ∃ g cap, v = some (.slice (some ⟨g, 0, none⟩) xs.length cap) ∧ xs.length + 12 ≤ cap ∧ OwnN wr B (.slice (some ⟨g, 0, none⟩) (xs.length + 12) cap) (xs ++ mks 12)
def LrR (B : Nat) (wr : World) (A : Option Addr) (k c : Nat) (ll : List (List B8)) : Prop := ∃ cs, wr.ownsRow B 26 1 (.slice A k c) k cs ∧ ∀ j, j < k → LentAt wr B cs[j]? (ll.getD j [])
theorem LrR.nil (B : Nat) (wr : World) (ll : List (List B8)) : LrR B wr none 0 0 ll := ⟨[], World.ownsRow_nil _ _ _ _, fun _ hj => absurd hj (Nat.not_lt_zero _)⟩
theorem LentAt.ok {wr w' : World} {B : Nat} {v : Option Value} {xs : List B8} (h : LentAt wr B v xs) (o : Ok wr w') : LentAt w' B v xs := by
  obtain ⟨g, cap, h1, h2, h3⟩ := h
  exact ⟨g, cap, h1, h2, h3.ok o⟩
theorem LrR.ok {B : Nat} {wr w' : World} {A : Option Addr} {k c : Nat} {ll : List (List B8)} (h : LrR B wr A k c ll) (o : Ok wr w') : LrR B w' A k c ll := by
  obtain ⟨cs, h1, h2⟩ := h
  exact ⟨cs, own_stays h1 fun b hb => o.block b (World.ownsRow.lt h1 b hb).2, fun j hj => (h2 j hj).ok o⟩
theorem LrR.snoc {B : Nat} {wr w' : World} {A A' : Option Addr} {k c c' : Nat} {ll : List (List B8)} {v : Value} {cs : List Value} (h1 : wr.ownsRow B 26 1 (.slice A k c) k cs) (h2 : ∀ j, j < k → LentAt wr B cs[j]? (ll.getD j []))
    (hv : LentAt wr B (some v) (ll.getD k [])) (g1 : w'.ownsRow B 26 1 (.slice A' (k + 1) c') (k + 1) (cs ++ [v])) (hg : wr.grownBy w' (Value.slice A k c).ownBlock) : LrR B w' A' (k + 1) c' ll := by
  have hl : cs.length = k := by simpa using h1.1
  have keep : ∀ {v : Option Value} {xs : List B8}, LentAt wr B v xs → LentAt w' B v xs := fun ⟨g, cap, q1, q2, q3⟩ => ⟨g, cap, q1, q2, row_keep q3 h1 (by decide) hg⟩
  refine ⟨_, g1, fun j hj => ?_⟩
  by_cases hjk : j < k
  · rw [List.getElem?_append_left (by omega)]
    exact keep (h2 j hjk)
  · obtain rfl : j = k := by omega
    rw [List.getElem?_append_right (by omega), hl, Nat.sub_self]
    exact keep hv
theorem LrR.at {B : Nat} {wr : World} {A : Option Addr} {k c : Nat} {ll : List (List B8)} (h : LrR B wr A k c ll) (j : Nat) (hj : j < k) : ∃ q g cap, A = some ⟨q, 0, none⟩ ∧ B ≤ q ∧ q < wr.heap.size ∧ wr.cell? ⟨q, j, none⟩ = some (.slice (some ⟨g, 0, none⟩) (ll.getD j []).length cap) ∧ (ll.getD j []).length + 12 ≤ cap ∧ B ≤ g ∧ g < wr.heap.size ∧ OwnN wr B (.slice (some ⟨g, 0, none⟩) ((ll.getD j []).length + 12) cap) (ll.getD j [] ++ mks 12) := by
  obtain ⟨cs, h1, h2⟩ := h
  obtain ⟨g, cap, h3, h4, h5⟩ := h2 j hj
  have hg := World.ownsRow.lt h5 g rfl
  rcases own_form h1 with ⟨e, h0⟩ | ⟨q, cap', e⟩
  · omega
  · simp only [Value.slice.injEq] at e
    obtain ⟨rfl, -, rfl⟩ := e
    have hq := World.ownsRow.lt h1 q rfl
    refine ⟨q, g, cap, rfl, hq.1, hq.2, ?_, h4, hg.1, hg.2, h5⟩
    rw [World.ownsRow.cellAt h1 j (by omega)]
    exact h3
def LentRP (W : World) (ll : List (List B8)) (n : Nat) (e : Ending) (w' : World) : Prop := ∃ A c, e = .returned (.slice A n c) ∧ LrR W.heap.size w' A n c ll ∧ Ok W w'
set_option maxRecDepth 100000 in
set_option maxHeartbeats 4000000 in
theorem lentRows_w (W : World) (A0 : Option Addr) (n c0 : Nat) (ll : List (List B8)) (hr : RowsA W A0 ll) (hn : ll.length = n) (hl : n ≤ 1000000) (hx : ∀ k, k < ll.length → (ll.getD k []).length ≤ 1000000) :
    Calls Try.prog 12 #[.slice A0 n c0] W (LentRP W ll n) := by
  have HC := Lib.hid hr
  have HXL := Lib.hid hx
  have HN := Lib.hid hn
  clear hr hx hn
  go_enter Try.func12, Try.ntmps12
  go_wp2_with fail
  go_loopw [3, 4] (fun x i wr => ∃ (k : Nat) (A : Option Addr) (cc : Nat), k ≤ n ∧ i = .int .i64 k ∧ x = .slice A k cc ∧ LrR W.heap.size wr A k cc ll ∧ Ok W wr) (fun _ i _ => n - (intOf i).toNat)
  case atStart => exact ⟨0, none, 0, Nat.zero_le _, rfl, rfl, LrR.nil _ _ _, Ok.refl _⟩
  case round =>
    obtain ⟨k, A, cc, hk, rfl, rfl, hlr, hok⟩ := hrel
    have HLR := Lib.hid hlr
    have HOK := Lib.hid hok
    clear hlr hok
    by_cases hlt : k < n
    · obtain ⟨b, o, x, rfl, hx, hbx⟩ := HC.out k (by rw [HN.out]; exact hlt)
      have hx := HOK.out.cell hx
      obtain ⟨Ax, cx, rfl, _⟩ := hbx.form
      have HW := Lib.hid (lentB_w Ax _ cx _ rfl (HXL.out k (by rw [HN.out]; exact hlt)) _ (HOK.out.bytes hbx))
      clear hbx
      have hi0 : (0 : Int) ≤ (k : Int) := Int.natCast_nonneg _
      have hi1 : (k : Int) < (n : Int) := by omega
      generalize hxs : ll.getD k [] = xs at *
      have HXS := Lib.hid hxs
      clear hxs
      go_wp2_with fail
      refine HW.out.mono ?_
      rintro e w2 ⟨g, cap, rfl, hcap, hgw, hok2, how⟩
      have HLN2 : Hid (LentAt w2 W.heap.size (some (.slice (some ⟨g, 0, none⟩) xs.length cap)) xs) := Lib.hid ⟨g, cap, rfl, hcap, how.mono HOK.out.size⟩
      have HOK2 := Lib.hid (Ok.trans HOK.out hok2)
      have HLR2 := Lib.hid (HLR.out.ok hok2)
      clear how hok2 hcap hgw HW HLR
      have HOA : Hid (Ok w2 (w2.alloc (.cells #[.slice (some ⟨g, 0, none⟩) xs.length cap] 26))) := Lib.hid ((Ok.refl w2).alloc _)
      have HLN3 := Lib.hid (HLN2.out.ok HOA.out)
      have HLR3 := Lib.hid (HLR2.out.ok HOA.out)
      have HOK3 := Lib.hid (Ok.trans HOK2.out HOA.out)
      have HBK : Hid ((w2.alloc (.cells #[.slice (some ⟨g, 0, none⟩) xs.length cap] 26)).heap[w2.heap.size]? = some (.cells #[.slice (some ⟨g, 0, none⟩) xs.length cap] 26 (0, 0))) := Lib.hid (blk_new rfl)
      obtain ⟨cs, hcs1, hcs2⟩ := HLR3.out
      have HCS1 := Lib.hid hcs1
      have HCS2 := Lib.hid hcs2
      clear hcs1 hcs2 HLR2 HLN2 HLR3
      go_wp2_with (at_builtin; go_must (refine wpList_app1 rfl (.tmp 11) (.tmp 17) rfl W.heap.size A k cc cs rfl HCS1.out w2.heap.size (.slice (some ⟨g, 0, none⟩) xs.length cap) rfl rfl HBK.out (by omega) HOK3.out.size ?_; intro A' c' w6 h6 hbel6 hgr6; have HLR6 : Hid (LrR W.heap.size w6 A' (k + 1) c' ll) := Lib.hid (LrR.snoc HCS1.out HCS2.out (by rw [HXS.out]; exact HLN3.out) h6 hgr6); have HOK6 : Hid (Ok W w6) := Lib.hid (Below.trans HOK3.out hbel6); clear h6 hbel6 hgr6))
      go_roundw
      case rel => exact ⟨k + 1, A', c', by omega, by go_num, rfl, HLR6.out, HOK6.out⟩
      case measure => simp [intOf]; omega
    · have hke : k = n := by omega
      subst hke
      go_wp2_with fail
      go_ret
      exact ⟨A, cc, rfl, HLR.out, HOK.out⟩
def OkS (W w' : World) : Prop := Ok W w'
theorem Kc {W X : World} {a b : Addr} {v u : Value} (h : Ok W X) (ha : X.cell? a = some v) (hb : X.cell? b = some u) : X.cell? a = some v ∧ X.cell? b = some u ∧ OkS W X := ⟨ha, hb, h⟩
set_option maxRecDepth 100000 in
set_option maxHeartbeats 4000000 in
theorem keptRows_w (W : World) (B c : Nat) (A0 : Option Addr) (n c0 : Nat) (ll : List (List B8)) (A : Option Addr) (hlr : LrR B W A n c ll) (hr : RowsA W A0 ll) (hn : ll.length = n) (hl : n ≤ 1000000) (hx : ∀ k, k < ll.length → (ll.getD k []).length ≤ 1000000) :
    Calls Try.prog 21 #[.slice A n c, .slice A0 n c0] W (Ret W (.bool true)) := by
  have HC := Lib.hid hr
  have HXL := Lib.hid hx
  have HLR := Lib.hid hlr
  have HN := Lib.hid hn
  clear hr hx hlr hn
  have hne : ((n : Int) != n) = false := by simp
  go_enter Try.func21, Try.ntmps21
  go_wp2_with fail
  go_loopw [5] (fun i wr => ∃ k : Nat, k ≤ n ∧ i = .int .i64 k ∧ Ok W wr) (fun i _ => n - (intOf i).toNat)
  case atStart => exact ⟨0, Nat.zero_le _, rfl, Ok.refl _⟩
  case round =>
    obtain ⟨k, hk, rfl, hok⟩ := hrel
    have HOK := Lib.hid hok
    clear hok
    by_cases hlt : k < n
    · obtain ⟨b, o, x, rfl, hx, hbx⟩ := HC.out k (by rw [HN.out]; exact hlt)
      have hx := HOK.out.cell hx
      obtain ⟨Ax, cx, rfl, _⟩ := hbx.form
      have HB := Lib.hid (HOK.out.bytes hbx)
      have HLX := Lib.hid (HXL.out k (by rw [HN.out]; exact hlt))
      clear hbx
      obtain ⟨q, g', cap', rfl, hBq, hqs, hcg, hcap, hBg, hgs, hog⟩ := (HLR.out.ok HOK.out).at k hlt
      have HOG := Lib.hid hog
      have HCP := Lib.hid hcap
      clear hog hBq hqs hBg hgs hcap
      have hi0 : (0 : Int) ≤ (k : Int) := Int.natCast_nonneg _
      have hi1 : (k : Int) < (n : Int) := by omega
      have hok : Ok W wr := HOK.out
      generalize ll.getD k [] = xs at *
      generalize hLx : xs.length = L at *
      have HLL := Lib.hid hLx
      clear hLx
      have HKB : Hid (∀ w, Ok wr w → Calls Try.prog 90 #[.slice (some ⟨g', 0, none⟩) L cap', .slice Ax L cx] w fun e w' => e = .returned (.bool true) ∧ Ok w w') := Lib.hid fun w hw => keptB_w g' cap' Ax L cx B xs HLL.out HLX.out w HCP.out (HOG.out.ok hw) (hw.bytes HB.out)
      have kC0 := cell_regrown hcg
      have kD0 := cell_regrown hx
      have q1 : ∀ d os, Calls Try.prog 90 #[.slice (some ⟨g', 0, none⟩) L cap', .slice Ax L cx] (Go.Sort.grow (redrawn wr d) os) fun e w'' => e = .returned (.bool true) ∧ ∃ q : Regrown, w'' = Go.Sort.grow (redrawn wr q.d) q.os := fun d os => Calls.regrown_of (HKB.out _ (below_regrown wr d os))
      go_wp2_with fail
      refine wp_region_quiet_below (by kernel_rfl) (by kernel_rfl) ?_
      refine HeldF.out ?_
      repeat (
        refine hqF_step (fun K hK => ?_)
        go_simp
        first
          | (refine hK _ ?_; clear hK K)
          | (apply Exists.intro
             refine ⟨fun _ => ?_, hK _ ?_⟩
             (with_reducible exact q1 _ _)
             clear hK K))
      refine HeldF.mk (wpQuiet_nil ?_)
      intro _ hw'
      obtain ⟨⟨dq, osq⟩, hw''⟩ := hw'
      subst hw''
      have HO2 := Lib.hid (Ok.trans HOK.out (below_regrown wr dq osq))
      clear kC0 kD0 q1 hx hcg hok
      generalize Go.Sort.grow (redrawn wr dq) osq = w2 at *
      go_wp2_with fail
      exact ⟨⟨k + 1, by omega, by go_num, HO2.out⟩, by simp [intOf]; omega⟩
    · have hke : k = n := by omega
      subst hke
      go_wp2_with fail
      go_ret
      exact ⟨rfl, HOK.out⟩
end Go.Proofs.Ytolfdncmlfnbdaa
