/- Lists of bytes lent, kept, written over, copied: the contracts, for the letters. -/
import Derived.Test.YtolfdncmlfnbdaaUf
import Derived.Test.YtolfdncmlfnbdaaD
import Derived.Maps.AppendAt
import Derived.Laws.OwnMore
import Derived.Deep.OwnRows
import Derived.Lib.QuietBelow
import Derived.BigQuiet
import Derived.Deep.RegionHeld3
import Derived.Deep.DeepCutAuto
import Derived.Handy
import Derived.Maps.RangeWalk
namespace Go.Proofs.Ytolfdncmlfnbdaa
open Go.RowKit
open Go
theorem cell_of_heap {w : World} {b ty : Nat} {cs : Array Value} {fz : Nat × Nat} (h : w.heap[b]? = some (.cells cs ty fz)) (i : Nat) : w.cell? ⟨b, i, none⟩ = cs[i]? := by
  rw [cell_of_row _ _ _ _ _ _ h]
def Ret (w : World) (v : Value) (e : Ending) (w' : World) : Prop := e = .returned v ∧ Ok w w'
def mB (k i : Nat) : B8 := BitVec.ofNat 8 ((1000003 * (k + 7) + i) * 11400714819323198485 % 18446744073709551616 / 72057594037927936)
theorem ret_i64 {a b : Int} (h : a = b) : Ending.returned (.int .i64 a) = .returned (.int .i64 b) := by rw [h]
theorem ret_u8 {a b : Int} (h : a = b) : Ending.returned (.int .u8 a) = .returned (.int .u8 b) := by rw [h]
theorem mB_val (m : Nat) : IntKind.u64.wrap ((m : Int) * 11400714819323198485) / 72057594037927936 % 256 = ub (BitVec.ofNat 8 (m * 11400714819323198485 % 18446744073709551616 / 72057594037927936)) := by
  rw [IntKind.wrap_u64, ub, BitVec.toNat_ofNat]
  have e : ((m : Int) * 11400714819323198485) = ((m * 11400714819323198485 : Nat) : Int) := by simp
  rw [e]
  generalize m * 11400714819323198485 = q
  omega
set_option maxHeartbeats 1000000 in
theorem markN_w (k i : Nat) (hk : k ≤ 1000000000) (hi : i ≤ 1000000000000) (w : World) : Calls Try.prog 101 #[.int .i64 (k : Int), .int .i64 (i : Int)] w fun e w' => e = .returned (.int .i64 ((1000003 * (k + 7) + i : Nat) : Int)) ∧ w = w' := by
  have k0 : (0 : Int) ≤ (k : Int) := Int.natCast_nonneg _
  have k1 : (k : Int) ≤ 1000000000 := by omega
  have i0 : (0 : Int) ≤ (i : Int) := Int.natCast_nonneg _
  have i1 : (i : Int) ≤ 1000000000000 := by omega
  go_enter Try.func101, Try.ntmps101
  go_wp2_with fail
  go_ret
  exact ⟨ret_i64 (by omega), rfl⟩
set_option maxHeartbeats 1000000 in
theorem markByte_w (k i : Nat) (hk : k ≤ 1000000000) (hi : i ≤ 1000000000000) (w : World) : Calls Try.prog 93 #[.int .i64 (k : Int), .int .i64 (i : Int)] w fun e w' => e = .returned (.int .u8 (ub (mB k i))) ∧ w = w' := by
  have HM := Lib.hid (fun V => markN_w k i hk hi V)
  have hb : 1000003 * (k + 7) + i ≤ 1001004003007000000 := by omega
  have HB := Lib.hid (mB_val (1000003 * (k + 7) + i))
  have HE : Hid (mB k i = BitVec.ofNat 8 ((1000003 * (k + 7) + i) * 11400714819323198485 % 18446744073709551616 / 72057594037927936)) := Lib.hid rfl
  generalize 1000003 * (k + 7) + i = m at *
  have m0 : (0 : Int) ≤ (m : Int) := Int.natCast_nonneg _
  have m1 : (m : Int) ≤ 1001004003007000000 := by omega
  clear hk hi hb
  go_enter Try.func93, Try.ntmps93
  go_wp2_with fail
  (with_reducible refine (HM.out _).mono ?_)
  rintro _ w2 ⟨rfl, rfl⟩
  go_wp2_with fail
  go_ret
  exact ⟨ret_u8 (by rw [HE.out]; exact HB.out), rfl⟩
theorem own_form {w : World} {base e size n : Nat} {v : Value} {xs : List Value} (h : w.ownsRow base e size v n xs) : (v = .slice none 0 0 ∧ n = 0) ∨ ∃ g cap, v = .slice (some ⟨g, 0, none⟩) n cap := by
  rcases h.2 with h | ⟨g, cap, cur, e, _⟩
  · exact .inl h
  · exact .inr ⟨g, cap, e⟩
/-- At most block g has turned of what was there, and nothing is new. -/
def Only (g : Nat) (w w' : World) : Prop := w'.os = w.os ∧ w'.tape = w.tape ∧ w'.output = w.output ∧ w'.heap.size = w.heap.size ∧ ∀ k, k ≠ g → w'.heap[k]? = w.heap[k]?
theorem Only.refl (g : Nat) (w : World) : Only g w w := ⟨rfl, rfl, rfl, rfl, fun _ _ => rfl⟩
theorem Only.trans {g : Nat} {a b c : World} (h : Only g a b) (k : Only g b c) : Only g a c :=
  ⟨k.1.trans h.1, k.2.1.trans h.2.1, k.2.2.1.trans h.2.2.1, k.2.2.2.1.trans h.2.2.2.1, fun i hi => (k.2.2.2.2 i hi).trans (h.2.2.2.2 i hi)⟩
theorem Only.set {g : Nat} {a b : World} (h : Only g a b) (o : Nat) (v : Value) : Only g a (b.setCell ⟨g, o, none⟩ v) :=
  h.trans ⟨rfl, rfl, rfl, by simp [World.setCell], fun k hk => heap_setCell_other b ⟨g, o, none⟩ k v hk⟩
theorem Only.below {g : Nat} {a b : World} (h : Only g a b) {B : Nat} (hB : B ≤ g) : Below B a b :=
  ⟨h.1, h.2.1, h.2.2.1, Nat.le_of_eq h.2.2.2.1.symm, fun k hk => h.2.2.2.2 k (by omega)⟩
theorem OwnN.ok {w w' : World} {B : Nat} {v : Value} {xs : List B8} (h : OwnN w B v xs) (k : Ok w w') : OwnN w' B v xs := by
  refine World.ownsRow.kept (row := none) h ⟨k.os, k.tape, k.output, k.size, fun i hi _ => k.block i hi⟩ ?_
  cases Value.ownBlock v with
  | none => exact .inl rfl
  | some b => exact .inr (fun e => by cases e)
structure HeldF (p : Prop) : Prop where
  out : p
theorem hqF_step {P : Program} {ops : Array Oper} {C : World → Prop} {Q : Act → Prop} {a : Act} {o : Oper} {rest : List Oper}
    (h : ∀ K : Act → Prop, (∀ a, HeldF (wpQuiet P ops C Q rest a) → K a) → if Region.wanted o (yielded ops a.tmps) then o.quiet P a C K else K (a.put o.dst undef)) : HeldF (wpQuiet P ops C Q (o :: rest) a) :=
  ⟨h (fun a => wpQuiet P ops C Q rest a) (fun _ h => h.out)⟩
theorem mark_q (k i : Nat) (hk : k ≤ 1000000000) (hi : i ≤ 1000000000000) (w : World) (d : Nat) (os : Array Obj) : Calls Try.prog 93 #[.int .i64 (k : Int), .int .i64 (i : Int)] (Go.Sort.grow (redrawn w d) os) fun e w'' => e = .returned (.int .u8 (ub (mB k i))) ∧ ∃ q : Regrown, w'' = Go.Sort.grow (redrawn w q.d) q.os :=
  Calls.regrown_of ((markByte_w k i hk hi _).mono fun _ _ ⟨he, hw⟩ => ⟨he, by rw [← hw]; exact Below.refl _ _⟩)
/-- Bytes of the call's own, told alone. -/
def RowBP (w : World) (xs : List B8) (e : Ending) (w' : World) : Prop := ∃ A c, e = .returned (.slice A xs.length c) ∧ OwnN w' w.heap.size (.slice A xs.length c) xs ∧ Ok w w'
theorem wpList_appG {ops : Array Oper} {rest : List Oper} {o : Oper} {a : Act} {w : World} {Q : Exit → Act → World → Prop} (hgd : o.guard = none) (s x : Operand)
    (ho : o.op = .call { callee := .builtin .append, args := #[s, x], argTypes := #[26, 26] })
    (base : Nat) (v : Value) (xs ys : List B8) (vx : Value) (hs : a.eval s = v) (hx : a.eval x = vx) (hown : OwnN w base v xs) (hy : BytesIn w vx ys)
    (hlen : xs.length + ys.length ≤ 140737488351262) (hbase : base ≤ w.heap.size)
    (h : ∀ A N c w', OwnN w' base (.slice A N c) (xs ++ ys) → Below base w w' → w.grownBy w' v.ownBlock → wpList Try.prog ops Q rest (a.put o.dst (.slice A N c)) w') : wpList Try.prog ops Q (o :: rest) a w := by
  obtain ⟨i0, hi, hz0, hz1, hz2⟩ := info_parts info5
  have hlate : ∀ v' w', w'.ownsRow base 5 1 v' (xs.length + ys.length) (xs.map bv ++ ys.map bv) → w.grownBy w' v.ownBlock → wpList Try.prog ops Q rest (a.put o.dst v') w' := by
    intro v' w' h2 h3
    have hb : Below base w w' := (Below.refl base w).grown h3 hbase (fun k hk => (World.ownsRow.lt hown k hk).1)
    have h2' : OwnN w' base v' (xs ++ ys) := by unfold OwnN; rw [List.map_append, List.length_append]; exact h2
    obtain ⟨A, c, rfl⟩ := h2'.form
    exact h A _ c w' h2' hb h3
  rcases hy with ⟨rfl, A, c, rfl, hA⟩ | ⟨b, off, c, rfl, _, hm, hc⟩
  · cases A with
    | some ad =>
      refine wpList_append_own _ hgd s x 26 ho base 5 i0 (.int .u8 0) 1 1 Try.underlying26 hi hz0 hz1 hz2 rfl (by decide) _ xs.length (xs.map bv) hs hown ad 0 c [] hx rfl (fun j u hu => by simp at hu) (fun u hu => by simp at hu) (by unfold maxLen; simp at hlen; omega) (by simp at hlen; omega) hbase ?_
      intro v' w' h2 h3 _
      exact hlate v' w' h2 h3
    | none =>
      obtain rfl := hA rfl
      refine wpList_append_own_none hgd s x 26 ho base 5 i0 1 Try.underlying26 hi _ xs.length (xs.map bv) hs hown hx ?_
      exact hlate v w (by have := hown; unfold OwnN at this; simpa using this) ⟨rfl, rfl, rfl, Nat.le_refl _, fun _ _ _ => rfl⟩
  · refine wpList_append_own _ hgd s x 26 ho base 5 i0 (.int .u8 0) 1 1 Try.underlying26 hi hz0 hz1 hz2 rfl (by decide) _ xs.length (xs.map bv) hs hown ⟨b, off, none⟩ ys.length c (ys.map bv) hx (by simp) ?_ ?_ (by unfold maxLen; omega) (by omega) hbase ?_
    · intro j u hu
      have hj : j < ys.length := by
        by_cases hl : j < ys.length
        · exact hl
        · rw [List.getElem?_eq_none (by simp; omega)] at hu; cases hu
      have e : (⟨b, off, none⟩ : Addr).add j = ⟨b, off + j, none⟩ := by unfold Addr.add; split <;> simp_all
      rw [e, hc j hj, ← hu]
      simp [hj, bv]
    · intro u hu
      obtain ⟨y, _, rfl⟩ := List.mem_map.1 hu
      rfl
    · intro v' w' h2 h3 _
      exact hlate v' w' h2 h3
theorem OwnN.len' {w : World} {B : Nat} {A : Option Addr} {n c : Nat} {xs : List B8} (h : OwnN w B (.slice A n c) xs) : xs.length = n := by
  rcases own_form h with ⟨e, h0⟩ | ⟨g, cap, e⟩
  · simp only [Value.slice.injEq] at e; omega
  · simp only [Value.slice.injEq] at e; exact e.2.1.symm
theorem OwnN.cell {w : World} {B g c n : Nat} {xs : List B8} (h : OwnN w B (.slice (some ⟨g, 0, none⟩) n c) xs) (j : Nat) (hj : j < xs.length) : w.cell? ⟨g, j, none⟩ = some (.int .u8 (ub (xs.getD j 0#8))) ∧ w.frozen? ⟨g, j, none⟩ = false := by
  obtain rfl := h.len'
  refine ⟨?_, World.ownsRow.frozenAt h j⟩
  rw [World.ownsRow.cellAt h j (by omega)]
  simp [hj, bv]
def mks (n : Nat) : List B8 := (List.range n).map (mB 1)
theorem mks_len (m : Nat) : (mks m).length = m := by simp [mks]
theorem mks_succ (m : Nat) : mks (m + 1) = mks m ++ [mB 1 m] := by simp [mks, List.range_succ]
def LentBP (w : World) (n : Nat) (zs : List B8) : Ending → World → Prop := fun e w' => ∃ g cap, e = .returned (.slice (some ⟨g, 0, none⟩) n cap) ∧ n + 12 ≤ cap ∧ w.heap.size ≤ g ∧ Ok w w' ∧ OwnN w' w.heap.size (.slice (some ⟨g, 0, none⟩) (n + 12) cap) (zs ++ mks 12)
theorem OwnN.capd {w : World} {B : Nat} {A : Option Addr} {n c : Nat} {xs : List B8} (h : OwnN w B (.slice A n c) xs) (hp : 0 < n) : ∃ g, A = some ⟨g, 0, none⟩ ∧ n ≤ c ∧ B ≤ g := by
  have hl := h.len'
  rcases h.2 with ⟨e, h5⟩ | ⟨g, cap, cur, e, r1, r2, r3, r4, r5⟩
  · omega
  · simp only [Value.slice.injEq] at e
    obtain ⟨rfl, -, rfl⟩ := e
    exact ⟨g, rfl, by omega, r1⟩
set_option maxRecDepth 100000 in
set_option maxHeartbeats 4000000 in
theorem lentB_w (A : Option Addr) (n c : Nat) (zs : List B8) (hn : zs.length = n) (hn6 : n ≤ 1000000) (w : World) (hI : BytesIn w (.slice A n c) zs) : Calls Try.prog 23 #[.slice A n c] w (LentBP w n zs) := by
  have H := Lib.hid hI
  have HN := Lib.hid hn
  clear hI hn
  obtain ⟨i0, hi, hz0, hz1, hz2⟩ := info_parts info5
  have HI := Lib.hid hi
  have HZ0 := Lib.hid hz0
  have HZ1 := Lib.hid hz1
  have HZ2 := Lib.hid hz2
  clear hi hz0 hz1 hz2
  go_enter Try.func23, Try.ntmps23
  go_wp2_with (first
    | (at_make; go_must (refine wpList_make_own _ rfl _ _ 26 rfl w.heap.size 5 i0 (.int .u8 0) 1 Try.underlying26 HI.out HZ0.out HZ1.out .i64 .i64 _ (n + 12) rfl rfl (by first | rfl | simp | (push_cast; omega)) (by rw [HZ2.out]; omega) (by unfold maxLen; omega) (Nat.le_refl _) ?_; intro w0 hown0 hgrow0; have HOW0 : Hid (OwnN w0 w.heap.size (.slice (some ⟨w.heap.size, 0, none⟩) 0 (n + 12)) []) := Lib.hid hown0; have HB0 : Hid (Ok w w0) := Lib.hid ((Below.refl _ _).grown hgrow0 (Nat.le_refl _) (fun k hk => by cases hk)); clear hown0 hgrow0))
    | (at_builtin; go_must (refine wpList_appG rfl (.tmp 9) (.tmp 10) rfl w.heap.size (.slice (some ⟨w.heap.size, 0, none⟩) 0 (n + 12)) [] zs (.slice A n c) rfl rfl HOW0.out (HB0.out.bytes H.out) (by rw [HN.out]; simp; omega) HB0.out.size ?_; intro A1 N1 c1 w1 hown1 hbel1 hgr1; simp only [List.nil_append] at hown1; have HOW1 := Lib.hid hown1; have HB1 : Hid (Ok w w1) := Lib.hid (Below.trans HB0.out hbel1); clear hown1 hbel1 hgr1)))
  go_loopw [3, 4] (fun o i wr => ∃ (j : Nat) (A2 : Option Addr) (n2 c2 : Nat), j ≤ 12 ∧ i = .int .i64 j ∧ o = .slice A2 n2 c2 ∧ OwnN wr w.heap.size (.slice A2 n2 c2) (zs ++ mks j) ∧ Ok w wr) (fun _ i _ => 12 - (intOf i).toNat)
  case atStart => exact ⟨0, A1, N1, c1, by omega, rfl, rfl, by simpa [mks] using HOW1.out, HB1.out⟩
  case round =>
    obtain ⟨j, A2, n2, c2, hj, rfl, rfl, hown, hok⟩ := hrel
    have HOW := Lib.hid hown
    have HOK := Lib.hid hok
    clear hown hok HOW1 HB1 HOW0 HB0
    by_cases hlt : j < 12
    · have HMS := Lib.hid (mks_succ j)
      have HL : Hid ((zs ++ mks j).length = n + j) := Lib.hid (by rw [List.length_append, mks_len, HN.out])
      have hd : decide ((j : Int) < 12) = true := decide_eq_true (by omega)
      have hmk : ∀ w', Calls Try.prog 93 #[.int .i64 1, .int .i64 (j : Int)] w' fun e w'' => e = .returned (.int .u8 (ub (mB 1 j))) ∧ w' = w'' := fun w' => markByte_w 1 j (by decide) (by omega) w'
      generalize mB 1 j = mb at *
      go_wp2_with fail
      refine (hmk _).mono ?_
      rintro e w2 ⟨rfl, rfl⟩
      have HOA : Hid (Ok wr (wr.alloc (.cells #[.int .u8 (ub mb)] 5))) := Lib.hid ((Ok.refl wr).alloc _)
      have HOWA : Hid (OwnN (wr.alloc (.cells #[.int .u8 (ub mb)] 5)) w.heap.size (.slice A2 n2 c2) (zs ++ mks j)) := Lib.hid (HOW.out.ok HOA.out)
      have HOK2 := Lib.hid (Ok.trans HOK.out HOA.out)
      have HNB : Hid (BytesIn (wr.alloc (.cells #[.int .u8 (ub mb)] 5)) (.slice (some ⟨wr.heap.size, 0, none⟩) 1 1) [mb]) := Lib.hid (bytes_new wr [mb] _ 5 (0, 0) _ 1 1 rfl rfl (Nat.le_refl _) (by simp) rfl)
      go_wp2_with (at_builtin; go_must (refine wpList_appG rfl (.tmp 16) (.tmp 19) rfl w.heap.size (.slice A2 n2 c2) (zs ++ mks j) [mb] (.slice (some ⟨wr.heap.size, 0, none⟩) 1 1) rfl rfl HOWA.out HNB.out (by rw [HL.out]; simp; omega) HOK2.out.size ?_; intro A3 N3 c3 w3 hown3 hbel3 hgr3; have HOW3 := Lib.hid hown3; have HB3 : Hid (Ok w w3) := Lib.hid (Below.trans HOK2.out hbel3); clear hown3 hbel3 hgr3))
      go_roundw
      case rel => exact ⟨j + 1, A3, N3, c3, by omega, by go_num, rfl, by rw [HMS.out, ← List.append_assoc]; exact HOW3.out, HB3.out⟩
      case measure => simp [intOf]; omega
    · have hje : j = 12 := by omega
      subst hje
      have hl : (zs ++ mks 12).length = n + 12 := by rw [List.length_append, mks_len, HN.out]
      have hn2 : n2 = n + 12 := by rw [← HOW.out.len', hl]
      subst hn2
      obtain ⟨g, rfl, hcap, hg⟩ := HOW.out.capd (by omega)
      have hi1 : (n : Int) ≤ (c2 : Int) := by omega
      have hn0 : (0 : Int) ≤ (n : Int) := by omega
      have HFIN : Hid (∀ e, e = .returned (.slice (some ⟨g, 0, none⟩) n c2) → LentBP w n zs e wr) := Lib.hid fun e he => ⟨g, c2, he, hcap, hg, HOK.out, HOW.out⟩
      clear hl hg hcap HOW
      go_wp2_with fail
      go_ret
      exact HFIN.out _ rfl
theorem mks_at0 (zs : List B8) (j : Nat) (h : j < zs.length) : (zs ++ mks 12).getD j 0#8 = zs.getD j 0#8 := by
  simp only [List.getD, List.getElem?_append_left h]
theorem mks_at1 (zs : List B8) (j : Nat) (h : j < 12) : (zs ++ mks 12).getD (zs.length + j) 0#8 = mB 1 j := by
  simp [mks, h]
set_option maxRecDepth 100000 in
set_option maxHeartbeats 4000000 in
theorem keptB_w (g cap : Nat) (A : Option Addr) (n c B : Nat) (zs : List B8) (hn : zs.length = n) (hn6 : n ≤ 1000000) (w : World) (hcap : n + 12 ≤ cap)
    (hG : OwnN w B (.slice (some ⟨g, 0, none⟩) (n + 12) cap) (zs ++ mks 12)) (hI : BytesIn w (.slice A n c) zs) :
    Calls Try.prog 90 #[.slice (some ⟨g, 0, none⟩) n cap, .slice A n c] w (Ret w (.bool true)) := by
  have HG := Lib.hid hG
  have HI := Lib.hid hI
  have HN := Lib.hid hn
  have HL : Hid ((zs ++ mks 12).length = n + 12) := Lib.hid (by rw [List.length_append, mks_len, hn])
  clear hG hI hn
  have s1 : wrap64 ((n : Int) + 12) = (n : Int) + 12 := by simp only [wrap64]; omega
  have s3 : (0 : Int) ≤ (n : Int) + 12 := by omega
  have s4 : (n : Int) + 12 ≤ (cap : Int) := by omega
  have s5 : ((n : Int) + 12).toNat = n + 12 := by omega
  go_enter Try.func90, Try.ntmps90
  go_wp2_with fail
  go_loopw [6] (fun i wr => ∃ k : Nat, k ≤ n + 12 ∧ i = .int .i64 k ∧ Ok w wr) (fun i _ => n + 12 - (intOf i).toNat)
  case atStart => exact ⟨0, Nat.zero_le _, rfl, Ok.refl _⟩
  case round =>
    obtain ⟨k, hk, rfl, okr⟩ := hrel
    have HOKR := Lib.hid okr
    clear okr
    by_cases hlt : k < n + 12
    · have d1 : decide ((k : Int) < (n : Int) + 12) = true := decide_eq_true (by omega)
      have C0 := ((HG.out.ok HOKR.out).cell k (by rw [HL.out]; exact hlt)).1
      have hi0 : (0 : Int) ≤ (k : Int) := Int.natCast_nonneg _
      have hi1 : (k : Int) < (n : Int) + 12 := by omega
      have hek : IntKind.i64.wrap ((k : Int) + 1) = (k : Int) + 1 := IntWalk.i64_in _ (by omega)
      have HLT : Hid (n + 12 - ((k : Int) + 1).toNat < n + 12 - (k : Int).toNat) := Lib.hid (by omega)
      by_cases h2 : k < n
      · have d2 : decide ((k : Int) < (n : Int)) = true := decide_eq_true (by omega)
        have d3 : decide (n ≤ k) = false := decide_eq_false (by omega)
        obtain ⟨-, b, off, rfl, D0⟩ := same_cells (HOKR.out.bytes HI.out) rfl k h2
        rw [mks_at0 zs k (by rw [HN.out]; exact h2)] at C0
        generalize zs.getD k 0#8 = y at C0 D0
        have hi2 : (k : Int) < (n : Int) := by omega
        have kC0 := cell_regrown C0
        have kD0 := cell_regrown D0
        go_wp2_with fail
        refine wp_region_quiet_below (by kernel_rfl) (by kernel_rfl) ?_
        refine HeldF.out ?_
        repeat (
          refine hqF_step (fun K hK => ?_)
          go_simp
          (refine hK _ ?_; clear hK K))
        refine HeldF.mk (wpQuiet_nil ?_)
        intro _ hw'
        obtain ⟨⟨dq, osq⟩, hw''⟩ := hw'
        subst hw''
        have HO2 := Lib.hid (Ok.trans HOKR.out (below_regrown wr dq osq))
        clear kC0 kD0 C0 D0
        generalize Go.Sort.grow (redrawn wr dq) osq = w2 at *
        go_wp2_with fail
        exact ⟨⟨k + 1, hlt, rfl, HO2.out⟩, HLT.out⟩
      · obtain ⟨j, hj⟩ : ∃ j, k = n + j := ⟨k - n, by omega⟩
        have hj12 : j < 12 := by omega
        have d2 : decide ((k : Int) < (n : Int)) = false := decide_eq_false (by omega)
        have d3 : decide (n ≤ k) = true := decide_eq_true (by omega)
        have s2 : wrap64 ((k : Int) - (n : Int)) = (j : Int) := by simp only [wrap64]; omega
        have s6 : IntKind.i64.wrap ((k : Int) - (n : Int)) = (j : Int) := by simp only [IntKind.wrap_i64]; omega
        have e0 : (zs ++ mks 12).getD k 0#8 = mB 1 j := by rw [hj, ← HN.out]; exact mks_at1 zs j hj12
        rw [e0] at C0
        have q1 : ∀ d os, Calls Try.prog 93 #[.int .i64 1, .int .i64 (j : Int)] (Go.Sort.grow (redrawn wr d) os) fun e w'' => e = .returned (.int .u8 (ub (mB 1 j))) ∧ ∃ q : Regrown, w'' = Go.Sort.grow (redrawn wr q.d) q.os := fun d os => mark_q 1 j (by decide) (by omega) wr d os
        generalize mB 1 j = mb at *
        clear e0 hj
        have kC0 := cell_regrown C0
        go_wp2_with fail
        refine wp_region_quiet_below (by kernel_rfl) (by kernel_rfl) ?_
        refine HeldF.out ?_
        repeat (
          refine hqF_step (fun K hK => ?_)
          go_simp
          first
            | (refine hK _ ?_; clear hK K)
            | (apply Exists.intro
               refine ⟨fun _ => ?_, hK _ ?_⟩
               (with_reducible exact q1 _ _)
               clear hK K))
        refine HeldF.mk (wpQuiet_nil ?_)
        intro _ hw'
        obtain ⟨⟨dq, osq⟩, hw''⟩ := hw'
        subst hw''
        have HO2 := Lib.hid (Ok.trans HOKR.out (below_regrown wr dq osq))
        clear kC0 C0 q1
        generalize Go.Sort.grow (redrawn wr dq) osq = w2 at *
        go_wp2_with fail
        exact ⟨⟨k + 1, hlt, rfl, HO2.out⟩, HLT.out⟩
    · have d1 : decide ((k : Int) < (n : Int) + 12) = false := decide_eq_false (by omega)
      go_wp2
      go_ret
      exact ⟨rfl, HOKR.out⟩
/-- A row of bytes that may be written over. -/
def Open (w : World) (g c : Nat) : Prop := ∃ cur, w.heap[g]? = some (.cells cur 5 (0, 0)) ∧ cur.size = c
theorem Open.set {w : World} {g c : Nat} (h : Open w g c) (j : Nat) (v : Value) : Open (w.setCell ⟨g, j, none⟩ v) g c := by
  obtain ⟨cur, h1, h2⟩ := h
  refine ⟨cur.setIfInBounds j v, ?_, by simp [h2]⟩
  simp [World.setCell, Array.getElem?_modify, h1]
theorem Open.cells {w : World} {g c : Nat} (h : Open w g c) (j : Nat) (hj : j < c) : (∃ x, w.cell? ⟨g, j, none⟩ = some x) ∧ w.frozen? ⟨g, j, none⟩ = false := by
  obtain ⟨cur, h1, h2⟩ := h
  refine ⟨?_, ?_⟩
  · rw [cell_of_heap h1]
    exact ⟨cur[j]'(by omega), by simp [h2, hj]⟩
  · rw [World.frozen?, h1]; simp
theorem OwnN.open {w : World} {B g n c : Nat} {xs : List B8} (h : OwnN w B (.slice (some ⟨g, 0, none⟩) n c) xs) : Open w g c := by
  rcases h.2 with ⟨e, _⟩ | ⟨g', cap, cur, e, r1, r2, r3, r4, r5, r6⟩
  · cases e
  · simp only [Value.slice.injEq, Option.some.injEq, Addr.mk.injEq, and_true] at e
    obtain ⟨rfl, -, rfl⟩ := e
    exact ⟨cur, r2, by omega⟩
def OverBP (g : Nat) (w : World) (e : Ending) (w' : World) : Prop := e = .returned (.tuple #[]) ∧ Only g w w'
set_option maxRecDepth 100000 in
set_option maxHeartbeats 4000000 in
theorem overBytes_w (g n c : Nat) (w : World) (hn : n ≤ 1000000) (hc : n + 12 ≤ c) (hcm : c ≤ 9223372036854775807) (hO : Open w g c) : Calls Try.prog 25 #[.slice (some ⟨g, 0, none⟩) n c] w (OverBP g w) := by
  have HR := Lib.hid hO
  clear hO
  have s1 : wrap64 ((n : Int) + 12) = (n : Int) + 12 := by simp only [wrap64]; omega
  by_cases hcn : (n : Int) + 12 < (c : Int)
  · obtain ⟨k, hk⟩ : ∃ k : Nat, (n : Int) + 12 = (k : Int) := ⟨n + 12, by omega⟩
    rw [hk] at hcn s1
    have d1 : decide ((k : Int) < (c : Int)) = true := decide_eq_true hcn
    have d2 : decide (k < c) = true := decide_eq_true (by omega)
    have hk0 : (0 : Int) ≤ (k : Int) := Int.natCast_nonneg _
    have hki : (k : Int) ≤ (c : Int) := by omega
    have hkn : k ≤ 1000012 := by omega
    clear hc
    go_enter Try.func25, Try.ntmps25
    go_wp2_with fail
    go_loopw [3] (fun i wr => ∃ j : Nat, j ≤ k ∧ i = .int .i64 j ∧ Only g w wr ∧ Open wr g c) (fun i _ => k - (intOf i).toNat)
    case atStart => exact ⟨0, Nat.zero_le _, rfl, Only.refl _ _, HR.out⟩
    case round =>
      obtain ⟨j, hj, rfl, hbel, hop⟩ := hrel
      have HBL := Lib.hid hbel
      have HOP := Lib.hid hop
      clear hbel hop
      by_cases hlt : j < k
      · obtain ⟨⟨x, hx⟩, hf⟩ := HOP.out.cells j (by omega)
        have hj0 : (0 : Int) ≤ (j : Int) := Int.natCast_nonneg _
        have hj1 : (j : Int) < (k : Int) := by omega
        have hmk := fun w' => markByte_w 2 j (by omega) (by omega) w'
        have HFIN : Hid (∀ y, Only g w (wr.setCell ⟨g, j, none⟩ y) ∧ Open (wr.setCell ⟨g, j, none⟩ y) g c) := Lib.hid fun y => ⟨HBL.out.set _ _, HOP.out.set _ _⟩
        go_wp2_with fail
        refine (hmk _).mono ?_
        rintro e w2 ⟨rfl, rfl⟩
        go_wp2_with fail
        go_roundw
        case rel => exact ⟨j + 1, by omega, by go_num, (HFIN.out _).1, (HFIN.out _).2⟩
        case measure => simp [intOf]; omega
      · have hje : j = k := by omega
        subst hje
        go_wp2_with fail
        go_end0
        exact ⟨rfl, HBL.out⟩
  · have d1 : decide ((n : Int) + 12 < (c : Int)) = false := decide_eq_false hcn
    have hc0 : (0 : Int) ≤ (c : Int) := Int.natCast_nonneg _
    have hkn : c ≤ 1000012 := by omega
    go_enter Try.func25, Try.ntmps25
    go_wp2_with fail
    go_loopw [3] (fun i wr => ∃ j : Nat, j ≤ c ∧ i = .int .i64 j ∧ Only g w wr ∧ Open wr g c) (fun i _ => c - (intOf i).toNat)
    case atStart => exact ⟨0, Nat.zero_le _, rfl, Only.refl _ _, HR.out⟩
    case round =>
      obtain ⟨j, hj, rfl, hbel, hop⟩ := hrel
      have HBL := Lib.hid hbel
      have HOP := Lib.hid hop
      clear hbel hop
      by_cases hlt : j < c
      · obtain ⟨⟨x, hx⟩, hf⟩ := HOP.out.cells j (by omega)
        have hj0 : (0 : Int) ≤ (j : Int) := Int.natCast_nonneg _
        have hj1 : (j : Int) < (c : Int) := by omega
        have hmk := fun w' => markByte_w 2 j (by omega) (by omega) w'
        have HFIN : Hid (∀ y, Only g w (wr.setCell ⟨g, j, none⟩ y) ∧ Open (wr.setCell ⟨g, j, none⟩ y) g c) := Lib.hid fun y => ⟨HBL.out.set _ _, HOP.out.set _ _⟩
        go_wp2_with fail
        refine (hmk _).mono ?_
        rintro e w2 ⟨rfl, rfl⟩
        go_wp2_with fail
        go_roundw
        case rel => exact ⟨j + 1, by omega, by go_num, (HFIN.out _).1, (HFIN.out _).2⟩
        case measure => simp [intOf]; omega
      · have hje : j = c := by omega
        subst hje
        go_wp2_with fail
        go_end0
        exact ⟨rfl, HBL.out⟩
set_option maxRecDepth 100000 in
set_option maxHeartbeats 1000000 in
theorem copyBytes_w (W : World) (v : Value) (xs : List B8) (h : BytesIn W v xs) (_hx : xs.length ≤ 140737488350000) :
    Calls Try.prog 26 #[v] W (RowBP W xs) := by
  obtain ⟨A, c, rfl, _⟩ := h.form
  have HB := Lib.hid h
  have HON : Hid (OwnN W W.heap.size (.slice none 0 0) []) := Lib.hid (World.ownsRow_nil _ _ _ _)
  clear h
  go_enter Try.func26, Try.ntmps26
  go_wp2_with (at_builtin; go_must (refine wpList_app rfl (.tmp 4) (.tmp 5) rfl W.heap.size (.slice none 0 0) [] xs (.slice A xs.length c) rfl rfl HON.out HB.out (by simp; omega) (Nat.le_refl _) ?_; intro A' c' w2 hown2 hbel2; simp only [List.nil_append, List.length_nil, Nat.zero_add] at hown2 ⊢; have HOWN2 := Lib.hid hown2; have HBEL2 := Lib.hid hbel2; clear hown2 hbel2))
  go_ret
  exact ⟨A', c', rfl, HOWN2.out, HBEL2.out⟩
end Go.Proofs.Ytolfdncmlfnbdaa
