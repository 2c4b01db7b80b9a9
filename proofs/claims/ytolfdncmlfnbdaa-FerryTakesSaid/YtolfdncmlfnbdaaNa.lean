/- Two ferries side by side. -/
import Derived.Test.YtolfdncmlfnbdaaIf
import Derived.Test.YtolfdncmlfnbdaaIh
import Derived.Test.YtolfdncmlfnbdaaM8
import Derived.Test.YtolfdncmlfnbdaaM3
import Derived.Test.YtolfdncmlfnbdaaKf
import Derived.Test.YtolfdncmlfnbdaaKd
import Derived.Test.YtolfdncmlfnbdaaLa
import Derived.Test.YtolfdncmlfnbdaaKt
namespace Go.Proofs.Ytolfdncmlfnbdaa
open Go.RowKit

/-- Of the blocks that stand only these may have other cells; each one's shape stays. -/
structure Tch (P : Nat → Prop) (w w' : World) : Prop where
  os : w'.os = w.os
  tape : w'.tape = w.tape
  output : w'.output = w.output
  size : w.heap.size ≤ w'.heap.size
  same : ∀ b, b < w.heap.size → ¬ P b → w'.heap[b]? = w.heap[b]?
  shape : ∀ (b : Nat) (cs : Array Value) (ty : Nat) (fz : Nat × Nat), w.heap[b]? = some (.cells cs ty fz) → ∃ cs', w'.heap[b]? = some (.cells cs' ty fz) ∧ cs'.size = cs.size
theorem Tch.refl (P : Nat → Prop) (w : World) : Tch P w w := ⟨rfl, rfl, rfl, Nat.le_refl _, fun _ _ _ => rfl, fun _ cs _ _ h => ⟨cs, h, rfl⟩⟩
theorem Tch.ok {P : Nat → Prop} {w w' : World} (k : Ok w w') : Tch P w w' :=
  ⟨k.os, k.tape, k.output, k.size, fun b hb _ => k.block b hb, fun _ cs _ _ h => ⟨cs, blk_ok k h, rfl⟩⟩
theorem Tch.trans {P : Nat → Prop} {a b c : World} (h : Tch P a b) (k : Tch P b c) : Tch P a c :=
  ⟨k.os.trans h.os, k.tape.trans h.tape, k.output.trans h.output, Nat.le_trans h.size k.size, fun i hi hp => (k.same i (Nat.lt_of_lt_of_le hi h.size) hp).trans (h.same i hi hp), fun i cs ty fz hc => by
    obtain ⟨c1, h1, e1⟩ := h.shape i cs ty fz hc
    obtain ⟨c2, h2, e2⟩ := k.shape i c1 ty fz h1
    exact ⟨c2, h2, e2.trans e1⟩⟩
theorem Tch.mono {P R : Nat → Prop} {a b : World} (h : Tch P a b) (k : ∀ i, P i → R i) : Tch R a b := ⟨h.os, h.tape, h.output, h.size, fun i hi hp => h.same i hi (fun q => hp (k i q)), h.shape⟩
theorem Tch.set {P : Nat → Prop} {a w : World} (h : Tch P a w) {g : Nat} (hg : P g) (j : Nat) (y : Value) : Tch P a (w.setCell ⟨g, j, none⟩ y) := by
  refine ⟨h.os, h.tape, h.output, by rw [World.size_setCell]; exact h.size, fun b hb hp => ?_, fun b cs ty fz hc => ?_⟩
  · rw [heap_setCell_other w ⟨g, j, none⟩ b y (fun e => hp (by rw [e]; exact hg))]; exact h.same b hb hp
  · obtain ⟨c1, h1, e1⟩ := h.shape b cs ty fz hc
    by_cases e : b = g
    · subst e
      exact ⟨_, set_blk h1 j y, by rw [Array.size_setIfInBounds]; exact e1⟩
    · exact ⟨c1, by rw [heap_setCell_other w ⟨g, j, none⟩ b y e]; exact h1, e1⟩
/-- A row that may be written over. -/
def RowW (w : World) (v : Value) : Prop := v = .slice none 0 0 ∨ ∃ (g n c : Nat) (cs : Array Value) (ty : Nat), v = .slice (some ⟨g, 0, none⟩) n c ∧ w.heap[g]? = some (.cells cs ty (0, 0)) ∧ c ≤ cs.size ∧ n ≤ c ∧ n ≤ 1000000 ∧ c ≤ 9223372036854775807
def Blk (v : Value) (b : Nat) : Prop := v.ownBlock = some b
theorem RowW.tch {P : Nat → Prop} {w w' : World} {v : Value} (h : RowW w v) (k : Tch P w w') : RowW w' v := by
  rcases h with rfl | ⟨g, n, c, cs, ty, rfl, hg, h1, h2, h3, h4⟩
  · exact .inl rfl
  · obtain ⟨cs', e1, e2⟩ := k.shape g cs ty _ hg
    exact .inr ⟨g, n, c, cs', ty, rfl, e1, by omega, h2, h3, h4⟩
theorem RowW.lt {w : World} {v : Value} (h : RowW w v) {b : Nat} (e : Blk v b) : b < w.heap.size := by
  rcases h with rfl | ⟨g, n, c, cs, ty, rfl, hg, -⟩
  · cases e
  · cases e
    exact (Array.getElem?_eq_some_iff.1 hg).1
theorem own_W {w : World} {B e n : Nat} {v : Value} {xs : List Value} (h : w.ownsRow B e 1 v n xs) (hn : n ≤ 1000000) : RowW w v := by
  rcases h.2 with ⟨rfl, _⟩ | ⟨g, cap, cur, rfl, hB, hg, h1, h2, h3, h4⟩
  · exact .inl rfl
  · exact .inr ⟨g, n, cap, cur, e, rfl, hg, by omega, h1, hn, by unfold maxLen at h2; omega⟩
/-- What is done is done to these blocks alone. -/
def OvP (P : Nat → Prop) (w : World) (e : Ending) (w' : World) : Prop := e = .returned (.tuple #[]) ∧ Tch P w w'
set_option maxRecDepth 100000 in
set_option maxHeartbeats 4000000 in
theorem ovInts_w (v : Value) (w : World) (h : RowW w v) : Calls Try.prog 120 #[v] w (OvP (Blk v) w) := by
  rcases h with rfl | ⟨g, n, c, cs, ty, rfl, hg, hcs, hnc, hn, hcm⟩
  · go_enter Try.func120, Try.ntmps120
    go_wp2_with fail
    go_loopw [3] (fun i wr => i = .int .i64 0 ∧ wr = w) (fun _ _ => 0)
    case atStart => exact ⟨rfl, rfl⟩
    case round =>
      obtain ⟨rfl, rfl⟩ := hrel
      go_wp2_with fail
      go_end0
      exact ⟨rfl, Tch.refl _ _⟩
  · have HG := Lib.hid hg
    clear hg
    have s1 : wrap64 ((n : Int) + 12) = (n : Int) + 12 := by simp only [wrap64]; omega
    by_cases hcn : (n : Int) + 12 < (c : Int)
    · obtain ⟨k, hk⟩ : ∃ k : Nat, (n : Int) + 12 = (k : Int) := ⟨n + 12, by omega⟩
      rw [hk] at hcn s1
      have d1 : decide ((k : Int) < (c : Int)) = true := decide_eq_true hcn
      have d2 : decide (k < c) = true := decide_eq_true (by omega)
      have hk0 : (0 : Int) ≤ (k : Int) := Int.natCast_nonneg _
      have hki : (k : Int) ≤ (c : Int) := by omega
      have hkm : k ≤ 1000012 := by omega
      go_enter Try.func120, Try.ntmps120
      go_wp2_with fail
      go_loopw [3] (fun i wr => ∃ j : Nat, j ≤ k ∧ i = .int .i64 j ∧ Tch (Blk (.slice (some ⟨g, 0, none⟩) n c)) w wr) (fun i _ => k - (intOf i).toNat)
      case atStart => exact ⟨0, Nat.zero_le _, rfl, Tch.refl _ _⟩
      case round =>
        obtain ⟨j, hj, rfl, ht⟩ := hrel
        have HT := Lib.hid ht
        clear ht
        by_cases hlt : j < k
        · obtain ⟨cs', hb, hs⟩ := HT.out.shape _ _ _ _ HG.out
          have hx : wr.cell? ⟨g, j, none⟩ = some (cs'[j]'(by omega)) := (cell_of_heap hb j).trans (Array.getElem?_eq_getElem _)
          have hf : wr.frozen? ⟨g, j, none⟩ = false := frz_raw hb j
          generalize cs'[j]'(by omega) = x at *
          clear hb hs
          have hj0 : (0 : Int) ≤ (j : Int) := Int.natCast_nonneg _
          have hj1 : (j : Int) < (k : Int) := by omega
          have hj5 : j ≤ 2000000 := by omega
          have hmk := Lib.hid (fun w' => markN_w 2 j (by omega) (by omega) w')
          have HFIN : Hid (∀ y, Tch (Blk (.slice (some ⟨g, 0, none⟩) n c)) w (wr.setCell ⟨g, j, none⟩ y)) := Lib.hid fun y => HT.out.set rfl j y
          go_wp2_with fail
          refine (hmk.out _).mono ?_
          rintro e w2 ⟨rfl, rfl⟩
          go_wp2_with fail
          go_roundw
          case rel => exact ⟨j + 1, by omega, by go_num, HFIN.out _⟩
          case measure => simp [intOf]; omega
        · have hje : j = k := by omega
          subst hje
          go_wp2_with fail
          go_end0
          exact ⟨rfl, HT.out⟩
    · have d1 : decide ((n : Int) + 12 < (c : Int)) = false := decide_eq_false hcn
      have hc0 : (0 : Int) ≤ (c : Int) := Int.natCast_nonneg _
      have hcm2 : c ≤ 1000012 := by omega
      go_enter Try.func120, Try.ntmps120
      go_wp2_with fail
      go_loopw [3] (fun i wr => ∃ j : Nat, j ≤ c ∧ i = .int .i64 j ∧ Tch (Blk (.slice (some ⟨g, 0, none⟩) n c)) w wr) (fun i _ => c - (intOf i).toNat)
      case atStart => exact ⟨0, Nat.zero_le _, rfl, Tch.refl _ _⟩
      case round =>
        obtain ⟨j, hj, rfl, ht⟩ := hrel
        have HT := Lib.hid ht
        clear ht
        by_cases hlt : j < c
        · obtain ⟨cs', hb, hs⟩ := HT.out.shape _ _ _ _ HG.out
          have hx : wr.cell? ⟨g, j, none⟩ = some (cs'[j]'(by omega)) := (cell_of_heap hb j).trans (Array.getElem?_eq_getElem _)
          have hf : wr.frozen? ⟨g, j, none⟩ = false := frz_raw hb j
          generalize cs'[j]'(by omega) = x at *
          clear hb hs
          have hj0 : (0 : Int) ≤ (j : Int) := Int.natCast_nonneg _
          have hj1 : (j : Int) < (c : Int) := by omega
          have hj5 : j ≤ 2000000 := by omega
          have hmk := Lib.hid (fun w' => markN_w 2 j (by omega) (by omega) w')
          have HFIN : Hid (∀ y, Tch (Blk (.slice (some ⟨g, 0, none⟩) n c)) w (wr.setCell ⟨g, j, none⟩ y)) := Lib.hid fun y => HT.out.set rfl j y
          go_wp2_with fail
          refine (hmk.out _).mono ?_
          rintro e w2 ⟨rfl, rfl⟩
          go_wp2_with fail
          go_roundw
          case rel => exact ⟨j + 1, by omega, by go_num, HFIN.out _⟩
          case measure => simp [intOf]; omega
        · have hje : j = c := by omega
          subst hje
          go_wp2_with fail
          go_end0
          exact ⟨rfl, HT.out⟩
set_option maxRecDepth 100000 in
set_option maxHeartbeats 4000000 in
theorem ovBytes_w (v : Value) (w : World) (h : RowW w v) : Calls Try.prog 25 #[v] w (OvP (Blk v) w) := by
  rcases h with rfl | ⟨g, n, c, cs, ty, rfl, hg, hcs, hnc, hn, hcm⟩
  · go_enter Try.func25, Try.ntmps25
    go_wp2_with fail
    go_loopw [3] (fun i wr => i = .int .i64 0 ∧ wr = w) (fun _ _ => 0)
    case atStart => exact ⟨rfl, rfl⟩
    case round =>
      obtain ⟨rfl, rfl⟩ := hrel
      go_wp2_with fail
      go_end0
      exact ⟨rfl, Tch.refl _ _⟩
  · have HG := Lib.hid hg
    clear hg
    have s1 : wrap64 ((n : Int) + 12) = (n : Int) + 12 := by simp only [wrap64]; omega
    by_cases hcn : (n : Int) + 12 < (c : Int)
    · obtain ⟨k, hk⟩ : ∃ k : Nat, (n : Int) + 12 = (k : Int) := ⟨n + 12, by omega⟩
      rw [hk] at hcn s1
      have d1 : decide ((k : Int) < (c : Int)) = true := decide_eq_true hcn
      have d2 : decide (k < c) = true := decide_eq_true (by omega)
      have hk0 : (0 : Int) ≤ (k : Int) := Int.natCast_nonneg _
      have hki : (k : Int) ≤ (c : Int) := by omega
      have hkm : k ≤ 1000012 := by omega
      go_enter Try.func25, Try.ntmps25
      go_wp2_with fail
      go_loopw [3] (fun i wr => ∃ j : Nat, j ≤ k ∧ i = .int .i64 j ∧ Tch (Blk (.slice (some ⟨g, 0, none⟩) n c)) w wr) (fun i _ => k - (intOf i).toNat)
      case atStart => exact ⟨0, Nat.zero_le _, rfl, Tch.refl _ _⟩
      case round =>
        obtain ⟨j, hj, rfl, ht⟩ := hrel
        have HT := Lib.hid ht
        clear ht
        by_cases hlt : j < k
        · obtain ⟨cs', hb, hs⟩ := HT.out.shape _ _ _ _ HG.out
          have hx : wr.cell? ⟨g, j, none⟩ = some (cs'[j]'(by omega)) := (cell_of_heap hb j).trans (Array.getElem?_eq_getElem _)
          have hf : wr.frozen? ⟨g, j, none⟩ = false := frz_raw hb j
          generalize cs'[j]'(by omega) = x at *
          clear hb hs
          have hj0 : (0 : Int) ≤ (j : Int) := Int.natCast_nonneg _
          have hj1 : (j : Int) < (k : Int) := by omega
          have hj5 : j ≤ 2000000 := by omega
          have hmk := Lib.hid (fun w' => markByte_w 2 j (by omega) (by omega) w')
          have HFIN : Hid (∀ y, Tch (Blk (.slice (some ⟨g, 0, none⟩) n c)) w (wr.setCell ⟨g, j, none⟩ y)) := Lib.hid fun y => HT.out.set rfl j y
          go_wp2_with fail
          refine (hmk.out _).mono ?_
          rintro e w2 ⟨rfl, rfl⟩
          go_wp2_with fail
          go_roundw
          case rel => exact ⟨j + 1, by omega, by go_num, HFIN.out _⟩
          case measure => simp [intOf]; omega
        · have hje : j = k := by omega
          subst hje
          go_wp2_with fail
          go_end0
          exact ⟨rfl, HT.out⟩
    · have d1 : decide ((n : Int) + 12 < (c : Int)) = false := decide_eq_false hcn
      have hc0 : (0 : Int) ≤ (c : Int) := Int.natCast_nonneg _
      have hcm2 : c ≤ 1000012 := by omega
      go_enter Try.func25, Try.ntmps25
      go_wp2_with fail
      go_loopw [3] (fun i wr => ∃ j : Nat, j ≤ c ∧ i = .int .i64 j ∧ Tch (Blk (.slice (some ⟨g, 0, none⟩) n c)) w wr) (fun i _ => c - (intOf i).toNat)
      case atStart => exact ⟨0, Nat.zero_le _, rfl, Tch.refl _ _⟩
      case round =>
        obtain ⟨j, hj, rfl, ht⟩ := hrel
        have HT := Lib.hid ht
        clear ht
        by_cases hlt : j < c
        · obtain ⟨cs', hb, hs⟩ := HT.out.shape _ _ _ _ HG.out
          have hx : wr.cell? ⟨g, j, none⟩ = some (cs'[j]'(by omega)) := (cell_of_heap hb j).trans (Array.getElem?_eq_getElem _)
          have hf : wr.frozen? ⟨g, j, none⟩ = false := frz_raw hb j
          generalize cs'[j]'(by omega) = x at *
          clear hb hs
          have hj0 : (0 : Int) ≤ (j : Int) := Int.natCast_nonneg _
          have hj1 : (j : Int) < (c : Int) := by omega
          have hj5 : j ≤ 2000000 := by omega
          have hmk := Lib.hid (fun w' => markByte_w 2 j (by omega) (by omega) w')
          have HFIN : Hid (∀ y, Tch (Blk (.slice (some ⟨g, 0, none⟩) n c)) w (wr.setCell ⟨g, j, none⟩ y)) := Lib.hid fun y => HT.out.set rfl j y
          go_wp2_with fail
          refine (hmk.out _).mono ?_
          rintro e w2 ⟨rfl, rfl⟩
          go_wp2_with fail
          go_roundw
          case rel => exact ⟨j + 1, by omega, by go_num, HFIN.out _⟩
          case measure => simp [intOf]; omega
        · have hje : j = c := by omega
          subst hje
          go_wp2_with fail
          go_end0
          exact ⟨rfl, HT.out⟩
/-- A configuration that may be written over. -/
structure CfgW (w : World) (s : S4) : Prop where
  h0 : RowW w (.slice s.A0 s.n0 s.c0)
  h1 : RowW w (.slice s.A1 s.n1 s.c1)
  h2 : RowW w (.slice s.A2 s.n2 s.c2)
  h3 : RowW w (.slice s.A3 s.n3 s.c3)
theorem CfgW.tch {P : Nat → Prop} {w w' : World} {s : S4} (h : CfgW w s) (k : Tch P w w') : CfgW w' s := ⟨h.h0.tch k, h.h1.tch k, h.h2.tch k, h.h3.tch k⟩
def CBlk (s : S4) (b : Nat) : Prop := Blk (.slice s.A0 s.n0 s.c0) b ∨ Blk (.slice s.A1 s.n1 s.c1) b ∨ Blk (.slice s.A2 s.n2 s.c2) b ∨ Blk (.slice s.A3 s.n3 s.c3) b
theorem CfgW.lt {w : World} {s : S4} (h : CfgW w s) {b : Nat} (e : CBlk s b) : b < w.heap.size := by
  rcases e with e | e | e | e
  · exact h.h0.lt e
  · exact h.h1.lt e
  · exact h.h2.lt e
  · exact h.h3.lt e
set_option maxRecDepth 100000 in
set_option maxHeartbeats 4000000 in
theorem ovCfg_w (s : S4) (W : World) (h : CfgW W s) : Calls Try.prog 58 #[s.v] W (OvP (CBlk s) W) := by
  have HC := Lib.hid h
  clear h
  unfold S4.v
  have HX0 : Hid ((W.alloc (.cells #[.slice s.A0 s.n0 s.c0, .slice s.A1 s.n1 s.c1, .slice s.A2 s.n2 s.c2, .slice s.A3 s.n3 s.c3] 71)).heap[W.heap.size]? = some (.cells #[.slice s.A0 s.n0 s.c0, .slice s.A1 s.n1 s.c1, .slice s.A2 s.n2 s.c2, .slice s.A3 s.n3 s.c3] 71 (0, 0))) := Lib.hid (heap_alloc_new W _)
  have HT0 : Hid (Tch (CBlk s) W (W.alloc (.cells #[.slice s.A0 s.n0 s.c0, .slice s.A1 s.n1 s.c1, .slice s.A2 s.n2 s.c2, .slice s.A3 s.n3 s.c3] 71))) := Lib.hid (Tch.ok ((Ok.refl W).alloc _))
  have HL0 : Hid (W.heap.size < (W.alloc (.cells #[.slice s.A0 s.n0 s.c0, .slice s.A1 s.n1 s.c1, .slice s.A2 s.n2 s.c2, .slice s.A3 s.n3 s.c3] 71)).heap.size) := Lib.hid (by rw [World.size_alloc]; omega)
  go_enter Try.func58, Try.ntmps58
  go_upto_region 1 with fail
  generalize W.alloc (.cells #[.slice s.A0 s.n0 s.c0, .slice s.A1 s.n1 s.c1, .slice s.A2 s.n2 s.c2, .slice s.A3 s.n3 s.c3] 71) = w0 at *
  obtain ⟨g, hg⟩ : ∃ g, W.heap.size = g := ⟨_, rfl⟩
  have HG := Lib.hid hg
  rw [hg] at HX0 HL0 ⊢
  clear hg
  have a0 : w0.cell? ⟨g, 0, none⟩ = some (.slice s.A0 s.n0 s.c0) := (cell_of_heap HX0.out 0).trans rfl
  have HCC := Lib.hid (ovInts_w (.slice s.A0 s.n0 s.c0) w0 (HC.out.h0.tch HT0.out))
  go_wp2_with fail
  clear a0
  (with_reducible refine HCC.out.mono ?_)
  rintro _ w1 ⟨rfl, ht⟩
  clear HCC
  have HX1 : Hid (w1.heap[g]? = some (.cells #[.slice s.A0 s.n0 s.c0, .slice s.A1 s.n1 s.c1, .slice s.A2 s.n2 s.c2, .slice s.A3 s.n3 s.c3] 71 (0, 0))) := Lib.hid ((ht.same g HL0.out (fun e => absurd (HC.out.h0.lt e) (by have := HG.out; omega))).trans HX0.out)
  have HT1 : Hid (Tch (CBlk s) W w1) := Lib.hid (HT0.out.trans (ht.mono (fun b e => .inl e)))
  have HL1 : Hid (g < w1.heap.size) := Lib.hid (Nat.lt_of_lt_of_le HL0.out ht.size)
  clear ht HX0 HT0 HL0
  have a1 : w1.cell? ⟨g, 1, none⟩ = some (.slice s.A1 s.n1 s.c1) := (cell_of_heap HX1.out 1).trans rfl
  have HCC := Lib.hid (ovInts_w (.slice s.A1 s.n1 s.c1) w1 (HC.out.h1.tch HT1.out))
  go_wp2_with fail
  clear a1
  (with_reducible refine HCC.out.mono ?_)
  rintro _ w2 ⟨rfl, ht⟩
  clear HCC
  have HX2 : Hid (w2.heap[g]? = some (.cells #[.slice s.A0 s.n0 s.c0, .slice s.A1 s.n1 s.c1, .slice s.A2 s.n2 s.c2, .slice s.A3 s.n3 s.c3] 71 (0, 0))) := Lib.hid ((ht.same g HL1.out (fun e => absurd (HC.out.h1.lt e) (by have := HG.out; omega))).trans HX1.out)
  have HT2 : Hid (Tch (CBlk s) W w2) := Lib.hid (HT1.out.trans (ht.mono (fun b e => .inr (.inl e))))
  have HL2 : Hid (g < w2.heap.size) := Lib.hid (Nat.lt_of_lt_of_le HL1.out ht.size)
  clear ht HX1 HT1 HL1
  have a2 : w2.cell? ⟨g, 2, none⟩ = some (.slice s.A2 s.n2 s.c2) := (cell_of_heap HX2.out 2).trans rfl
  have HCC := Lib.hid (ovInts_w (.slice s.A2 s.n2 s.c2) w2 (HC.out.h2.tch HT2.out))
  go_wp2_with fail
  clear a2
  (with_reducible refine HCC.out.mono ?_)
  rintro _ w3 ⟨rfl, ht⟩
  clear HCC
  have HX3 : Hid (w3.heap[g]? = some (.cells #[.slice s.A0 s.n0 s.c0, .slice s.A1 s.n1 s.c1, .slice s.A2 s.n2 s.c2, .slice s.A3 s.n3 s.c3] 71 (0, 0))) := Lib.hid ((ht.same g HL2.out (fun e => absurd (HC.out.h2.lt e) (by have := HG.out; omega))).trans HX2.out)
  have HT3 : Hid (Tch (CBlk s) W w3) := Lib.hid (HT2.out.trans (ht.mono (fun b e => .inr (.inr (.inl e)))))
  have HL3 : Hid (g < w3.heap.size) := Lib.hid (Nat.lt_of_lt_of_le HL2.out ht.size)
  clear ht HX2 HT2 HL2
  have a3 : w3.cell? ⟨g, 3, none⟩ = some (.slice s.A3 s.n3 s.c3) := (cell_of_heap HX3.out 3).trans rfl
  have HCC := Lib.hid (ovInts_w (.slice s.A3 s.n3 s.c3) w3 (HC.out.h3.tch HT3.out))
  go_wp2_with fail
  clear a3
  (with_reducible refine HCC.out.mono ?_)
  rintro _ w4 ⟨rfl, ht⟩
  clear HCC
  have HX4 : Hid (w4.heap[g]? = some (.cells #[.slice s.A0 s.n0 s.c0, .slice s.A1 s.n1 s.c1, .slice s.A2 s.n2 s.c2, .slice s.A3 s.n3 s.c3] 71 (0, 0))) := Lib.hid ((ht.same g HL3.out (fun e => absurd (HC.out.h3.lt e) (by have := HG.out; omega))).trans HX3.out)
  have HT4 : Hid (Tch (CBlk s) W w4) := Lib.hid (HT3.out.trans (ht.mono (fun b e => .inr (.inr (.inr e)))))
  have HL4 : Hid (g < w4.heap.size) := Lib.hid (Nat.lt_of_lt_of_le HL3.out ht.size)
  clear ht HX3 HT3 HL3
  go_wp2_with fail
  go_end0
  exact ⟨rfl, HT4.out⟩
theorem ovCfg_v (s : S4) (W : World) (h : CfgW W s) : Calls Try.prog 58 #[.agg #[.slice s.A0 s.n0 s.c0, .slice s.A1 s.n1 s.c1, .slice s.A2 s.n2 s.c2, .slice s.A3 s.n3 s.c3]] W (OvP (CBlk s) W) := ovCfg_w s W h
set_option maxRecDepth 100000 in
set_option maxHeartbeats 4000000 in
theorem ovBase_w (bi bt : Int) (s : S4) (W : World) (h : CfgW W s) : Calls Try.prog 131 #[.agg #[.int .i64 bi, .int .i64 bt, .slice s.A0 s.n0 s.c0, .slice s.A1 s.n1 s.c1, .slice s.A2 s.n2 s.c2, .slice s.A3 s.n3 s.c3]] W (OvP (CBlk s) W) := by
  have HC := Lib.hid h
  clear h
  have HX0 : Hid ((W.alloc (.cells #[.int .i64 bi, .int .i64 bt, .slice s.A0 s.n0 s.c0, .slice s.A1 s.n1 s.c1, .slice s.A2 s.n2 s.c2, .slice s.A3 s.n3 s.c3] 93)).heap[W.heap.size]? = some (.cells #[.int .i64 bi, .int .i64 bt, .slice s.A0 s.n0 s.c0, .slice s.A1 s.n1 s.c1, .slice s.A2 s.n2 s.c2, .slice s.A3 s.n3 s.c3] 93 (0, 0))) := Lib.hid (heap_alloc_new W _)
  have HT0 : Hid (Tch (CBlk s) W (W.alloc (.cells #[.int .i64 bi, .int .i64 bt, .slice s.A0 s.n0 s.c0, .slice s.A1 s.n1 s.c1, .slice s.A2 s.n2 s.c2, .slice s.A3 s.n3 s.c3] 93))) := Lib.hid (Tch.ok ((Ok.refl W).alloc _))
  have HL0 : Hid (W.heap.size < (W.alloc (.cells #[.int .i64 bi, .int .i64 bt, .slice s.A0 s.n0 s.c0, .slice s.A1 s.n1 s.c1, .slice s.A2 s.n2 s.c2, .slice s.A3 s.n3 s.c3] 93)).heap.size) := Lib.hid (by rw [World.size_alloc]; omega)
  go_enter Try.func131, Try.ntmps131
  go_upto_region 1 with fail
  generalize W.alloc (.cells #[.int .i64 bi, .int .i64 bt, .slice s.A0 s.n0 s.c0, .slice s.A1 s.n1 s.c1, .slice s.A2 s.n2 s.c2, .slice s.A3 s.n3 s.c3] 93) = w0 at *
  obtain ⟨g, hg⟩ : ∃ g, W.heap.size = g := ⟨_, rfl⟩
  have HG := Lib.hid hg
  rw [hg] at HX0 HL0 ⊢
  clear hg
  have a2 : w0.cell? ⟨g, 2, none⟩ = some (.slice s.A0 s.n0 s.c0) := (cell_of_heap HX0.out 2).trans rfl
  have a3 : w0.cell? ⟨g, 3, none⟩ = some (.slice s.A1 s.n1 s.c1) := (cell_of_heap HX0.out 3).trans rfl
  have a4 : w0.cell? ⟨g, 4, none⟩ = some (.slice s.A2 s.n2 s.c2) := (cell_of_heap HX0.out 4).trans rfl
  have a5 : w0.cell? ⟨g, 5, none⟩ = some (.slice s.A3 s.n3 s.c3) := (cell_of_heap HX0.out 5).trans rfl
  have HCC := Lib.hid (ovCfg_v s w0 (HC.out.tch HT0.out))
  go_wp2_with fail
  clear a2 a3 a4 a5
  (with_reducible refine HCC.out.mono ?_)
  rintro _ w1 ⟨rfl, ht⟩
  clear HCC
  have HX1 : Hid (w1.heap[g]? = some (.cells #[.int .i64 bi, .int .i64 bt, .slice s.A0 s.n0 s.c0, .slice s.A1 s.n1 s.c1, .slice s.A2 s.n2 s.c2, .slice s.A3 s.n3 s.c3] 93 (0, 0))) := Lib.hid ((ht.same g HL0.out (fun e => absurd (HC.out.lt e) (by have := HG.out; omega))).trans HX0.out)
  have HT1 : Hid (Tch (CBlk s) W w1) := Lib.hid (HT0.out.trans (ht.mono (fun b e => e)))
  have HL1 : Hid (g < w1.heap.size) := Lib.hid (Nat.lt_of_lt_of_le HL0.out ht.size)
  clear ht HX0 HT0 HL0
  go_wp2_with fail
  go_end0
  exact ⟨rfl, HT1.out⟩
set_option maxRecDepth 100000 in
set_option maxHeartbeats 4000000 in
theorem ovEntry_w (e0 k0 : Int) (A : Option Addr) (n c : Nat) (s : S4) (W : World) (h : CfgW W s) (hb : RowW W (.slice A n c)) : Calls Try.prog 172 #[.agg #[.int .i64 e0, .int .u8 k0, .slice A n c, .slice s.A0 s.n0 s.c0, .slice s.A1 s.n1 s.c1, .slice s.A2 s.n2 s.c2, .slice s.A3 s.n3 s.c3]] W (OvP (fun b => Blk (.slice A n c) b ∨ CBlk s b) W) := by
  have HC := Lib.hid h
  have HB := Lib.hid hb
  clear h hb
  have HX0 : Hid ((W.alloc (.cells #[.int .i64 e0, .int .u8 k0, .slice A n c, .slice s.A0 s.n0 s.c0, .slice s.A1 s.n1 s.c1, .slice s.A2 s.n2 s.c2, .slice s.A3 s.n3 s.c3] 208)).heap[W.heap.size]? = some (.cells #[.int .i64 e0, .int .u8 k0, .slice A n c, .slice s.A0 s.n0 s.c0, .slice s.A1 s.n1 s.c1, .slice s.A2 s.n2 s.c2, .slice s.A3 s.n3 s.c3] 208 (0, 0))) := Lib.hid (heap_alloc_new W _)
  have HT0 : Hid (Tch (fun b => Blk (.slice A n c) b ∨ CBlk s b) W (W.alloc (.cells #[.int .i64 e0, .int .u8 k0, .slice A n c, .slice s.A0 s.n0 s.c0, .slice s.A1 s.n1 s.c1, .slice s.A2 s.n2 s.c2, .slice s.A3 s.n3 s.c3] 208))) := Lib.hid (Tch.ok ((Ok.refl W).alloc _))
  have HL0 : Hid (W.heap.size < (W.alloc (.cells #[.int .i64 e0, .int .u8 k0, .slice A n c, .slice s.A0 s.n0 s.c0, .slice s.A1 s.n1 s.c1, .slice s.A2 s.n2 s.c2, .slice s.A3 s.n3 s.c3] 208)).heap.size) := Lib.hid (by rw [World.size_alloc]; omega)
  go_enter Try.func172, Try.ntmps172
  go_upto_region 1 with fail
  generalize W.alloc (.cells #[.int .i64 e0, .int .u8 k0, .slice A n c, .slice s.A0 s.n0 s.c0, .slice s.A1 s.n1 s.c1, .slice s.A2 s.n2 s.c2, .slice s.A3 s.n3 s.c3] 208) = w0 at *
  obtain ⟨g, hg⟩ : ∃ g, W.heap.size = g := ⟨_, rfl⟩
  have HG := Lib.hid hg
  rw [hg] at HX0 HL0 ⊢
  clear hg
  have a2 : w0.cell? ⟨g, 2, none⟩ = some (.slice A n c) := (cell_of_heap HX0.out 2).trans rfl
  have HCC := Lib.hid (ovBytes_w (.slice A n c) w0 (HB.out.tch HT0.out))
  go_wp2_with fail
  clear a2
  (with_reducible refine HCC.out.mono ?_)
  rintro _ w1 ⟨rfl, ht⟩
  clear HCC
  have HX1 : Hid (w1.heap[g]? = some (.cells #[.int .i64 e0, .int .u8 k0, .slice A n c, .slice s.A0 s.n0 s.c0, .slice s.A1 s.n1 s.c1, .slice s.A2 s.n2 s.c2, .slice s.A3 s.n3 s.c3] 208 (0, 0))) := Lib.hid ((ht.same g HL0.out (fun e => absurd (HB.out.lt e) (by have := HG.out; omega))).trans HX0.out)
  have HT1 : Hid (Tch (fun b => Blk (.slice A n c) b ∨ CBlk s b) W w1) := Lib.hid (HT0.out.trans (ht.mono (fun b e => .inl e)))
  have HL1 : Hid (g < w1.heap.size) := Lib.hid (Nat.lt_of_lt_of_le HL0.out ht.size)
  clear ht HX0 HT0 HL0
  have a3 : w1.cell? ⟨g, 3, none⟩ = some (.slice s.A0 s.n0 s.c0) := (cell_of_heap HX1.out 3).trans rfl
  have a4 : w1.cell? ⟨g, 4, none⟩ = some (.slice s.A1 s.n1 s.c1) := (cell_of_heap HX1.out 4).trans rfl
  have a5 : w1.cell? ⟨g, 5, none⟩ = some (.slice s.A2 s.n2 s.c2) := (cell_of_heap HX1.out 5).trans rfl
  have a6 : w1.cell? ⟨g, 6, none⟩ = some (.slice s.A3 s.n3 s.c3) := (cell_of_heap HX1.out 6).trans rfl
  have HCC := Lib.hid (ovCfg_v s w1 (HC.out.tch HT1.out))
  go_wp2_with fail
  clear a3 a4 a5 a6
  (with_reducible refine HCC.out.mono ?_)
  rintro _ w2 ⟨rfl, ht⟩
  clear HCC
  have HX2 : Hid (w2.heap[g]? = some (.cells #[.int .i64 e0, .int .u8 k0, .slice A n c, .slice s.A0 s.n0 s.c0, .slice s.A1 s.n1 s.c1, .slice s.A2 s.n2 s.c2, .slice s.A3 s.n3 s.c3] 208 (0, 0))) := Lib.hid ((ht.same g HL1.out (fun e => absurd (HC.out.lt e) (by have := HG.out; omega))).trans HX1.out)
  have HT2 : Hid (Tch (fun b => Blk (.slice A n c) b ∨ CBlk s b) W w2) := Lib.hid (HT1.out.trans (ht.mono (fun b e => .inr e)))
  have HL2 : Hid (g < w2.heap.size) := Lib.hid (Nat.lt_of_lt_of_le HL1.out ht.size)
  clear ht HX1 HT1 HL1
  go_wp2_with fail
  go_end0
  exact ⟨rfl, HT2.out⟩
set_option maxRecDepth 100000 in
set_option maxHeartbeats 4000000 in
theorem ovImage_w (bi bt : Int) (s : S4) (A : Option Addr) (n c : Nat) (W : World) (h : CfgW W s) (hb : RowW W (.slice A n c)) : Calls Try.prog 80 #[.agg #[.int .i64 bi, .int .i64 bt, .slice s.A0 s.n0 s.c0, .slice s.A1 s.n1 s.c1, .slice s.A2 s.n2 s.c2, .slice s.A3 s.n3 s.c3, .slice A n c]] W (OvP (fun b => CBlk s b ∨ Blk (.slice A n c) b) W) := by
  have HC := Lib.hid h
  have HB := Lib.hid hb
  clear h hb
  have HX0 : Hid ((W.alloc (.cells #[.int .i64 bi, .int .i64 bt, .slice s.A0 s.n0 s.c0, .slice s.A1 s.n1 s.c1, .slice s.A2 s.n2 s.c2, .slice s.A3 s.n3 s.c3, .slice A n c] 97)).heap[W.heap.size]? = some (.cells #[.int .i64 bi, .int .i64 bt, .slice s.A0 s.n0 s.c0, .slice s.A1 s.n1 s.c1, .slice s.A2 s.n2 s.c2, .slice s.A3 s.n3 s.c3, .slice A n c] 97 (0, 0))) := Lib.hid (heap_alloc_new W _)
  have HT0 : Hid (Tch (fun b => CBlk s b ∨ Blk (.slice A n c) b) W (W.alloc (.cells #[.int .i64 bi, .int .i64 bt, .slice s.A0 s.n0 s.c0, .slice s.A1 s.n1 s.c1, .slice s.A2 s.n2 s.c2, .slice s.A3 s.n3 s.c3, .slice A n c] 97))) := Lib.hid (Tch.ok ((Ok.refl W).alloc _))
  have HL0 : Hid (W.heap.size < (W.alloc (.cells #[.int .i64 bi, .int .i64 bt, .slice s.A0 s.n0 s.c0, .slice s.A1 s.n1 s.c1, .slice s.A2 s.n2 s.c2, .slice s.A3 s.n3 s.c3, .slice A n c] 97)).heap.size) := Lib.hid (by rw [World.size_alloc]; omega)
  go_enter Try.func80, Try.ntmps80
  go_upto_region 1 with fail
  generalize W.alloc (.cells #[.int .i64 bi, .int .i64 bt, .slice s.A0 s.n0 s.c0, .slice s.A1 s.n1 s.c1, .slice s.A2 s.n2 s.c2, .slice s.A3 s.n3 s.c3, .slice A n c] 97) = w0 at *
  obtain ⟨g, hg⟩ : ∃ g, W.heap.size = g := ⟨_, rfl⟩
  have HG := Lib.hid hg
  rw [hg] at HX0 HL0 ⊢
  clear hg
  have a0 : w0.cell? ⟨g, 0, none⟩ = some (.int .i64 bi) := (cell_of_heap HX0.out 0).trans rfl
  have a1 : w0.cell? ⟨g, 1, none⟩ = some (.int .i64 bt) := (cell_of_heap HX0.out 1).trans rfl
  have a2 : w0.cell? ⟨g, 2, none⟩ = some (.slice s.A0 s.n0 s.c0) := (cell_of_heap HX0.out 2).trans rfl
  have a3 : w0.cell? ⟨g, 3, none⟩ = some (.slice s.A1 s.n1 s.c1) := (cell_of_heap HX0.out 3).trans rfl
  have a4 : w0.cell? ⟨g, 4, none⟩ = some (.slice s.A2 s.n2 s.c2) := (cell_of_heap HX0.out 4).trans rfl
  have a5 : w0.cell? ⟨g, 5, none⟩ = some (.slice s.A3 s.n3 s.c3) := (cell_of_heap HX0.out 5).trans rfl
  have HCC := Lib.hid (ovBase_w bi bt s w0 (HC.out.tch HT0.out))
  go_wp2_with fail
  clear a0 a1 a2 a3 a4 a5
  (with_reducible refine HCC.out.mono ?_)
  rintro _ w1 ⟨rfl, ht⟩
  clear HCC
  have HX1 : Hid (w1.heap[g]? = some (.cells #[.int .i64 bi, .int .i64 bt, .slice s.A0 s.n0 s.c0, .slice s.A1 s.n1 s.c1, .slice s.A2 s.n2 s.c2, .slice s.A3 s.n3 s.c3, .slice A n c] 97 (0, 0))) := Lib.hid ((ht.same g HL0.out (fun e => absurd (HC.out.lt e) (by have := HG.out; omega))).trans HX0.out)
  have HT1 : Hid (Tch (fun b => CBlk s b ∨ Blk (.slice A n c) b) W w1) := Lib.hid (HT0.out.trans (ht.mono (fun b e => .inl e)))
  have HL1 : Hid (g < w1.heap.size) := Lib.hid (Nat.lt_of_lt_of_le HL0.out ht.size)
  clear ht HX0 HT0 HL0
  have a6 : w1.cell? ⟨g, 6, none⟩ = some (.slice A n c) := (cell_of_heap HX1.out 6).trans rfl
  have HCC := Lib.hid (ovBytes_w (.slice A n c) w1 (HB.out.tch HT1.out))
  go_wp2_with fail
  clear a6
  (with_reducible refine HCC.out.mono ?_)
  rintro _ w2 ⟨rfl, ht⟩
  clear HCC
  have HX2 : Hid (w2.heap[g]? = some (.cells #[.int .i64 bi, .int .i64 bt, .slice s.A0 s.n0 s.c0, .slice s.A1 s.n1 s.c1, .slice s.A2 s.n2 s.c2, .slice s.A3 s.n3 s.c3, .slice A n c] 97 (0, 0))) := Lib.hid ((ht.same g HL1.out (fun e => absurd (HB.out.lt e) (by have := HG.out; omega))).trans HX1.out)
  have HT2 : Hid (Tch (fun b => CBlk s b ∨ Blk (.slice A n c) b) W w2) := Lib.hid (HT1.out.trans (ht.mono (fun b e => .inr e)))
  have HL2 : Hid (g < w2.heap.size) := Lib.hid (Nat.lt_of_lt_of_le HL1.out ht.size)
  clear ht HX1 HT1 HL1
  go_wp2_with fail
  go_end0
  exact ⟨rfl, HT2.out⟩
end Go.Proofs.Ytolfdncmlfnbdaa
namespace Go.Proofs.Ytolfdncmlfnbdaa
open Go.RowKit

theorem lt_raw2 {w : World} {p : Nat} {o : Obj} (h : w.heap[p]? = some o) : p < w.heap.size := (Array.getElem?_eq_some_iff.1 h).1
theorem RowW.hi {B : Nat} {w w' : World} {v : Value} (h : RowW w v) (k : Hi B w w') (hb : ∀ b, Blk v b → B ≤ b) : RowW w' v := by
  rcases h with rfl | ⟨g, n, c, cs, ty, rfl, hg, h1, h2, h3, h4⟩
  · exact .inl rfl
  · exact .inr ⟨g, n, c, cs, ty, rfl, (k.2 g (hb g rfl) (lt_raw2 hg)).trans hg, h1, h2, h3, h4⟩
theorem CfgW.hi {B : Nat} {w w' : World} {s : S4} (h : CfgW w s) (k : Hi B w w') (hb : ∀ b, CBlk s b → B ≤ b) : CfgW w' s :=
  ⟨h.h0.hi k (fun b e => hb b (.inl e)), h.h1.hi k (fun b e => hb b (.inr (.inl e))), h.h2.hi k (fun b e => hb b (.inr (.inr (.inl e)))), h.h3.hi k (fun b e => hb b (.inr (.inr (.inr e))))⟩
theorem LentO.W {w : World} {B : Nat} {E : Option Addr} {n k : Nat} {zs : List Int} (h : LentO w B E n k zs) : RowW w (.slice E n k) ∧ ∀ b, Blk (.slice E n k) b → B ≤ b ∧ b < w.heap.size ∧ ∀ cs fz, w.heap[b]? ≠ some (.cells cs 208 fz) := by
  obtain ⟨g, rfl, -, h3, h4, h5, h6⟩ := h
  rcases h6.2 with ⟨e, _⟩ | ⟨g', cap, cur, e, hB, hg, h1, h2, hs, _⟩
  · cases e
  · simp only [Value.slice.injEq, Option.some.injEq, Addr.mk.injEq, and_true] at e
    obtain ⟨rfl, -, rfl⟩ := e
    refine ⟨.inr ⟨g, n, k, cur, 3, rfl, hg, by omega, by omega, by omega, by unfold maxLen at h2; omega⟩, fun b e => ?_⟩
    cases e
    refine ⟨h5, (Array.getElem?_eq_some_iff.1 hg).1, fun cs fz k => ?_⟩
    rw [hg] at k
    simp at k
theorem LentB.W {w : World} {B : Nat} {E : Option Addr} {n k : Nat} {zs : List B8} (h : LentB w B E n k zs) : RowW w (.slice E n k) ∧ ∀ b, Blk (.slice E n k) b → B ≤ b ∧ b < w.heap.size ∧ ∀ cs fz, w.heap[b]? ≠ some (.cells cs 208 fz) := by
  obtain ⟨g, rfl, -, h3, h4, h5, h6⟩ := h
  rcases h6.2 with ⟨e, _⟩ | ⟨g', cap, cur, e, hB, hg, h1, h2, hs, _⟩
  · cases e
  · simp only [Value.slice.injEq, Option.some.injEq, Addr.mk.injEq, and_true] at e
    obtain ⟨rfl, -, rfl⟩ := e
    refine ⟨.inr ⟨g, n, k, cur, 5, rfl, hg, by omega, by omega, by omega, by unfold maxLen at h2; omega⟩, fun b e => ?_⟩
    cases e
    refine ⟨h5, (Array.getElem?_eq_some_iff.1 hg).1, fun cs fz k => ?_⟩
    rw [hg] at k
    simp at k
theorem LentS.W {w : World} {B : Nat} {s : S4} {c : Cfg} (h : LentS w B s c) : CfgW w s ∧ ∀ b, CBlk s b → B ≤ b ∧ b < w.heap.size ∧ ∀ cs fz, w.heap[b]? ≠ some (.cells cs 208 fz) :=
  ⟨⟨h.h0.W.1, h.h1.W.1, h.h2.W.1, h.h3.W.1⟩, fun b e => by
    rcases e with e | e | e | e
    · exact h.h0.W.2 b e
    · exact h.h1.W.2 b e
    · exact h.h2.W.2 b e
    · exact h.h3.W.2 b e⟩
set_option maxRecDepth 100000 in
set_option maxHeartbeats 1000000 in
theorem markEntry2_w (i : Nat) (hi : i ≤ 1000012) (W : World) : Calls Try.prog 168 #[.int .i64 2, .int .i64 (i : Int)] W (fun e w' => (∃ y, e = .returned (.agg #[.int .i64 y, .int .u8 0, .slice none 0 0, .slice none 0 0, .slice none 0 0, .slice none 0 0, .slice none 0 0])) ∧ Ok W w') := by
  have HM := Lib.hid (fun V => markN_w 2 i (by omega) (by omega) V)
  have HOA : Hid (Ok W (W.alloc (.cells #[.int .i64 0, .int .u8 0, .slice none 0 0, .slice none 0 0, .slice none 0 0, .slice none 0 0, .slice none 0 0] 208))) := Lib.hid ((Ok.refl W).alloc _)
  have HB : Hid ((W.alloc (.cells #[.int .i64 0, .int .u8 0, .slice none 0 0, .slice none 0 0, .slice none 0 0, .slice none 0 0, .slice none 0 0] 208)).heap[W.heap.size]? = some (.cells #[.int .i64 0, .int .u8 0, .slice none 0 0, .slice none 0 0, .slice none 0 0, .slice none 0 0, .slice none 0 0] 208 (0, 0))) := Lib.hid (heap_alloc_new W _)
  go_enter Try.func168, Try.ntmps168
  go_wp2_with fail
  obtain ⟨g, hg⟩ : ∃ g, W.heap.size = g := ⟨_, rfl⟩
  have HG := Lib.hid hg
  rw [hg] at HB ⊢
  clear hg
  generalize (W.alloc (.cells #[.int .i64 0, .int .u8 0, .slice none 0 0, .slice none 0 0, .slice none 0 0, .slice none 0 0, .slice none 0 0] 208)) = w1 at *
  refine (HM.out w1).mono ?_
  rintro _ w2 ⟨rfl, rfl⟩
  generalize ((1000003 * (2 + 7) + i : Nat) : Int) = y
  have hx := HB.out
  have c0 : w1.cell? ⟨g, 0, none⟩ = some (.int .i64 0) := (cell_of_heap hx 0).trans rfl
  have c1 : w1.cell? ⟨g, 1, none⟩ = some (.int .u8 0) := (cell_of_heap hx 1).trans rfl
  have c2 : w1.cell? ⟨g, 2, none⟩ = some (.slice none 0 0) := (cell_of_heap hx 2).trans rfl
  have c3 : w1.cell? ⟨g, 3, none⟩ = some (.slice none 0 0) := (cell_of_heap hx 3).trans rfl
  have c4 : w1.cell? ⟨g, 4, none⟩ = some (.slice none 0 0) := (cell_of_heap hx 4).trans rfl
  have c5 : w1.cell? ⟨g, 5, none⟩ = some (.slice none 0 0) := (cell_of_heap hx 5).trans rfl
  have c6 : w1.cell? ⟨g, 6, none⟩ = some (.slice none 0 0) := (cell_of_heap hx 6).trans rfl
  have h0 : w1.frozen? ⟨g, 0, none⟩ = false := frz_raw hx 0
  have h1 : w1.frozen? ⟨g, 1, none⟩ = false := frz_raw hx 1
  have h2 : w1.frozen? ⟨g, 2, none⟩ = false := frz_raw hx 2
  have h3 : w1.frozen? ⟨g, 3, none⟩ = false := frz_raw hx 3
  have h4 : w1.frozen? ⟨g, 4, none⟩ = false := frz_raw hx 4
  have h5 : w1.frozen? ⟨g, 5, none⟩ = false := frz_raw hx 5
  have h6 : w1.frozen? ⟨g, 6, none⟩ = false := frz_raw hx 6
  clear hx
  go_wp2_with fail
  refine bodyPost_ret (v := .agg #[.int .i64 y, .int .u8 0, .slice none 0 0, .slice none 0 0, .slice none 0 0, .slice none 0 0, .slice none 0 0]) (by simp [results, Try.results168, go_sem, c0, c1, c2, c3, c4, c5, c6]; try rfl) rfl ?_
  refine ⟨⟨y, rfl⟩, ?_⟩
  show Below W.heap.size W _
  have hg2 := Nat.le_of_eq HG.out
  repeat refine Below.setCell ?_ hg2 _
  exact HOA.out
set_option maxRecDepth 100000 in
set_option maxHeartbeats 4000000 in
theorem ovEntries_w (A : Option Addr) (n c B : Nat) (l : List En) (W0 W : World) (h : EntsL W0 B A n c l) (ok : Hi B W0 W) (hn6 : n ≤ 100000) : Calls Try.prog 130 #[.slice A n c] W (OvP (fun b => B ≤ b ∧ b < W0.heap.size) W) := by
  obtain ⟨g, rfl, hl, hcap, hat, -⟩ := h.at
  obtain ⟨g', ps, e, -, -, -, hB, hrow, -⟩ := h
  obtain rfl : g = g' := by simpa using e
  rcases hrow.2 with ⟨e, _⟩ | ⟨g', cap, cur, e, -, hg, -, hcm, hs, _⟩
  · cases e
  simp only [Value.slice.injEq, Option.some.injEq, Addr.mk.injEq, and_true] at e
  obtain ⟨rfl, -, rfl⟩ := e
  have HGB0 := Lib.hid hg
  have HGW := Lib.hid (ok.2 g hB (lt_raw2 hg))
  have HGB := Lib.hid (HGW.out.trans hg)
  have HOK := Lib.hid ok
  have HAT := Lib.hid hat
  have HSC := Lib.hid hs
  have HGP : Hid (B ≤ g ∧ g < W0.heap.size) := Lib.hid ⟨hB, (Array.getElem?_eq_some_iff.1 hg).1⟩
  have HL := Lib.hid hl
  have hcm2 : c ≤ 9223372036854775807 := by unfold maxLen at hcm; omega
  clear hg hat hs hrow hB hl hcm ok
  have s1 : wrap64 ((n : Int) + 12) = (n : Int) + 12 := by simp only [wrap64]; omega
  go_enter Try.func130, Try.ntmps130
  go_wp2_with fail
  go_loopw [2] (fun i wr => ∃ j : Nat, j ≤ n ∧ i = .int .i64 j ∧ Tch (fun b => B ≤ b ∧ b < W0.heap.size ∧ b ≠ g) W wr) (fun i _ => n - (intOf i).toNat)
  case atStart => exact ⟨0, Nat.zero_le _, rfl, Tch.refl _ _⟩
  case round =>
    obtain ⟨j, hj, rfl, ht⟩ := hrel
    have HT := Lib.hid ht
    clear ht
    by_cases hlt : j < n
    · obtain ⟨r, hr, hc⟩ := HAT.out j hlt
      have hj0 : (0 : Int) ≤ (j : Int) := Int.natCast_nonneg _
      have hj1 : (j : Int) < (n : Int) := by omega
      have hbk := HT.out.same g (lt_raw2 HGB.out) (fun e => e.2.2 rfl)
      have cg : ∀ {o : Nat} {v : Value}, W0.cell? ⟨g, o, none⟩ = some v → wr.cell? ⟨g, o, none⟩ = some v := fun {o v} hv => by rw [World.cell?_of_block (w := W) hbk, World.cell?_of_block (w := W0) HGW.out]; exact hv
      have c0 : wr.cell? ⟨g, j * 7, none⟩ = some (.int .i64 (enA l j).term) := cg (hc 0 (by decide))
      have c1 : wr.cell? ⟨g, j * 7 + 1, none⟩ = some (.int .u8 (enA l j).kind) := cg (hc 1 (by decide))
      have c2 : wr.cell? ⟨g, j * 7 + 2, none⟩ = some (.slice r.A r.n r.c) := cg (hc 2 (by decide))
      have c3 : wr.cell? ⟨g, j * 7 + 3, none⟩ = some (.slice r.s.A0 r.s.n0 r.s.c0) := cg (hc 3 (by decide))
      have c4 : wr.cell? ⟨g, j * 7 + 4, none⟩ = some (.slice r.s.A1 r.s.n1 r.s.c1) := cg (hc 4 (by decide))
      have c5 : wr.cell? ⟨g, j * 7 + 5, none⟩ = some (.slice r.s.A2 r.s.n2 r.s.c2) := cg (hc 5 (by decide))
      have c6 : wr.cell? ⟨g, j * 7 + 6, none⟩ = some (.slice r.s.A3 r.s.n3 r.s.c3) := cg (hc 6 (by decide))
      have HNE : Hid (∀ b, (Blk (.slice r.A r.n r.c) b ∨ CBlk r.s b) → B ≤ b ∧ b < W0.heap.size ∧ b ≠ g) := Lib.hid (fun b e => by
        obtain ⟨h1, h2, h3⟩ : B ≤ b ∧ b < W0.heap.size ∧ ∀ cs fz, W0.heap[b]? ≠ some (.cells cs 208 fz) := by
          rcases e with e | e
          · exact hr.cmd.W.2 b e
          · exact hr.cfg.W.2 b e
        exact ⟨h1, h2, fun e => h3 _ _ (by rw [e]; exact HGB0.out)⟩)
      have HCC := Lib.hid (ovEntry_w (enA l j).term (enA l j).kind r.A r.n r.c r.s wr ((hr.cfg.W.1.hi HOK.out (fun b e => (hr.cfg.W.2 b e).1)).tch HT.out) ((hr.cmd.W.1.hi HOK.out (fun b e => (hr.cmd.W.2 b e).1)).tch HT.out))
      generalize enA l j = e at *
      have HMS : Hid (n - (j + 1) < n - j) := Lib.hid (by omega)
      have hj5 : j ≤ 100000 := by omega
      clear hr hc hbk cg
      go_wp2_with fail
      clear c0 c1 c2 c3 c4 c5 c6
      (with_reducible refine HCC.out.mono ?_)
      rintro _ w2 ⟨rfl, ht⟩
      have HT2 := Lib.hid (HT.out.trans (ht.mono HNE.out))
      clear ht HCC
      go_wp2_with fail
      exact ⟨⟨j + 1, hlt, by go_num, HT2.out⟩, HMS.out⟩
    · have hje : j = n := by omega
      subst hje
      have HT1 : Hid (Tch (fun b => B ≤ b ∧ b < W0.heap.size) W wr) := Lib.hid (HT.out.mono (fun b e => ⟨e.1, e.2.1⟩))
      have HSS := Lib.hid hlt
      clear hlt HT
      obtain ⟨wb, hwb⟩ : ∃ x, x = wr := ⟨_, rfl⟩
      subst hwb
      by_cases hcn : (j : Int) + 12 < (c : Int)
      · obtain ⟨k, hk⟩ : ∃ k : Nat, (j : Int) + 12 = (k : Int) := ⟨j + 12, by omega⟩
        have HCK : Hid (k ≤ c ∧ k ≤ 1000012) := Lib.hid (by omega)
        have HKK := Lib.hid hk
        rw [hk] at hcn s1
        have d1 : decide ((k : Int) < (c : Int)) = true := decide_eq_true hcn
        have d2 : decide (k < c) = true := decide_eq_true (by omega)
        have hk0 : (0 : Int) ≤ (k : Int) := Int.natCast_nonneg _
        have hki : (k : Int) ≤ (c : Int) := by omega
        go_wp2_with fail
        go_loopw [4] (fun i wr => ∃ j : Nat, j ≤ k ∧ i = .int .i64 j ∧ Tch (fun b => B ≤ b ∧ b < W0.heap.size) W wr) (fun i _ => k - (intOf i).toNat)
        case atStart => exact ⟨0, Nat.zero_le _, rfl, HT1.out⟩
        case round =>
          obtain ⟨j, hj, rfl, ht⟩ := hrel
          have HT := Lib.hid ht
          clear ht
          by_cases hlt : j < k
          · have hj0 : (0 : Int) ≤ (j : Int) := Int.natCast_nonneg _
            have hj1 : (j : Int) < (k : Int) := by omega
            have hj5 : j ≤ 1000012 := by have := HCK.out; omega
            have HJ5 := Lib.hid hj5
            have HMS : Hid (k - (j + 1) < k - j) := Lib.hid (by omega)
            have d2 : decide (j < k) = true := decide_eq_true hlt
            have HLJ : Hid (j * 7 + 6 < c * 7) := Lib.hid (by have := HCK.out; omega)
            have HLK : Hid (j + 1 ≤ k) := Lib.hid hlt
            clear hlt
            go_wp2_with fail
            (with_reducible refine (markEntry2_w j HJ5.out wr).mono ?_)
            rintro _ w2 ⟨⟨y, rfl⟩, o2⟩
            have HT2 : Hid (Tch (fun b => B ≤ b ∧ b < W0.heap.size) W w2) := Lib.hid (HT.out.trans (Tch.ok o2))
            clear o2
            obtain ⟨cs', hb, hs⟩ := HT2.out.shape _ _ _ _ HGB.out
            have HSZ : Hid (j * 7 + 6 < cs'.size) := Lib.hid (by rw [hs, HSC.out]; exact HLJ.out)
            obtain ⟨x0, hx0⟩ : ∃ x, w2.cell? ⟨g, j * 7, none⟩ = some x := ⟨_, (cell_of_heap hb (j * 7)).trans (Array.getElem?_eq_getElem (by have := HSZ.out; omega))⟩
            have hf0 : w2.frozen? ⟨g, j * 7, none⟩ = false := frz_raw hb _
            obtain ⟨x1, hx1⟩ : ∃ x, w2.cell? ⟨g, j * 7 + 1, none⟩ = some x := ⟨_, (cell_of_heap hb (j * 7 + 1)).trans (Array.getElem?_eq_getElem (by have := HSZ.out; omega))⟩
            have hf1 : w2.frozen? ⟨g, j * 7 + 1, none⟩ = false := frz_raw hb _
            obtain ⟨x2, hx2⟩ : ∃ x, w2.cell? ⟨g, j * 7 + 2, none⟩ = some x := ⟨_, (cell_of_heap hb (j * 7 + 2)).trans (Array.getElem?_eq_getElem (by have := HSZ.out; omega))⟩
            have hf2 : w2.frozen? ⟨g, j * 7 + 2, none⟩ = false := frz_raw hb _
            obtain ⟨x3, hx3⟩ : ∃ x, w2.cell? ⟨g, j * 7 + 3, none⟩ = some x := ⟨_, (cell_of_heap hb (j * 7 + 3)).trans (Array.getElem?_eq_getElem (by have := HSZ.out; omega))⟩
            have hf3 : w2.frozen? ⟨g, j * 7 + 3, none⟩ = false := frz_raw hb _
            obtain ⟨x4, hx4⟩ : ∃ x, w2.cell? ⟨g, j * 7 + 4, none⟩ = some x := ⟨_, (cell_of_heap hb (j * 7 + 4)).trans (Array.getElem?_eq_getElem (by have := HSZ.out; omega))⟩
            have hf4 : w2.frozen? ⟨g, j * 7 + 4, none⟩ = false := frz_raw hb _
            obtain ⟨x5, hx5⟩ : ∃ x, w2.cell? ⟨g, j * 7 + 5, none⟩ = some x := ⟨_, (cell_of_heap hb (j * 7 + 5)).trans (Array.getElem?_eq_getElem (by have := HSZ.out; omega))⟩
            have hf5 : w2.frozen? ⟨g, j * 7 + 5, none⟩ = false := frz_raw hb _
            obtain ⟨x6, hx6⟩ : ∃ x, w2.cell? ⟨g, j * 7 + 6, none⟩ = some x := ⟨_, (cell_of_heap hb (j * 7 + 6)).trans (Array.getElem?_eq_getElem (by have := HSZ.out; omega))⟩
            have hf6 : w2.frozen? ⟨g, j * 7 + 6, none⟩ = false := frz_raw hb _
            have HFIN : Hid (∀ v0 v1 v2 v3 v4 v5 v6 : Value, Tch (fun b => B ≤ b ∧ b < W0.heap.size) W (((((((w2.setCell ⟨g, j * 7, none⟩ v0).setCell ⟨g, j * 7 + 1, none⟩ v1).setCell ⟨g, j * 7 + 2, none⟩ v2).setCell ⟨g, j * 7 + 3, none⟩ v3).setCell ⟨g, j * 7 + 4, none⟩ v4).setCell ⟨g, j * 7 + 5, none⟩ v5).setCell ⟨g, j * 7 + 6, none⟩ v6)) := Lib.hid fun v0 v1 v2 v3 v4 v5 v6 =>
              ((((((HT2.out.set HGP.out _ v0).set HGP.out _ v1).set HGP.out _ v2).set HGP.out _ v3).set HGP.out _ v4).set HGP.out _ v5).set HGP.out _ v6
            clear hb hs
            go_wp2_with fail
            exact ⟨⟨j + 1, HLK.out, by go_num, HFIN.out _ _ _ _ _ _ _⟩, HMS.out⟩
          · have hje : j = k := by omega
            subst hje
            go_wp2_with fail
            go_end0
            exact ⟨rfl, HT.out⟩
      · have d1 : decide ((j : Int) + 12 < (c : Int)) = false := decide_eq_false hcn
        have hc0 : (0 : Int) ≤ (c : Int) := Int.natCast_nonneg _
        have HCK : Hid (c ≤ c ∧ c ≤ 1000012) := Lib.hid (by omega)
        go_wp2_with fail
        go_loopw [4] (fun i wr => ∃ j : Nat, j ≤ c ∧ i = .int .i64 j ∧ Tch (fun b => B ≤ b ∧ b < W0.heap.size) W wr) (fun i _ => c - (intOf i).toNat)
        case atStart => exact ⟨0, Nat.zero_le _, rfl, HT1.out⟩
        case round =>
          obtain ⟨j, hj, rfl, ht⟩ := hrel
          have HT := Lib.hid ht
          clear ht
          by_cases hlt : j < c
          · have hj0 : (0 : Int) ≤ (j : Int) := Int.natCast_nonneg _
            have hj1 : (j : Int) < (c : Int) := by omega
            have hj5 : j ≤ 1000012 := by have := HCK.out; omega
            have HJ5 := Lib.hid hj5
            have HMS : Hid (c - (j + 1) < c - j) := Lib.hid (by omega)
            have d2 : decide (j < c) = true := decide_eq_true hlt
            have HLJ : Hid (j * 7 + 6 < c * 7) := Lib.hid (by have := HCK.out; omega)
            have HLK : Hid (j + 1 ≤ c) := Lib.hid hlt
            clear hlt
            go_wp2_with fail
            (with_reducible refine (markEntry2_w j HJ5.out wr).mono ?_)
            rintro _ w2 ⟨⟨y, rfl⟩, o2⟩
            have HT2 : Hid (Tch (fun b => B ≤ b ∧ b < W0.heap.size) W w2) := Lib.hid (HT.out.trans (Tch.ok o2))
            clear o2
            obtain ⟨cs', hb, hs⟩ := HT2.out.shape _ _ _ _ HGB.out
            have HSZ : Hid (j * 7 + 6 < cs'.size) := Lib.hid (by rw [hs, HSC.out]; exact HLJ.out)
            obtain ⟨x0, hx0⟩ : ∃ x, w2.cell? ⟨g, j * 7, none⟩ = some x := ⟨_, (cell_of_heap hb (j * 7)).trans (Array.getElem?_eq_getElem (by have := HSZ.out; omega))⟩
            have hf0 : w2.frozen? ⟨g, j * 7, none⟩ = false := frz_raw hb _
            obtain ⟨x1, hx1⟩ : ∃ x, w2.cell? ⟨g, j * 7 + 1, none⟩ = some x := ⟨_, (cell_of_heap hb (j * 7 + 1)).trans (Array.getElem?_eq_getElem (by have := HSZ.out; omega))⟩
            have hf1 : w2.frozen? ⟨g, j * 7 + 1, none⟩ = false := frz_raw hb _
            obtain ⟨x2, hx2⟩ : ∃ x, w2.cell? ⟨g, j * 7 + 2, none⟩ = some x := ⟨_, (cell_of_heap hb (j * 7 + 2)).trans (Array.getElem?_eq_getElem (by have := HSZ.out; omega))⟩
            have hf2 : w2.frozen? ⟨g, j * 7 + 2, none⟩ = false := frz_raw hb _
            obtain ⟨x3, hx3⟩ : ∃ x, w2.cell? ⟨g, j * 7 + 3, none⟩ = some x := ⟨_, (cell_of_heap hb (j * 7 + 3)).trans (Array.getElem?_eq_getElem (by have := HSZ.out; omega))⟩
            have hf3 : w2.frozen? ⟨g, j * 7 + 3, none⟩ = false := frz_raw hb _
            obtain ⟨x4, hx4⟩ : ∃ x, w2.cell? ⟨g, j * 7 + 4, none⟩ = some x := ⟨_, (cell_of_heap hb (j * 7 + 4)).trans (Array.getElem?_eq_getElem (by have := HSZ.out; omega))⟩
            have hf4 : w2.frozen? ⟨g, j * 7 + 4, none⟩ = false := frz_raw hb _
            obtain ⟨x5, hx5⟩ : ∃ x, w2.cell? ⟨g, j * 7 + 5, none⟩ = some x := ⟨_, (cell_of_heap hb (j * 7 + 5)).trans (Array.getElem?_eq_getElem (by have := HSZ.out; omega))⟩
            have hf5 : w2.frozen? ⟨g, j * 7 + 5, none⟩ = false := frz_raw hb _
            obtain ⟨x6, hx6⟩ : ∃ x, w2.cell? ⟨g, j * 7 + 6, none⟩ = some x := ⟨_, (cell_of_heap hb (j * 7 + 6)).trans (Array.getElem?_eq_getElem (by have := HSZ.out; omega))⟩
            have hf6 : w2.frozen? ⟨g, j * 7 + 6, none⟩ = false := frz_raw hb _
            have HFIN : Hid (∀ v0 v1 v2 v3 v4 v5 v6 : Value, Tch (fun b => B ≤ b ∧ b < W0.heap.size) W (((((((w2.setCell ⟨g, j * 7, none⟩ v0).setCell ⟨g, j * 7 + 1, none⟩ v1).setCell ⟨g, j * 7 + 2, none⟩ v2).setCell ⟨g, j * 7 + 3, none⟩ v3).setCell ⟨g, j * 7 + 4, none⟩ v4).setCell ⟨g, j * 7 + 5, none⟩ v5).setCell ⟨g, j * 7 + 6, none⟩ v6)) := Lib.hid fun v0 v1 v2 v3 v4 v5 v6 =>
              ((((((HT2.out.set HGP.out _ v0).set HGP.out _ v1).set HGP.out _ v2).set HGP.out _ v3).set HGP.out _ v4).set HGP.out _ v5).set HGP.out _ v6
            clear hb hs
            go_wp2_with fail
            exact ⟨⟨j + 1, HLK.out, by go_num, HFIN.out _ _ _ _ _ _ _⟩, HMS.out⟩
          · have hje : j = c := by omega
            subst hje
            go_wp2_with fail
            go_end0
            exact ⟨rfl, HT.out⟩
set_option maxRecDepth 100000 in
set_option maxHeartbeats 4000000 in
theorem ovLetter_w (r : LR) (x : Lt) (B : Nat) (W0 W : World) (h : LtL W0 B r x) (k : Hi B W0 W) : Calls Try.prog 70 #[.agg (r.cells x).toArray] W (OvP (fun b => B ≤ b ∧ b < W0.heap.size) W) := by
  have HE := Lib.hid (fun V (o : Ok W V) => ovEntries_w r.eA x.es.length r.ec B x.es W0 V h.es (k.trans (Hi.ok o)) h.en)
  have HC : Hid (CfgW W r.s ∧ ∀ b, CBlk r.s b → B ≤ b ∧ b < W0.heap.size) := Lib.hid ⟨h.cfg.W.1.hi k (fun b e => (h.cfg.W.2 b e).1), fun b e => ⟨(h.cfg.W.2 b e).1, (h.cfg.W.2 b e).2.1⟩⟩
  have HB : Hid (RowW W (.slice r.bA r.bn r.bc) ∧ ∀ b, Blk (.slice r.bA r.bn r.bc) b → B ≤ b ∧ b < W0.heap.size) := Lib.hid ⟨h.bytes.W.1.hi k (fun b e => (h.bytes.W.2 b e).1), fun b e => ⟨(h.bytes.W.2 b e).1, (h.bytes.W.2 b e).2.1⟩⟩
  have HK0 := Lib.hid k.1
  clear h k
  have HX0 : Hid ((W.alloc (.cells (r.cells x).toArray 95)).heap[W.heap.size]? = some (.cells (r.cells x).toArray 95 (0, 0))) := Lib.hid (heap_alloc_new W _)
  have HT0 : Hid (Tch (fun b => B ≤ b ∧ b < W0.heap.size) W (W.alloc (.cells (r.cells x).toArray 95))) := Lib.hid (Tch.ok ((Ok.refl W).alloc _))
  have HL0 : Hid (W.heap.size < (W.alloc (.cells (r.cells x).toArray 95)).heap.size) := Lib.hid (by rw [World.size_alloc]; omega)
  have HOK0 : Hid (Ok W (W.alloc (.cells (r.cells x).toArray 95))) := Lib.hid ((Ok.refl W).alloc _)
  go_enter Try.func70, Try.ntmps70
  go_upto_region 1 with fail
  generalize W.alloc (.cells (r.cells x).toArray 95) = w0 at *
  obtain ⟨g, hg⟩ : ∃ g, W.heap.size = g := ⟨_, rfl⟩
  have HG := Lib.hid hg
  rw [hg] at HX0 HL0 ⊢
  clear hg
  have a9 : w0.cell? ⟨g, 9, none⟩ = some (.slice r.eA x.es.length r.ec) := (cell_of_heap HX0.out 9).trans rfl
  have HCC := Lib.hid (HE.out w0 HOK0.out)
  go_wp2_with fail
  clear a9
  (with_reducible refine HCC.out.mono ?_)
  rintro _ w1 ⟨rfl, ht⟩
  clear HCC
  have HX1 : Hid (w1.heap[g]? = some (.cells (r.cells x).toArray 95 (0, 0))) := Lib.hid ((ht.same g HL0.out (fun e => absurd (Nat.lt_of_lt_of_le e.2 HK0.out) (by have := HG.out; omega))).trans HX0.out)
  have HT1 : Hid (Tch (fun b => B ≤ b ∧ b < W0.heap.size) W w1) := Lib.hid (HT0.out.trans (ht.mono (fun b e => ⟨e.1, e.2⟩)))
  have HL1 : Hid (g < w1.heap.size) := Lib.hid (Nat.lt_of_lt_of_le HL0.out ht.size)
  clear ht HX0 HT0 HL0
  have a10 : w1.cell? ⟨g, 10, none⟩ = some (.int .i64 x.bi) := (cell_of_heap HX1.out 10).trans rfl
  have a11 : w1.cell? ⟨g, 11, none⟩ = some (.int .i64 x.bt) := (cell_of_heap HX1.out 11).trans rfl
  have a12 : w1.cell? ⟨g, 12, none⟩ = some (.slice r.s.A0 r.s.n0 r.s.c0) := (cell_of_heap HX1.out 12).trans rfl
  have a13 : w1.cell? ⟨g, 13, none⟩ = some (.slice r.s.A1 r.s.n1 r.s.c1) := (cell_of_heap HX1.out 13).trans rfl
  have a14 : w1.cell? ⟨g, 14, none⟩ = some (.slice r.s.A2 r.s.n2 r.s.c2) := (cell_of_heap HX1.out 14).trans rfl
  have a15 : w1.cell? ⟨g, 15, none⟩ = some (.slice r.s.A3 r.s.n3 r.s.c3) := (cell_of_heap HX1.out 15).trans rfl
  have HCC := Lib.hid (ovBase_w x.bi x.bt r.s w1 (HC.out.1.tch HT1.out))
  go_wp2_with fail
  clear a10 a11 a12 a13 a14 a15
  (with_reducible refine HCC.out.mono ?_)
  rintro _ w2 ⟨rfl, ht⟩
  clear HCC
  have HX2 : Hid (w2.heap[g]? = some (.cells (r.cells x).toArray 95 (0, 0))) := Lib.hid ((ht.same g HL1.out (fun e => absurd (Nat.lt_of_lt_of_le (HC.out.2 _ e).2 HK0.out) (by have := HG.out; omega))).trans HX1.out)
  have HT2 : Hid (Tch (fun b => B ≤ b ∧ b < W0.heap.size) W w2) := Lib.hid (HT1.out.trans (ht.mono (fun b e => HC.out.2 b e)))
  have HL2 : Hid (g < w2.heap.size) := Lib.hid (Nat.lt_of_lt_of_le HL1.out ht.size)
  clear ht HX1 HT1 HL1
  have a19 : w2.cell? ⟨g, 19, none⟩ = some (.slice r.bA r.bn r.bc) := (cell_of_heap HX2.out 19).trans rfl
  have HCC := Lib.hid (ovBytes_w (.slice r.bA r.bn r.bc) w2 (HB.out.1.tch HT2.out))
  go_wp2_with fail
  clear a19
  (with_reducible refine HCC.out.mono ?_)
  rintro _ w3 ⟨rfl, ht⟩
  clear HCC
  have HX3 : Hid (w3.heap[g]? = some (.cells (r.cells x).toArray 95 (0, 0))) := Lib.hid ((ht.same g HL2.out (fun e => absurd (Nat.lt_of_lt_of_le (HB.out.2 _ e).2 HK0.out) (by have := HG.out; omega))).trans HX2.out)
  have HT3 : Hid (Tch (fun b => B ≤ b ∧ b < W0.heap.size) W w3) := Lib.hid (HT2.out.trans (ht.mono (fun b e => HB.out.2 b e)))
  have HL3 : Hid (g < w3.heap.size) := Lib.hid (Nat.lt_of_lt_of_le HL2.out ht.size)
  clear ht HX2 HT2 HL2
  go_wp2_with fail
  go_end0
  exact ⟨rfl, HT3.out⟩
end Go.Proofs.Ytolfdncmlfnbdaa
namespace Go.Proofs.Ytolfdncmlfnbdaa
open Go.RowKit

/-- What a piece leaves: nothing is taken; or these bytes are there. -/
def Outc (tm0 i0 t0 sz0 : Int) (u0 : Bool) (xs : List B8) (x : Lt) (n : Nat) : Option (List B8) :=
  if mayB x n = false then none
  else if crossB tm0 i0 t0 sz0 u0 x.term x.bi x.bt x.size = false ∧ 0 < x.at_ then none
  else some (laid (if crossB tm0 i0 t0 sz0 u0 x.term x.bi x.bt x.size = true then xs else []) x.bytes x.at_.toNat)
/-- What a ferry has is no more than its crossing's size. -/
def FInv (sz0 : Int) (u0 : Bool) (xs : List B8) : Prop := u0 = true → (xs.length : Int) ≤ sz0
def TakeP (p : Nat) (tm0 i0 t0 sz0 : Int) (u0 : Bool) (A : Option Addr) (n c : Nat) (xs : List B8) (x : Lt) (m : Nat) (W : World) (e : Ending) (w' : World) : Prop :=
  match Outc tm0 i0 t0 sz0 u0 xs x m with
  | none => TakeNo p tm0 i0 t0 sz0 u0 A n c xs W e w'
  | some zs => TakeYes p x.term x.bi x.bt x.size.toNat x.cfg A n c W zs e w'
def RTakeP (p : Nat) (tm0 i0 t0 sz0 : Int) (u0 : Bool) (A : Option Addr) (n c : Nat) (xs : List B8) (x : Lt) (m : Nat) (W : World) (e : Ending) (w' : World) : Prop :=
  match Outc tm0 i0 t0 sz0 u0 xs x m with
  | none => RNo p tm0 i0 t0 sz0 u0 A n c xs W e w'
  | some zs => RYes p x.term x.bi x.bt x.size.toNat x.cfg A n c W zs e w'
theorem lit_eq (r : LR) (x : Lt) (L a : Nat) (hk : x.kind = 5) (hs : x.size = (L : Int)) (ha : x.at_ = (a : Int)) : Value.agg (r.cells x).toArray = .agg #[.int .u8 5, .int .i64 x.group, .int .i64 x.from_, .int .i64 x.to_, .int .i64 x.term, .int .i64 x.index, .int .i64 x.logterm, .int .i64 x.commit, .bool x.ok, .slice r.eA x.es.length r.ec, .int .i64 x.bi, .int .i64 x.bt, .slice r.s.A0 r.s.n0 r.s.c0, .slice r.s.A1 r.s.n1 r.s.c1, .slice r.s.A2 r.s.n2 r.s.c2, .slice r.s.A3 r.s.n3 r.s.c3, .int .i64 (L : Int), .int .i64 (a : Int), .int .i64 x.tag, .slice r.bA r.bn r.bc] := by
  unfold LR.cells
  rw [hk, hs, ha]
set_option maxRecDepth 100000 in
theorem take_all (r : LR) (x : Lt) (p : Nat) (tm0 i0 t0 sz0 : Int) (u0 : Bool) (A : Option Addr) (n c : Nat) (xs : List B8) (W : World) (h : FAt p tm0 i0 t0 sz0 u0 A n c xs W) (hi : FInv sz0 u0 xs)
    (HX : ∀ w', Fr p A n c W w' → LtAt w' r x) (hf : Fine x.cfg) : Calls Try.prog 77 #[.pointer (some ⟨p, 0, none⟩), .agg (r.cells x).toArray] W (TakeP p tm0 i0 t0 sz0 u0 A n c xs x r.bn W) := by
  have hlen : x.bytes.length = r.bn := (BytesIn.len' (HX W (Fr.refl _ _ _ _ _)).bytes).1
  have HX2 : ∀ w', Fr p A n c W w' → CfgAt w' r.s x.cfg ∧ BytesIn w' (.slice r.bA r.bn r.bc) x.bytes := fun w' k => by
    have q := HX w' k
    have hc := CfgIn.parts q.cfg
    exact ⟨⟨hc.1, hc.2.1, hc.2.2.1, hc.2.2.2⟩, q.bytes⟩
  unfold TakeP Outc
  cases hb : mayB x r.bn with
  | false =>
    rw [if_pos rfl]
    exact take_bad x r p tm0 i0 t0 sz0 u0 A n c xs W h hb
  | true =>
    rw [if_neg (fun q => by cases q)]
    obtain ⟨hk, L, a, hs, ha, h1, h2, h3⟩ := mayB_and hb
    have hk5 : x.kind = 5 := by simpa using hk
    rw [lit_eq r x L a hk5 hs ha]
    have hL : x.size.toNat = L := by omega
    have ha2 : x.at_.toNat = a := by omega
    rw [hL, ha2]
    cases hc : crossB tm0 i0 t0 sz0 u0 x.term x.bi x.bt x.size with
    | true =>
      rw [if_neg (fun q => by cases q.1), if_pos rfl]
      obtain ⟨rfl, rfl, rfl, rfl, rfl⟩ := crossB_eq hc
      have hn := h.len
      have hnL : n ≤ L := by have := hi rfl; omega
      rw [hs] at h
      by_cases han : a ≤ n
      · exact takeSame_f x r p x.term x.bi x.bt r.s x.cfg L a r.bn r.bc r.bA A n c xs x.bytes W h hlen.symm h1 h2 h3 han hnL HX2 hf.1 hf.2.1 hf.2.2.1 hf.2.2.2
      · exact takeGap_f x r p x.term x.bi x.bt r.s x.cfg L a r.bn r.bc r.bA A n c xs x.bytes W h hlen.symm h1 h2 h3 (by omega) hnL HX2
    | false =>
      rw [hs] at hc
      by_cases h0 : 0 < a
      · rw [if_pos ⟨rfl, by omega⟩]
        exact take_no x r p x.term x.bi x.bt r.s L a r.bn r.bc r.bA tm0 i0 t0 sz0 u0 A n c xs W h hc h0 h1 h2 h3
      · rw [if_neg (fun q => by have := q.2; omega), if_neg (fun q => by cases q)]
        exact takeBegin_f x r p x.term x.bi x.bt r.s x.cfg L a r.bn r.bc r.bA tm0 i0 t0 sz0 u0 A n c xs none 0 0 [] x.bytes W h hc ⟨rfl, rfl, rfl, rfl⟩ (by omega) hlen.symm h1 h2 h3 HX2 hf.1 hf.2.1 hf.2.2.1 hf.2.2.2
set_option maxRecDepth 100000 in
theorem rtake_all (r : LR) (x : Lt) (p : Nat) (tm0 i0 t0 sz0 : Int) (u0 : Bool) (A : Option Addr) (n c : Nat) (xs : List B8) (W : World) (h : RAt p tm0 i0 t0 sz0 u0 A n c xs W) (hi : FInv sz0 u0 xs)
    (HX : ∀ w', Fr p A n c W w' → LtAt w' r x) (hf : Fine x.cfg) (hsp : ∀ b o s, r.bA = some ⟨b, o, s⟩ → 0 < r.bn → (Value.slice A n c).ownBlock ≠ some b) : Calls Try.prog 78 #[.pointer (some ⟨p, 0, none⟩), .agg (r.cells x).toArray] W (RTakeP p tm0 i0 t0 sz0 u0 A n c xs x r.bn W) := by
  have hlen : x.bytes.length = r.bn := (BytesIn.len' (HX W (Fr.refl _ _ _ _ _)).bytes).1
  have HX2 : ∀ w', Fr p A n c W w' → CfgIn w' r.s.v x.cfg ∧ BytesIn w' (.slice r.bA r.bn r.bc) x.bytes := fun w' k => ⟨(HX w' k).cfg, (HX w' k).bytes⟩
  unfold RTakeP Outc
  show Calls Try.prog 78 #[.pointer (some ⟨p, 0, none⟩), .agg #[.int .u8 x.kind, .int .i64 x.group, .int .i64 x.from_, .int .i64 x.to_, .int .i64 x.term, .int .i64 x.index, .int .i64 x.logterm, .int .i64 x.commit, .bool x.ok, .slice r.eA x.es.length r.ec, .int .i64 x.bi, .int .i64 x.bt, .slice r.s.A0 r.s.n0 r.s.c0, .slice r.s.A1 r.s.n1 r.s.c1, .slice r.s.A2 r.s.n2 r.s.c2, .slice r.s.A3 r.s.n3 r.s.c3, .int .i64 x.size, .int .i64 x.at_, .int .i64 x.tag, .slice r.bA r.bn r.bc]] W _
  cases hb : mayB x r.bn with
  | false =>
    rw [if_pos rfl]
    exact rtakeBad x r p tm0 i0 t0 sz0 u0 A n c xs W h hb
  | true =>
    rw [if_neg (fun q => by cases q)]
    obtain ⟨hk, L, a, hs, ha, h1, h2, h3⟩ := mayB_and hb
    have hL : x.size.toNat = L := by omega
    have ha2 : x.at_.toNat = a := by omega
    rw [hL, ha2]
    cases hc : crossB tm0 i0 t0 sz0 u0 x.term x.bi x.bt x.size with
    | true =>
      rw [if_neg (fun q => by cases q.1), if_pos rfl]
      have hn := h.len
      have hnL : n ≤ L := by
        obtain ⟨e1, -, -, -, e2⟩ := crossB_eq hc
        have := hi e1
        omega
      exact rtakeSame x r p tm0 i0 t0 sz0 u0 A n c xs W L a h hk hs ha h1 h2 h3 x.cfg x.bytes hlen.symm HX2 hf hsp hc hnL
    | false =>
      by_cases h0 : 0 < a
      · rw [if_pos ⟨rfl, by omega⟩]
        exact rtakeNo x r p tm0 i0 t0 sz0 u0 A n c xs W L a h hk hs ha h1 h2 h3 hc h0
      · rw [if_neg (fun q => by have := q.2; omega), if_neg (fun q => by cases q)]
        exact rtakeBegin x r p tm0 i0 t0 sz0 u0 A n c xs W L a h hk hs ha h1 h2 h3 x.cfg x.bytes hlen.symm HX2 hf hsp hc (by omega) none 0 0 [] ⟨rfl, rfl, rfl, rfl⟩
end Go.Proofs.Ytolfdncmlfnbdaa
namespace Go.Proofs.Ytolfdncmlfnbdaa
open Go.RowKit
theorem lt_raw3 {w : World} {p : Nat} {o : Obj} (h : w.heap[p]? = some o) : p < w.heap.size := (Array.getElem?_eq_some_iff.1 h).1
theorem fnone_nil (W : World) : Calls Try.prog 134 #[.pointer none] W fun e w' => e = .returned (.bool true) ∧ Ok W w' := by
  go_enter Try.func134, Try.ntmps134
  go_wp2_with fail
  go_ret
  exact ⟨rfl, Ok.refl _⟩
theorem fnone_odd (p : Nat) (W : World) (c6 : W.cell? ⟨p, 6, none⟩ = some (.bool false)) : Calls Try.prog 134 #[.pointer (some ⟨p, 0, none⟩)] W fun e w' => e = .returned (.bool true) ∧ Ok W w' := by
  go_enter Try.func134, Try.ntmps134
  go_wp2_with fail
  go_ret
  exact ⟨rfl, Ok.refl _⟩
theorem fdrop_nil (W : World) : Calls Try.prog 75 #[.pointer none] W fun e w' => e = .returned (.tuple #[]) ∧ Ok W w' := by
  go_enter Try.func75, Try.ntmps75
  go_wp2_with fail
  (with_reducible refine (fnone_nil W).mono ?_)
  rintro _ w1 ⟨rfl, o1⟩
  go_wp2_with fail
  go_end0
  exact ⟨rfl, o1⟩
set_option maxRecDepth 100000 in
set_option maxHeartbeats 4000000 in
theorem ftake_none (v : Value) (r : LR) (x : Lt) (W : World) (hn : ∀ V, Ok W V → Calls Try.prog 134 #[v] V fun e w' => e = .returned (.bool true) ∧ Ok V w') :
    Calls Try.prog 77 #[v, .agg #[.int .u8 x.kind, .int .i64 x.group, .int .i64 x.from_, .int .i64 x.to_, .int .i64 x.term, .int .i64 x.index, .int .i64 x.logterm, .int .i64 x.commit, .bool x.ok, .slice r.eA x.es.length r.ec, .int .i64 x.bi, .int .i64 x.bt, .slice r.s.A0 r.s.n0 r.s.c0, .slice r.s.A1 r.s.n1 r.s.c1, .slice r.s.A2 r.s.n2 r.s.c2, .slice r.s.A3 r.s.n3 r.s.c3, .int .i64 x.size, .int .i64 x.at_, .int .i64 x.tag, .slice r.bA r.bn r.bc]] W fun e w' => e = .returned (.tuple #[.int .i64 0, .bool false, .agg #[.int .i64 0, .int .i64 0, .slice none 0 0, .slice none 0 0, .slice none 0 0, .slice none 0 0, .slice none 0 0]]) ∧ Ok W w' := by
  have HO : Hid (Ok W ((W.alloc (.cells #[.int .u8 x.kind, .int .i64 x.group, .int .i64 x.from_, .int .i64 x.to_, .int .i64 x.term, .int .i64 x.index, .int .i64 x.logterm, .int .i64 x.commit, .bool x.ok, .slice r.eA x.es.length r.ec, .int .i64 x.bi, .int .i64 x.bt, .slice r.s.A0 r.s.n0 r.s.c0, .slice r.s.A1 r.s.n1 r.s.c1, .slice r.s.A2 r.s.n2 r.s.c2, .slice r.s.A3 r.s.n3 r.s.c3, .int .i64 x.size, .int .i64 x.at_, .int .i64 x.tag, .slice r.bA r.bn r.bc] 95)).alloc (.cells #[.int .i64 0, .int .i64 0, .slice none 0 0, .slice none 0 0, .slice none 0 0, .slice none 0 0, .slice none 0 0] 97))) := Lib.hid (((Ok.refl W).alloc _).alloc _)
  have HI : Hid (((W.alloc (.cells #[.int .u8 x.kind, .int .i64 x.group, .int .i64 x.from_, .int .i64 x.to_, .int .i64 x.term, .int .i64 x.index, .int .i64 x.logterm, .int .i64 x.commit, .bool x.ok, .slice r.eA x.es.length r.ec, .int .i64 x.bi, .int .i64 x.bt, .slice r.s.A0 r.s.n0 r.s.c0, .slice r.s.A1 r.s.n1 r.s.c1, .slice r.s.A2 r.s.n2 r.s.c2, .slice r.s.A3 r.s.n3 r.s.c3, .int .i64 x.size, .int .i64 x.at_, .int .i64 x.tag, .slice r.bA r.bn r.bc] 95)).alloc (.cells #[.int .i64 0, .int .i64 0, .slice none 0 0, .slice none 0 0, .slice none 0 0, .slice none 0 0, .slice none 0 0] 97)).heap[W.heap.size + 1]? = some (.cells #[.int .i64 0, .int .i64 0, .slice none 0 0, .slice none 0 0, .slice none 0 0, .slice none 0 0, .slice none 0 0] 97 (0, 0))) := Lib.hid (blk_new (by rw [World.size_alloc]))
  have HN := Lib.hid hn
  clear hn
  go_enter Try.func77, Try.ntmps77
  go_upto_region 1 with fail
  generalize ((W.alloc (.cells #[.int .u8 x.kind, .int .i64 x.group, .int .i64 x.from_, .int .i64 x.to_, .int .i64 x.term, .int .i64 x.index, .int .i64 x.logterm, .int .i64 x.commit, .bool x.ok, .slice r.eA x.es.length r.ec, .int .i64 x.bi, .int .i64 x.bt, .slice r.s.A0 r.s.n0 r.s.c0, .slice r.s.A1 r.s.n1 r.s.c1, .slice r.s.A2 r.s.n2 r.s.c2, .slice r.s.A3 r.s.n3 r.s.c3, .int .i64 x.size, .int .i64 x.at_, .int .i64 x.tag, .slice r.bA r.bn r.bc] 95)).alloc (.cells #[.int .i64 0, .int .i64 0, .slice none 0 0, .slice none 0 0, .slice none 0 0, .slice none 0 0, .slice none 0 0] 97)) = w0 at *
  obtain ⟨g, hg⟩ : ∃ g, W.heap.size = g := ⟨_, rfl⟩
  have HG := Lib.hid hg
  rw [hg] at HI ⊢
  clear hg
  go_wp2_with fail
  (with_reducible refine (HN.out w0 HO.out).mono ?_)
  rintro _ w1 ⟨rfl, o1⟩
  have HO1 := Lib.hid (HO.out.trans o1)
  have HI1 := Lib.hid (blk_ok o1 HI.out)
  clear o1
  have z0 : w1.cell? ⟨g + 1, 0, none⟩ = some (.int .i64 0) := (cell_of_heap HI1.out 0).trans rfl
  have y0 : w1.frozen? ⟨g + 1, 0, none⟩ = false := frz_raw HI1.out 0
  have z1 : w1.cell? ⟨g + 1, 1, none⟩ = some (.int .i64 0) := (cell_of_heap HI1.out 1).trans rfl
  have y1 : w1.frozen? ⟨g + 1, 1, none⟩ = false := frz_raw HI1.out 1
  have z2 : w1.cell? ⟨g + 1, 2, none⟩ = some (.slice none 0 0) := (cell_of_heap HI1.out 2).trans rfl
  have y2 : w1.frozen? ⟨g + 1, 2, none⟩ = false := frz_raw HI1.out 2
  have z3 : w1.cell? ⟨g + 1, 3, none⟩ = some (.slice none 0 0) := (cell_of_heap HI1.out 3).trans rfl
  have y3 : w1.frozen? ⟨g + 1, 3, none⟩ = false := frz_raw HI1.out 3
  have z4 : w1.cell? ⟨g + 1, 4, none⟩ = some (.slice none 0 0) := (cell_of_heap HI1.out 4).trans rfl
  have y4 : w1.frozen? ⟨g + 1, 4, none⟩ = false := frz_raw HI1.out 4
  have z5 : w1.cell? ⟨g + 1, 5, none⟩ = some (.slice none 0 0) := (cell_of_heap HI1.out 5).trans rfl
  have y5 : w1.frozen? ⟨g + 1, 5, none⟩ = false := frz_raw HI1.out 5
  have z6 : w1.cell? ⟨g + 1, 6, none⟩ = some (.slice none 0 0) := (cell_of_heap HI1.out 6).trans rfl
  have y6 : w1.frozen? ⟨g + 1, 6, none⟩ = false := frz_raw HI1.out 6
  go_upto_region 2 with fail
  go_wp2_with fail
  refine bodyPost_ret (v := .tuple #[.int .i64 0, .bool false, .agg #[.int .i64 0, .int .i64 0, .slice none 0 0, .slice none 0 0, .slice none 0 0, .slice none 0 0, .slice none 0 0]]) (by simp [results, Try.results77, go_sem, z0, z1, z2, z3, z4, z5, z6]; try rfl) rfl ?_
  clear z0 z1 z2 z3 z4 z5 z6 y0 y1 y2 y3 y4 y5 y6
  refine ⟨rfl, ?_⟩
  have hgW : W.heap.size ≤ g + 1 := by have := HG.out; omega
  show Below W.heap.size W _
  (repeat (refine Below.setCell ?_ hgW _)); exact HO1.out
end Go.Proofs.Ytolfdncmlfnbdaa
namespace Go.Proofs.Ytolfdncmlfnbdaa
open Go.RowKit

/-- A ferry's state. -/
structure FState where
  tm : Int
  i : Int
  t : Int
  sz : Int
  u : Bool
  xs : List B8
def fs0 : FState := ⟨0, 0, 0, 0, false, []⟩
def im0 : Im := ⟨0, 0, ⟨[], [], [], []⟩, []⟩
def FState.inv (f : FState) : Prop := f.u = true → (f.xs.length : Int) ≤ f.sz
/-- What a letter leaves, and what is told. -/
def FState.next (f : FState) (x : Lt) (m : Nat) : FState × Nat × Bool × Im :=
  match Outc f.tm f.i f.t f.sz f.u f.xs x m with
  | none => (f, 0, false, im0)
  | some zs => if zs.length = x.size.toNat then (fs0, zs.length, true, ⟨x.bi, x.bt, x.cfg, zs⟩) else (⟨x.term, x.bi, x.bt, x.size, true, zs⟩, zs.length, false, im0)
theorem outc_some {tm0 i0 t0 sz0 : Int} {u0 : Bool} {xs zs : List B8} {x : Lt} {m : Nat} (h : Outc tm0 i0 t0 sz0 u0 xs x m = some zs) (hi : FInv sz0 u0 xs) (hm : x.bytes.length = m) : (zs.length : Int) ≤ x.size ∧ 0 ≤ x.size ∧ x.size ≤ 131072 := by
  unfold Outc at h
  cases hb : mayB x m with
  | false => rw [hb, if_pos rfl] at h; cases h
  | true =>
    rw [hb, if_neg (fun q => by cases q)] at h
    obtain ⟨-, L, a, hs, ha, h1, h2, h3⟩ := mayB_and hb
    split at h
    · cases h
    · simp only [Option.some.injEq] at h
      refine ⟨?_, by omega, by omega⟩
      have e : x.at_.toNat = a := by omega
      rw [← h, e]
      have hl := laid_le (if crossB tm0 i0 t0 sz0 u0 x.term x.bi x.bt x.size = true then xs else []) x.bytes a L (by
        split
        · rename_i hc
          obtain ⟨e1, -, -, -, e2⟩ := crossB_eq hc
          have := hi e1
          omega
        · exact Nat.zero_le _) (by omega)
      omega
theorem FState.next_inv {f : FState} {x : Lt} {m : Nat} (h : f.inv) (hm : x.bytes.length = m) : (f.next x m).1.inv := by
  unfold FState.next
  cases ho : Outc f.tm f.i f.t f.sz f.u f.xs x m with
  | none => exact h
  | some zs =>
    have := outc_some ho h hm
    simp only
    split
    · intro q; cases q
    · intro _; exact this.1
theorem FState.next_len {f : FState} {x : Lt} {m : Nat} (h : f.inv) (hm : x.bytes.length = m) : (f.next x m).2.2.2.bytes.length ≤ 131072 := by
  unfold FState.next
  cases ho : Outc f.tm f.i f.t f.sz f.u f.xs x m with
  | none => exact Nat.zero_le _
  | some zs =>
    have := outc_some ho h hm
    simp only
    split
    · show zs.length ≤ 131072; omega
    · exact Nat.zero_le _
def FatF (p : Nat) (f : FState) (A : Option Addr) (n c : Nat) (w : World) : Prop := FAt p f.tm f.i f.t f.sz f.u A n c f.xs w
def RatF (p : Nat) (f : FState) (A : Option Addr) (n c : Nat) (w : World) : Prop := RAt p f.tm f.i f.t f.sz f.u A n c f.xs w
/-- An image whose rows are the call's own, from block B on, and no block of the ferry's. -/
structure ImN (w : World) (B : Nat) (q : IR) (m : Im) (A : Option Addr) (n c : Nat) : Prop where
  cfg : CfgOwn w B q.s m.cfg
  bytes : OwnN w B (.slice q.A q.n q.c) m.bytes
  apart : ∀ b, (CBlk q.s b ∨ Blk (.slice q.A q.n q.c) b) → (Value.slice A n c).ownBlock ≠ some b
def TakeR (p : Nat) (f : FState) (A : Option Addr) (n c : Nat) (x : Lt) (m : Nat) (W : World) (e : Ending) (w' : World) : Prop :=
  ∃ (q : IR) (A' : Option Addr) (n' c' : Nat), e = .returned (.tuple #[.int .i64 ((f.next x m).2.1 : Int), .bool (f.next x m).2.2.1, .agg (q.cells (f.next x m).2.2.2).toArray]) ∧
    FatF p (f.next x m).1 A' n' c' w' ∧ (∀ j, j < W.heap.size → (Value.slice A' n' c').ownBlock = some j → (Value.slice A n c).ownBlock = some j) ∧ Fr p A n c W w' ∧ ImN w' W.heap.size q (f.next x m).2.2.2 A' n' c'
def RTakeR (p : Nat) (f : FState) (A : Option Addr) (n c : Nat) (x : Lt) (m : Nat) (W : World) (e : Ending) (w' : World) : Prop :=
  ∃ (q : IR) (A' : Option Addr) (n' c' : Nat), e = .returned (.tuple #[.int .i64 ((f.next x m).2.1 : Int), .bool (f.next x m).2.2.1, .agg (q.cells (f.next x m).2.2.2).toArray]) ∧
    RatF p (f.next x m).1 A' n' c' w' ∧ (∀ j, j < W.heap.size → (Value.slice A' n' c').ownBlock = some j → (Value.slice A n c).ownBlock = some j) ∧ Fr p A n c W w' ∧ ImAt w' q (f.next x m).2.2.2
def q0 : IR := ⟨⟨none, 0, 0, none, 0, 0, none, 0, 0, none, 0, 0⟩, none, 0, 0⟩
theorem cfgOwn0 (w : World) (B : Nat) : CfgOwn w B q0.s im0.cfg := ⟨OwnZ.nil _ _, OwnZ.nil _ _, OwnZ.nil _ _, OwnZ.nil _ _⟩
theorem imN0 (w : World) (B : Nat) (A : Option Addr) (n c : Nat) : ImN w B q0 im0 A n c := ⟨cfgOwn0 w B, OwnN.nil _ _, fun b e => by
  rcases e with (e | e | e | e) | e <;> cases e⟩
theorem imAt0 (w : World) : ImAt w q0 im0 := ⟨⟨_, _, _, _, rfl, InI.nil _, InI.nil _, InI.nil _, InI.nil _⟩, BytesIn.nil _⟩
theorem take_r (r : LR) (x : Lt) (p : Nat) (f : FState) (A : Option Addr) (n c : Nat) (W : World) (h : FatF p f A n c W) (hi : f.inv)
    (HX : ∀ w', Fr p A n c W w' → LtAt w' r x) (hf : Fine x.cfg) : Calls Try.prog 77 #[.pointer (some ⟨p, 0, none⟩), .agg (r.cells x).toArray] W (TakeR p f A n c x r.bn W) := by
  have hlen : x.bytes.length = r.bn := (BytesIn.len' (HX W (Fr.refl _ _ _ _ _)).bytes).1
  refine (take_all r x p f.tm f.i f.t f.sz f.u A n c f.xs W h hi HX hf).mono fun e w' k => ?_
  unfold TakeP at k
  unfold TakeR FState.next
  cases ho : Outc f.tm f.i f.t f.sz f.u f.xs x r.bn with
  | none =>
    rw [ho] at k
    obtain ⟨rfl, hF, hk⟩ := k
    exact ⟨q0, A, n, c, rfl, hF, fun _ _ e => e, (Fr.refl _ _ _ _ _).ok hk, imN0 _ _ _ _ _⟩
  | some zs =>
    rw [ho] at k
    have hz := outc_some ho hi hlen
    have hL : ((x.size.toNat : Nat) : Int) = x.size := by omega
    rcases k with ⟨hne, rfl, ⟨A', c', hF, hown⟩, hfr⟩ | ⟨he, ⟨s', A', c', rfl, hcf, hby⟩, hF, hfr⟩
    · simp only [if_neg hne]
      rw [hL] at hF
      exact ⟨q0, A', _, c', rfl, hF, hown, hfr, imN0 _ _ _ _ _⟩
    · simp only [if_pos he]
      exact ⟨⟨s', A', zs.length, c'⟩, none, 0, 0, rfl, hF, (fun j _ e => by cases e), hfr, hcf, hby, fun b _ e => by cases e⟩
theorem rtake_r (r : LR) (x : Lt) (p : Nat) (f : FState) (A : Option Addr) (n c : Nat) (W : World) (h : RatF p f A n c W) (hi : f.inv)
    (HX : ∀ w', Fr p A n c W w' → LtAt w' r x) (hf : Fine x.cfg) (hsp : ∀ b o s, r.bA = some ⟨b, o, s⟩ → 0 < r.bn → (Value.slice A n c).ownBlock ≠ some b) : Calls Try.prog 78 #[.pointer (some ⟨p, 0, none⟩), .agg (r.cells x).toArray] W (RTakeR p f A n c x r.bn W) := by
  have hlen : x.bytes.length = r.bn := (BytesIn.len' (HX W (Fr.refl _ _ _ _ _)).bytes).1
  refine (rtake_all r x p f.tm f.i f.t f.sz f.u A n c f.xs W h hi HX hf hsp).mono fun e w' k => ?_
  unfold RTakeP at k
  unfold RTakeR FState.next
  cases ho : Outc f.tm f.i f.t f.sz f.u f.xs x r.bn with
  | none =>
    rw [ho] at k
    obtain ⟨rfl, hF, hk⟩ := k
    exact ⟨q0, A, n, c, rfl, hF, fun _ _ e => e, (Fr.refl _ _ _ _ _).ok hk, imAt0 _⟩
  | some zs =>
    rw [ho] at k
    have hz := outc_some ho hi hlen
    have hL : ((x.size.toNat : Nat) : Int) = x.size := by omega
    rcases k with ⟨hne, rfl, ⟨A', c', hF, hown⟩, hfr⟩ | ⟨he, ⟨s', A', c', rfl, hcf, hby⟩, hF, hfr⟩
    · simp only [if_neg hne]
      rw [hL] at hF
      exact ⟨q0, A', _, c', rfl, hF, hown, hfr, imAt0 _⟩
    · simp only [if_pos he]
      refine ⟨⟨s', A', zs.length, c'⟩, none, 0, 0, by rw [he]; rfl, hF, (fun j _ e => by cases e), hfr, hcf.cfg, hby⟩
end Go.Proofs.Ytolfdncmlfnbdaa
namespace Go.Proofs.Ytolfdncmlfnbdaa
open Go.RowKit

theorem own_fr {p base e sz m : Nat} {A : Option Addr} {n c : Nat} {w w' : World} {v : Value} {xs : List Value} {B0 : Nat} (h : w.ownsRow B0 e sz v m xs) (k : Fr p A n c w w') (hp : v.ownBlock ≠ some p) (ho : ∀ b, v.ownBlock = some b → (Value.slice A n c).ownBlock ≠ some b) (_hb : base ≤ B0) : w'.ownsRow B0 e sz v m xs := by
  refine ⟨h.1, ?_⟩
  rcases h.2 with h0 | ⟨b, cap, cur, rfl, hb, hh, hr⟩
  · exact .inl h0
  · exact .inr ⟨b, cap, cur, rfl, hb, (k.block b (Array.getElem?_eq_some_iff.1 hh).1 (fun e => hp (by rw [e]; rfl)) (ho b rfl)).trans hh, hr⟩
theorem own_tch {P : Nat → Prop} {B0 e sz m : Nat} {w w' : World} {v : Value} {xs : List Value} (h : w.ownsRow B0 e sz v m xs) (k : Tch P w w') (ho : ∀ b, v.ownBlock = some b → ¬ P b) : w'.ownsRow B0 e sz v m xs := by
  refine ⟨h.1, ?_⟩
  rcases h.2 with h0 | ⟨b, cap, cur, rfl, hb, hh, hr⟩
  · exact .inl h0
  · exact .inr ⟨b, cap, cur, rfl, hb, (k.same b (Array.getElem?_eq_some_iff.1 hh).1 (ho b rfl)).trans hh, hr⟩
theorem FatF.fr {p q : Nat} {f : FState} {A B : Option Addr} {n c m d : Nat} {w w' : World} (h : FatF p f A n c w) (k : Fr q B m d w w') (hp : p ≠ q) (h1 : (Value.slice B m d).ownBlock ≠ some p) (h2 : (Value.slice A n c).ownBlock ≠ some q) (h3 : ∀ b, (Value.slice A n c).ownBlock = some b → (Value.slice B m d).ownBlock ≠ some b) : FatF p f A n c w' := by
  have kb := k.block p h.lt hp h1
  have kc : ∀ {o : Nat} {v : Value}, w.cell? ⟨p, o, none⟩ = some v → w'.cell? ⟨p, o, none⟩ = some v := fun {o v} hc => by rw [World.cell?_of_block (w := w) kb]; exact hc
  exact ⟨kc h.c0, kc h.c1, kc h.c2, kc h.c3, kc h.c4, kc h.c5, kc h.c6, own_fr (base := 0) h.own k h2 h3 (Nat.zero_le _), fun j => by rw [World.frozen?_of_block (w := w) kb]; exact h.f j⟩
theorem RatF.fr {p q : Nat} {f : FState} {A B : Option Addr} {n c m d : Nat} {w w' : World} (h : RatF p f A n c w) (k : Fr q B m d w w') (hp : p ≠ q) (h1 : (Value.slice B m d).ownBlock ≠ some p) (h2 : (Value.slice A n c).ownBlock ≠ some q) (h3 : ∀ b, (Value.slice A n c).ownBlock = some b → (Value.slice B m d).ownBlock ≠ some b) : RatF p f A n c w' := by
  have kb := k.block p h.lt hp h1
  have kc : ∀ {o : Nat} {v : Value}, w.cell? ⟨p, o, none⟩ = some v → w'.cell? ⟨p, o, none⟩ = some v := fun {o v} hc => by rw [World.cell?_of_block (w := w) kb]; exact hc
  exact ⟨kc h.c0, kc h.c1, kc h.c2, kc h.c3, kc h.c4, kc h.c5, own_fr (base := 0) h.own k h2 h3 (Nat.zero_le _), fun j => by rw [World.frozen?_of_block (w := w) kb]; exact h.f j⟩
theorem FatF.tch {P : Nat → Prop} {p : Nat} {f : FState} {A : Option Addr} {n c : Nat} {w w' : World} (h : FatF p f A n c w) (k : Tch P w w') (hp : ¬ P p) (ho : ∀ b, (Value.slice A n c).ownBlock = some b → ¬ P b) : FatF p f A n c w' := by
  have kb := k.same p h.lt hp
  have kc : ∀ {o : Nat} {v : Value}, w.cell? ⟨p, o, none⟩ = some v → w'.cell? ⟨p, o, none⟩ = some v := fun {o v} hc => by rw [World.cell?_of_block (w := w) kb]; exact hc
  exact ⟨kc h.c0, kc h.c1, kc h.c2, kc h.c3, kc h.c4, kc h.c5, kc h.c6, own_tch h.own k ho, fun j => by rw [World.frozen?_of_block (w := w) kb]; exact h.f j⟩
theorem RatF.tch {P : Nat → Prop} {p : Nat} {f : FState} {A : Option Addr} {n c : Nat} {w w' : World} (h : RatF p f A n c w) (k : Tch P w w') (hp : ¬ P p) (ho : ∀ b, (Value.slice A n c).ownBlock = some b → ¬ P b) : RatF p f A n c w' := by
  have kb := k.same p h.lt hp
  have kc : ∀ {o : Nat} {v : Value}, w.cell? ⟨p, o, none⟩ = some v → w'.cell? ⟨p, o, none⟩ = some v := fun {o v} hc => by rw [World.cell?_of_block (w := w) kb]; exact hc
  exact ⟨kc h.c0, kc h.c1, kc h.c2, kc h.c3, kc h.c4, kc h.c5, own_tch h.own k ho, fun j => by rw [World.frozen?_of_block (w := w) kb]; exact h.f j⟩
/-- Both ferries, at p and q, with the same state; nothing of the one is the other's. -/
structure Two (p q : Nat) (f : FState) (A : Option Addr) (n c : Nat) (B : Option Addr) (m d : Nat) (w : World) : Prop where
  fa : FatF p f A n c w
  ra : RatF q f B m d w
  inv : f.inv
  lt : p < q
  aq : (Value.slice A n c).ownBlock ≠ some q
  sep : ∀ b, (Value.slice A n c).ownBlock = some b → (Value.slice B m d).ownBlock ≠ some b
theorem Two.ok {p q : Nat} {f : FState} {A : Option Addr} {n c : Nat} {B : Option Addr} {m d : Nat} {w w' : World} (h : Two p q f A n c B m d w) (k : Ok w w') : Two p q f A n c B m d w' :=
  ⟨FAt.ok h.fa k, RAt.ok h.ra k, h.inv, h.lt, h.aq, h.sep⟩
theorem Two.tch {P : Nat → Prop} {p q : Nat} {f : FState} {A : Option Addr} {n c : Nat} {B : Option Addr} {m d : Nat} {w w' : World} (h : Two p q f A n c B m d w) (k : Tch P w w') (hp : ¬ P p) (hq : ¬ P q) (ha : ∀ b, (Value.slice A n c).ownBlock = some b → ¬ P b) (hb : ∀ b, (Value.slice B m d).ownBlock = some b → ¬ P b) : Two p q f A n c B m d w' :=
  ⟨h.fa.tch k hp ha, h.ra.tch k hq hb, h.inv, h.lt, h.aq, h.sep⟩
theorem Two.bq {p q : Nat} {f : FState} {A : Option Addr} {n c : Nat} {B : Option Addr} {m d : Nat} {w : World} (h : Two p q f A n c B m d w) : (Value.slice B m d).ownBlock ≠ some p := fun e => by
  have h1 := (RAt.ownGe h.ra p e).1
  have h2 := h.lt
  omega
/-- Both are dropped. -/
theorem Two.dropA {p q : Nat} {f : FState} {A : Option Addr} {n c : Nat} {B : Option Addr} {m d : Nat} {w w' : World} (h : Two p q f A n c B m d w) (k : Fr p A n c w w') : RatF q f B m d w' :=
  h.ra.fr k (by have := h.lt; omega) h.aq h.bq (fun b e1 e2 => h.sep b e2 e1)
theorem Two.first {p q : Nat} {f : FState} {A A' : Option Addr} {n c n' c' : Nat} {B : Option Addr} {m d : Nat} {w w' : World} (h : Two p q f A n c B m d w) (ho : ∀ j, j < w.heap.size → (Value.slice A' n' c').ownBlock = some j → (Value.slice A n c).ownBlock = some j) (k : Fr p A n c w w') :
    RatF q f B m d w' ∧ (Value.slice A' n' c').ownBlock ≠ some q ∧ (∀ b, (Value.slice A' n' c').ownBlock = some b → (Value.slice B m d).ownBlock ≠ some b) := by
  refine ⟨h.ra.fr k (by have := h.lt; omega) h.aq h.bq (fun b e1 e2 => h.sep b e2 e1), fun e => h.aq (ho q (RAt.lt h.ra) e), fun b e1 e2 => h.sep b (ho b (RAt.ownGe h.ra b e2).2 e1) e2⟩
theorem Two.second {p q : Nat} {f f2 : FState} {A : Option Addr} {n c : Nat} {B B' : Option Addr} {m d m' d' : Nat} {w w' : World} (hp : p < q) (hi : f2.inv) (hf : FatF p f2 A n c w) (hr : RatF q f B m d w) (haq : (Value.slice A n c).ownBlock ≠ some q) (hs : ∀ b, (Value.slice A n c).ownBlock = some b → (Value.slice B m d).ownBlock ≠ some b)
    (hr2 : RatF q f2 B' m' d' w') (ho : ∀ j, j < w.heap.size → (Value.slice B' m' d').ownBlock = some j → (Value.slice B m d).ownBlock = some j) (k : Fr q B m d w w') : Two p q f2 A n c B' m' d' w' := by
  refine ⟨hf.fr k (by omega) (fun e => by have := (RAt.ownGe hr p e).1; omega) haq hs, hr2, hi, hp, haq, fun b e1 e2 => hs b e1 (ho b (FAt.ownGe hf b e1).2 e2)⟩
end Go.Proofs.Ytolfdncmlfnbdaa
