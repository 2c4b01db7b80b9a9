/- Contracts of the tables and of the document's examples. -/
import Derived.Test.YticmpkpopfkhnaaDoorR
import Derived.Deep.WholeRow
import Derived.Laws.CopyOwn
namespace Go.Proofs.YticmpkpopfkhnaaDoor
open Go.RowKit

/-- What the table has of a byte. -/
def tv (k : Nat) : B32 := fd (BitVec.ofNat 32 k) 0#8
/-- The table's cells, the first k of them written. -/
def tcF (k j : Nat) : Value := if j < k then .int .u32 (u (tv j)) else .int .u32 0
def tc (k : Nat) : Array Value := ((List.range 256).map (tcF k)).toArray
theorem tc_size (k : Nat) : (tc k).size = 256 := by simp [tc]
theorem tc_get (k j : Nat) (h : j < 256) : (tc k)[j]? = some (tcF k j) := by simp [tc, h]
theorem tc_set (k : Nat) (_h : k < 256) : (tc k).setIfInBounds k (.int .u32 (u (tv k))) = tc (k + 1) := by
  apply Array.ext_getElem?
  intro i
  rw [Array.getElem?_setIfInBounds]
  by_cases hi : i < 256
  · rw [tc_get (k + 1) i hi]
    by_cases he : k = i
    · subst he; simp [tc_size, hi, tcF]
    · rw [if_neg he, tc_get k i hi]
      congr 1
      unfold tcF
      by_cases h1 : i < k
      · rw [if_pos h1, if_pos (by omega)]
      · rw [if_neg h1, if_neg (by omega)]
  · have h1 : (tc k)[i]? = none := by rw [Array.getElem?_eq_none]; rw [tc_size]; omega
    have h2 : (tc (k + 1))[i]? = none := by rw [Array.getElem?_eq_none]; rw [tc_size]; omega
    rw [h1, h2]
    split
    · simp [tc_size]; omega
    · rfl
theorem tc_one (k : Nat) : (tc k).all (·.oneCell') = true := by
  rw [Array.all_eq_true_iff_forall_mem]
  intro v hv
  simp only [tc, List.mem_toArray, List.mem_map] at hv
  obtain ⟨j, _, rfl⟩ := hv
  unfold tcF; split <;> rfl
theorem info35 : (Tryd.prog.info? 35).map (fun i => (i.zero, i.size)) = some (some (.agg (tc 0)), 256) := by kernel_rfl
theorem size35 (k : Nat) : (Tryd.prog.info? 35).map (·.size) = some (tc k).size := by
  rw [tc_size]; exact (zero_of_info info35).2

theorem ofNat_u (k : Nat) (h : k < 256) : (k : Int) = u (BitVec.ofNat 32 k) := by
  rw [u, BitVec.toNat_ofNat]; omega

/-- The store of a whole array, as an operation. -/
theorem wpList_store_row {P : Program} {ops : Array Oper} {rest : List Oper} {o : Oper} {a : Act} {w : World} {Q : Exit → Act → World → Prop} (hgd : o.guard = none) (ty : TypeId) (p x : Operand) (ho : o.op = .store ty p x)
    (g : Nat) (hp : a.eval p = .pointer (some ⟨g, 0, none⟩)) (t : TypeId) (old cs : Array Value) (hx : a.eval x = .agg cs) (hg : w.heap[g]? = some (.cells old t (0, 0)))
    (hi : (P.info? ty).map (·.size) = some cs.size) (hs : old.size = cs.size) (h1 : cs.all (·.oneCell') = true)
    (h : wpList P ops Q rest (a.put o.dst undef) (w.setRow g cs)) : wpList P ops Q (o :: rest) a w := by
  refine wpList_plain hgd fun _ hK => ?_
  unfold Oper.wp execOp
  simp only [ho, hp, hx, Instr.storeAt, Instr.sureAddr, Sem.run_bind, Sem.run_pure, Result.andThen_ok, run_storeVar_row w g t ty old cs hg hi hs h1]
  exact hK _ _ h

/-- The two arrays of Table, the second one with k cells written. -/
def TabR (W : World) (k : Nat) (w : World) : Prop :=
  Below W.heap.size W w ∧ w.heap[W.heap.size]? = some (.cells (tc 0) 35 (0, 0)) ∧ w.heap[W.heap.size + 1]? = some (.cells (tc k) 35 (0, 0))
theorem TabR.below {W w w' : World} {k : Nat} (h : TabR W k w) (hb : Below (W.heap.size + 2) w w') : TabR W k w' :=
  ⟨h.1.trans (hb.mono (by omega)), by rw [hb.block _ (by omega)]; exact h.2.1, by rw [hb.block _ (by omega)]; exact h.2.2⟩
theorem TabR.size {W w : World} {k : Nat} (h : TabR W k w) : W.heap.size + 2 ≤ w.heap.size := by
  have := h.2.2
  have h2 : W.heap.size + 1 < w.heap.size := by
    by_cases hl : W.heap.size + 1 < w.heap.size
    · exact hl
    · rw [Array.getElem?_eq_none (by omega)] at this; cases this
  omega
theorem TabR.store {W w : World} {k : Nat} (h : TabR W k w) (hk : k < 256) : TabR W (k + 1) (w.setCell ⟨W.heap.size + 1, k, none⟩ (.int .u32 (u (tv k)))) := by
  refine ⟨h.1.setCell (by simp) _, ?_, ?_⟩
  · rw [heap_setCell_other _ _ _ _ (by simp)]; exact h.2.1
  · rw [heap_setCell_same _ _ _ _ _ _ h.2.2, tc_set k hk]
theorem TabR.start (W : World) : TabR W 0 ((W.alloc (.cells (tc 0) 35)).alloc (.cells (tc 0) 35)) :=
  ⟨((Below.refl _ _).alloc (Nat.le_refl _) _).alloc (by simp) _, heap_alloc2_old _ _ _, heap_alloc2_new _ _ _⟩

set_option maxRecDepth 100000 in
set_option maxHeartbeats 1000000 in
theorem table_v (W : World) (ht : Tab W) :
    Calls Tryd.prog 15 #[] W fun e w' => e = .returned (.agg (tc 256)) ∧ Below W.heap.size W w' := by
  have h0 : 0 < W.heap.size := World.block_lt_of_cell? W _ (ht 0 (by decide))
  have HT := Lib.hid ht
  clear ht
  have hz := (zero_of_info info35).1
  have HTC : Hid (TabR W 0 ((W.alloc (.cells (tc 0) 35)).alloc (.cells (tc 0) 35))) := Lib.hid (TabR.start W)
  generalize hc0 : tc 0 = c0 at hz HTC
  have HC0 := Lib.hid hc0
  clear hc0
  go_enter Tryd.func15, Tryd.ntmps15
  go_wp2_with fail
  clear hz
  go_loopw [4] (fun i wr => ∃ k : Nat, k ≤ 256 ∧ i = .int .i64 k ∧ TabR W k wr) (fun i _ => 256 - (intOf i).toNat)
  case atStart => exact ⟨0, Nat.zero_le _, rfl, HTC.out⟩
  case round =>
    obtain ⟨k, hk, rfl, htr⟩ := hrel
    by_cases hlt : k < 256
    · have hs := htr.size
      have HU := Lib.hid (ofNat_u k hlt)
      go_wp2_with fail
      refine (feed_v ⟨wr.heap.size, 0, none⟩ (BitVec.ofNat 32 k) 0#8 _ (by simp; omega) ?_ ?_ ?_).mono ?_
      · rw [World.cell?_alloc_at _ _ _ _ rfl, ← HU.out]; rfl
      · exact World.frozen?_alloc_at _ _ _ _ rfl
      · exact (HT.out.below htr.1 h0).below ((Below.refl _ _).alloc (Nat.le_refl _) _) (by omega)
      rintro e w1 ⟨rfl, hp⟩
      have hb1 : Below (W.heap.size + 2) wr w1 := ((Below.refl _ _).alloc (by omega) _).trans (hp.2.2 _ (by simpa using hs))
      have htr1 := htr.below hb1
      have hc := hp.1
      have hcell : w1.cell? ⟨W.heap.size + 1, k, none⟩ = some (tcF k k) := by
        rw [cell_of_row _ _ _ _ _ _ htr1.2.2, tc_get k k hlt]
      have hfr := frozen_of_row w1 (W.heap.size + 1) k _ _ htr1.2.2
      have HN := Lib.hid (htr1.store hlt)
      have hcv : fd (BitVec.ofNat 32 k) 0#8 = tv k := rfl
      rw [hcv] at hc
      clear hcv hp htr hb1
      generalize tcF k k = old at hcell
      generalize tv k = v at *
      go_wp2_with fail
      go_roundw
      case rel => exact ⟨k + 1, by omega, by go_num, HN.out⟩
      case measure => simp [intOf]; omega
    · have : k = 256 := by omega
      subst this
      have hs := htr.size
      have hg0 := htr.2.1
      have hg1 := htr.2.2
      have hss : (tc 0).size = (tc 256).size := by rw [tc_size, tc_size]
      have hone := tc_one 256
      have hsz := size35 256
      have HB := Lib.hid htr.1
      clear htr
      generalize hcs : tc 256 = cs at *
      have HCS := Lib.hid hcs
      clear hcs
      generalize tc 0 = c1 at *
      have HG1 := Lib.hid hg1
      have HG0 := Lib.hid hg0
      have HSS := Lib.hid hss
      have HONE := Lib.hid hone
      have HSZ := Lib.hid hsz
      clear hg1 hg0 hss hone hsz
      go_wp2_with (first | refine wpList_load_row rfl 35 _ rfl (W.heap.size + 1) rfl 35 cs (0, 0) _ HG1.out Tryd.underlying35 rfl HSZ.out ?_ | refine wpList_store_row rfl 35 _ _ rfl W.heap.size rfl 35 c1 cs rfl HG0.out HSZ.out HSS.out HONE.out ?_)
      have hg2 : (wr.setRow W.heap.size cs).heap[W.heap.size]? = some (.cells cs 35 (0, 0)) := setRow_heap _ _ _ _ _ _ HG0.out
      refine bodyPost_ret (v := .agg cs) (results_cell_row rfl _ _ W.heap.size 35 cs (0, 0) _ rfl hg2 Tryd.underlying35 rfl HSZ.out) rfl ⟨by rw [HCS.out], ?_⟩
      exact below_setRow HB.out (Nat.le_refl _) _

/-- Zero bits alone, one by one. -/
def bz (r : B32) : Nat → B32
  | 0 => r
  | i + 1 => bit (bz r i) 0#32
theorem bz_eq (r : B32) (n : Nat) : bz r n = Ln n r := by
  induction n with
  | zero => rfl
  | succ n ih => rw [bz, ih, bit_eq _ _ (.inl rfl), Ln_add, BitVec.xor_zero]; rfl
theorem bz8 (k : Nat) : bz (BitVec.ofNat 32 k) 8 = tv k := by
  rw [bz_eq, tv, fd_eq, show (0#8).setWidth 32 = 0#32 from rfl, BitVec.xor_zero]

set_option maxRecDepth 100000 in
set_option maxHeartbeats 1000000 in
theorem rtable_v (W : World) :
    Calls Tryd.prog 16 #[] W fun e w' => e = .returned (.agg (tc 256)) ∧ Below W.heap.size W w' := by
  have hz := (zero_of_info info35).1
  have HTC : Hid (TabR W 0 ((W.alloc (.cells (tc 0) 35)).alloc (.cells (tc 0) 35))) := Lib.hid (TabR.start W)
  generalize hc0 : tc 0 = c0 at hz HTC
  have HC0 := Lib.hid hc0
  clear hc0
  go_enter Tryd.func16, Tryd.ntmps16
  go_wp2_with fail
  clear hz
  go_loopw [2] (fun i wr => ∃ k : Nat, k ≤ 256 ∧ i = .int .i64 k ∧ TabR W k wr) (fun i _ => 256 - (intOf i).toNat)
  case atStart => exact ⟨0, Nat.zero_le _, rfl, HTC.out⟩
  case round =>
    obtain ⟨k, hk, rfl, htr⟩ := hrel
    by_cases hlt : k < 256
    · have hs := htr.size
      have HU := Lib.hid (ofNat_u k hlt)
      have H8 := Lib.hid (bz8 k)
      have hdec : decide ((k : Int) < 256) = true := decide_eq_true (by omega)
      go_wp2_with fail
      obtain ⟨wo, rfl⟩ : ∃ wo : World, wo = wr := ⟨_, rfl⟩
      go_loop [3, 4] (fun x i => ∃ j : Nat, j ≤ 8 ∧ i = .int .i64 j ∧ x = .int .u32 (u (bz (BitVec.ofNat 32 k) j))) (fun _ i => 8 - (intOf i).toNat)
      case atStart => exact ⟨0, Nat.zero_le _, rfl, by rw [HU.out]; rfl⟩
      case round =>
        obtain ⟨j, hj, rfl, rfl⟩ := hrel
        have HS : Hid (bz (BitVec.ofNat 32 k) (j + 1) = bit (bz (BitVec.ofNat 32 k) j) 0#32) := Lib.hid rfl
        by_cases hlj : j < 8
        · generalize bz (BitVec.ofNat 32 k) j = x at *
          go_wp2_with fail
          refine (bit_v x 0#32 _).mono ?_
          rintro e w3 ⟨rfl, rfl⟩
          go_wp2_with fail
          go_round
          case rel => exact ⟨j + 1, by omega, by go_num, by rw [HS.out]⟩
          case measure => simp [intOf]; omega
        · have : j = 8 := by omega
          subst this
          have h8 := H8.out
          generalize bz (BitVec.ofNat 32 k) 8 = x at *
          have HX := Lib.hid h8
          clear h8
          have hcell : wo.cell? ⟨W.heap.size + 1, k, none⟩ = some (tcF k k) := by
            rw [cell_of_row _ _ _ _ _ _ htr.2.2, tc_get k k hlt]
          have hfr := frozen_of_row wo (W.heap.size + 1) k _ _ htr.2.2
          have HN := Lib.hid (htr.store hlt)
          have hxe := HX.out
          subst hxe
          generalize tcF k k = old at hcell
          generalize tv k = v at *
          go_wp2_with fail
          go_roundw
          case rel => exact ⟨k + 1, by omega, by go_num, HN.out⟩
          case measure => simp [intOf]; omega
    · have : k = 256 := by omega
      subst this
      have hs := htr.size
      have hg0 := htr.2.1
      have hg1 := htr.2.2
      have hss : (tc 0).size = (tc 256).size := by rw [tc_size, tc_size]
      have hone := tc_one 256
      have hsz := size35 256
      have HB := Lib.hid htr.1
      clear htr
      generalize hcs : tc 256 = cs at *
      have HCS := Lib.hid hcs
      clear hcs
      generalize tc 0 = c1 at *
      have HG1 := Lib.hid hg1
      have HG0 := Lib.hid hg0
      have HSS := Lib.hid hss
      have HONE := Lib.hid hone
      have HSZ := Lib.hid hsz
      clear hg1 hg0 hss hone hsz
      go_wp2_with (first | refine wpList_load_row rfl 35 _ rfl (W.heap.size + 1) rfl 35 cs (0, 0) _ HG1.out Tryd.underlying35 rfl HSZ.out ?_ | refine wpList_store_row rfl 35 _ _ rfl W.heap.size rfl 35 c1 cs rfl HG0.out HSZ.out HSS.out HONE.out ?_)
      have hg2 : (wr.setRow W.heap.size cs).heap[W.heap.size]? = some (.cells cs 35 (0, 0)) := setRow_heap _ _ _ _ _ _ HG0.out
      refine bodyPost_ret (v := .agg cs) (results_cell_row rfl _ _ W.heap.size 35 cs (0, 0) _ rfl hg2 Tryd.underlying35 rfl HSZ.out) rfl ⟨by rw [HCS.out], ?_⟩
      exact below_setRow HB.out (Nat.le_refl _) _

end Go.Proofs.YticmpkpopfkhnaaDoor
