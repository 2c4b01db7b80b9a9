/- The sum of bytes: contracts of package sum; ported from the seat of layer 1. -/
import Derived.Test.YtpebnlddmjfomaaDoorFa
namespace Go.Proofs.YtpebnlddmjfomaaDoor
open Go.RowKit
def u (v : B32) : Int := v.toNat
theorem u_lo (v : B32) : 0 ≤ u v := Int.natCast_nonneg _
theorem u_hi (v : B32) : u v < 4294967296 := by have := v.isLt; unfold u; omega
theorem u_inj {a b : B32} (h : u a = u b) : a = b := BitVec.eq_of_toNat_eq (by unfold u at h; omega)
theorem u_eq (a b : B32) : (u a == u b) = (a == b) := by
  by_cases h : a = b
  · subst h; rw [beq_self_eq_true, beq_self_eq_true]
  · have : u a ≠ u b := fun e => h (u_inj e)
    rw [beq_eq_false_iff_ne.2 this, beq_eq_false_iff_ne.2 h]
theorem ofInt_u (v : B32) : BitVec.ofInt 32 (u v) = v := by
  rw [u, BitVec.ofInt_natCast, BitVec.ofNat_toNat, BitVec.setWidth_eq]
theorem wrap_nat (v : B32) : IntKind.u32.wrap (v.toNat : Int) = u v := by
  rw [IntKind.wrap_u32, u]; have := v.isLt; omega
theorem xor_v (a b : B32) : bits .xor .u32 (u a) (u b) = u (a ^^^ b) := by
  show IntKind.u32.wrap ((BitVec.ofInt 32 (u a) ^^^ BitVec.ofInt 32 (u b)).toNat : Int) = _
  rw [ofInt_u, ofInt_u, wrap_nat]
theorem and_v (a b : B32) : bits .and .u32 (u a) (u b) = u (a &&& b) := by
  show IntKind.u32.wrap ((BitVec.ofInt 32 (u a) &&& BitVec.ofInt 32 (u b)).toNat : Int) = _
  rw [ofInt_u, ofInt_u, wrap_nat]
theorem and15_v (a : B32) : bits .and .u32 (u a) 15 = ((a.toNat % 16 : Nat) : Int) := by
  have h := and_v a 15#32
  rw [show u (15#32 : B32) = 15 from rfl] at h
  rw [h, u, BitVec.toNat_and, show (15#32 : B32).toNat = 2 ^ 4 - 1 from rfl, Nat.and_two_pow_sub_one_eq_mod]
theorem shr_v (a : B32) (n : Nat) : u a / ((2 ^ n : Nat) : Int) = u (a >>> n) := by
  rw [u, u, BitVec.toNat_ushiftRight, Nat.shiftRight_eq_div_pow]; simp
theorem zs_v (v : B32) : bits .xor .u32 (u v / 16) (u (T (v.toNat % 16))) = u (zs v) := by
  have := shr_v v 4
  rw [show ((2 ^ 4 : Nat) : Int) = 16 from rfl] at this
  rw [this, xor_v]; rfl
theorem byte_v (b : B8) : ub b = u (b.setWidth 32) := by
  rw [ub, u, BitVec.toNat_setWidth]; have := b.isLt; omega
theorem xorb_v (v : B32) (b : B8) : bits .xor .u32 (u v) (ub b) = u (v ^^^ b.setWidth 32) := by
  rw [byte_v, xor_v]

/-- The table is as the text lays it. -/
def Tab (w : World) : Prop := ∀ k, k < 16 → w.cell? ⟨0, k, none⟩ = some (.int .u32 (u (T k)))
theorem Tab.below {B : Nat} {w w' : World} (h : Tab w) (hb : Below B w w') (h0 : 0 < B) : Tab w' := fun k hk => by
  rw [hb.cell (p := ⟨0, k, none⟩) h0]; exact h k hk

/-- The cell at a holds x; nothing else has turned. -/
def Put (a : Addr) (x : Value) (w w' : World) : Prop := w'.cell? a = some x ∧ w'.frozen? a = false ∧ ∀ B, B ≤ a.block → Below B w w'
theorem Put.set (a : Addr) (x y : Value) (w : World) (h : w.cell? a = some x) (hf : w.frozen? a = false) : Put a y w (w.setCell a y) :=
  ⟨by go_simp, by go_simp, fun _ hB => (Below.refl _ _).setCell hB _⟩
theorem Put.drew {a : Addr} {x : Value} {w w' : World} (h : Put a x w w') : Put a x w w'.drew :=
  ⟨by rw [← h.1]; rfl, by rw [← h.2.1]; rfl, fun B hB => (h.2.2 B hB).drew⟩
theorem Put.trans {a : Addr} {x y : Value} {w w' w'' : World} (h : Put a x w w') (k : Put a y w' w'') : Put a y w w'' :=
  ⟨k.1, k.2.1, fun B hB => (h.2.2 B hB).trans (k.2.2 B hB)⟩
theorem Put.tab {a : Addr} {x : Value} {w w' : World} (h : Put a x w w') (ha : 0 < a.block) (t : Tab w) : Tab w' := t.below (h.2.2 _ (Nat.le_refl _)) ha

set_option maxHeartbeats 400000 in
theorem zeros_any (a : Addr) (n t z : Int) (k : Nat) (w : World) (_h0 : 0 ≤ n) (_h1 : n < 4294967296) (hk : k < 16) (hb : bits .and .u32 n 15 = k)
   (hx : bits .xor .u32 (n / 16) t = z) (hc : w.cell? a = some (.int .u32 n)) (hf : w.frozen? a = false)
   (ht : w.cell? ⟨0, k, none⟩ = some (.int .u32 t)) :
    Calls Tryd.prog 88 #[.pointer (some a)] w fun e w' => e = .returned (.tuple #[]) ∧ w' = (w.setCell a (.int .u32 z)).drew := by
  go_enter Tryd.func88, Tryd.ntmps88
  go_wp2
  go_region
  all_goals go_end0
  all_goals exact ⟨rfl, rfl⟩

theorem zeros_v (a : Addr) (v : B32) (w : World) (hc : w.cell? a = some (.int .u32 (u v))) (hf : w.frozen? a = false) (ht : Tab w) :
    Calls Tryd.prog 88 #[.pointer (some a)] w fun e w' => e = .returned (.tuple #[]) ∧ Put a (.int .u32 (u (zs v))) w w' :=
  (zeros_any a _ _ _ (v.toNat % 16) w (u_lo v) (u_hi v) (Nat.mod_lt _ (by decide)) (and15_v v) (zs_v v) hc hf (ht _ (Nat.mod_lt _ (by decide)))).mono
    fun _ _ ⟨he, hw⟩ => ⟨he, hw ▸ (Put.set a _ _ w hc hf).drew⟩

set_option maxHeartbeats 400000 in
theorem feed_v (a : Addr) (v : B32) (b : B8) (w : World) (ha : 0 < a.block) (hc : w.cell? a = some (.int .u32 (u v))) (hf : w.frozen? a = false) (ht : Tab w) :
    Calls Tryd.prog 60 #[.pointer (some a), .int .u8 (ub b)] w fun e w' => e = .returned (.tuple #[]) ∧ Put a (.int .u32 (u (fd v b))) w w' := by
  have hb0 := ub_lo b
  have hb1 := ub_hi b
  have hx := xorb_v v b
  have HP := Put.set a _ (.int .u32 (u (v ^^^ b.setWidth 32))) w hc hf
  have HT := HP.tab ha ht
  have HP := Lib.hid HP
  have HT := Lib.hid HT
  have Ht := Lib.hid ht
  clear ht
  go_enter Tryd.func60, Tryd.ntmps60
  go_wp2_with fail
  refine (zeros_v a _ _ HP.out.1 HP.out.2.1 HT.out).mono ?_
  rintro e w1 ⟨rfl, hp1⟩
  have HP1 := Lib.hid hp1
  clear hp1
  go_wp2_with fail
  refine (zeros_v a _ _ HP1.out.1 HP1.out.2.1 (HP1.out.tab ha HT.out)).mono ?_
  rintro e w2 ⟨rfl, hp2⟩
  have HP2 := Lib.hid hp2
  clear hp2
  go_wp2_with fail
  go_end0
  exact ⟨rfl, HP.out.trans (HP1.out.trans HP2.out)⟩

theorem max_u : IntKind.u32.max = u (BitVec.allOnes 32) := by kernel_rfl
theorem not_v (v : B32) : bits .xor .u32 IntKind.u32.max (u v) = u (~~~v) := by
  rw [max_u, xor_v, BitVec.allOnes_xor]

set_option maxHeartbeats 400000 in
theorem behind_v (v : B32) (w : World) :
    Calls Tryd.prog 59 #[.int .u32 (u v)] w fun e w' => e = .returned (.pointer (some ⟨w.heap.size, 0, none⟩)) ∧ w' = w.alloc (.cells #[.int .u32 (u (~~~v))] 121) := by
  have hn := not_v v
  go_enter Tryd.func59, Tryd.ntmps59
  go_wp2
  go_ret
  exact ⟨rfl, rfl⟩

set_option maxHeartbeats 400000 in
theorem sum_v (a : Addr) (v : B32) (w : World) (hc : w.cell? a = some (.int .u32 (u v))) :
    Calls Tryd.prog 61 #[.pointer (some a)] w fun e w' => e = .returned (.int .u32 (u (~~~v))) ∧ w = w' := by
  have hn := not_v v
  go_enter Tryd.func61, Tryd.ntmps61
  go_wp2
  go_ret
  exact ⟨rfl, rfl⟩

/-- The value v is a list of such lists. -/
def RowsIn (w : World) (v : Value) (ll : List (List B8)) : Prop :=
  (ll = [] ∧ ∃ A c, v = .slice A 0 c) ∨ ∃ b o c, v = .slice (some ⟨b, o, none⟩) ll.length c ∧ ll.length ≤ 140737488351232 ∧ ∀ r, r < ll.length → ∃ x, w.cell? ⟨b, o + r, none⟩ = some x ∧ BytesIn w x (ll.getD r [])

theorem BytesIn.below {w w' : World} {v : Value} {xs : List B8} (h : BytesIn w v xs) (hb : Below w.heap.size w w') : BytesIn w' v xs := Ok.bytes hb h
theorem RowsIn.below {w w' : World} {v : Value} {ll : List (List B8)} (h : RowsIn w v ll) (hb : Below w.heap.size w w') : RowsIn w' v ll := by
  rcases h with h | ⟨b, o, c, rfl, hm, hc⟩
  · exact .inl h
  · refine .inr ⟨b, o, c, rfl, hm, fun r hr => ?_⟩
    obtain ⟨x, hx, hbx⟩ := hc r hr
    refine ⟨x, ?_, hbx.below hb⟩
    rw [hb.cell (p := ⟨b, o + r, none⟩) (World.block_lt_of_cell? _ _ hx)]; exact hx

/-- What the register of More holds: at a block of its own. -/
def Reg (W : World) (v : B32) (w : World) : Prop :=
  Below W.heap.size W w ∧ w.cell? ⟨W.heap.size, 0, none⟩ = some (.int .u32 (u v)) ∧ w.frozen? ⟨W.heap.size, 0, none⟩ = false

theorem Reg.put {W w w' : World} {v v' : B32} (h : Reg W v w) (hp : Put ⟨W.heap.size, 0, none⟩ (.int .u32 (u v')) w w') : Reg W v' w' :=
  ⟨h.1.trans (hp.2.2 _ (Nat.le_refl _)), hp.1, hp.2.1⟩
theorem Reg.start (W : World) (v : B32) : Reg W v (W.alloc (.cells #[.int .u32 (u v)] 121)) := by
  refine ⟨(Below.refl _ _).alloc (Nat.le_refl _) _, ?_, World.frozen?_alloc_at _ _ _ _ rfl⟩
  rw [World.cell?_alloc_at _ _ _ _ rfl]; rfl
theorem fds_snoc (v : B32) (xs : List B8) (i : Nat) (h : i < xs.length) : fds v (xs.take (i + 1)) = fd (fds v (xs.take i)) (xs.getD i 0#8) := by
  rw [List.take_succ_eq_append_getElem h, fds_append]
  simp [fds, h]
theorem fdss_snoc (v : B32) (ll : List (List B8)) (r : Nat) (h : r < ll.length) : fdss v (ll.take (r + 1)) = fds (fdss v (ll.take r)) (ll.getD r []) := by
  rw [List.take_succ_eq_append_getElem h, fdss, List.foldl_append]
  simp [fdss, h]

set_option maxHeartbeats 1000000 in
theorem more_v (s : B32) (v : Value) (ll : List (List B8)) (W : World) (hr : RowsIn W v ll) (ht : Tab W) :
    Calls Tryd.prog 33 #[.int .u32 (u s), v] W fun e w' => e = .returned (.int .u32 (u (more s ll))) ∧ Below W.heap.size W w' := by
  have h0 : 0 < W.heap.size := World.block_lt_of_cell? W _ (ht 0 (by decide))
  have HT := Lib.hid ht
  clear ht
  rcases hr with ⟨rfl, A0, c0, rfl⟩ | ⟨b, o, c, rfl, hm, hc⟩
  · go_enter Tryd.func33, Tryd.ntmps33
    go_wp2_with fail
    refine (behind_v s _).mono ?_
    rintro e w1 ⟨rfl, rfl⟩
    go_wp2_with fail
    refine wp_loop_rounds 1 ?_
    rw [rounds_succ]
    go_wp2_with fail
    refine (sum_v _ (~~~s) _ (Reg.start W (~~~s)).2.1).mono ?_
    rintro e w1 ⟨rfl, rfl⟩
    go_wp2_with fail
    go_ret
    exact ⟨by simp [more, fdss], (Reg.start W (~~~s)).1⟩
  · have HC := Lib.hid hc
    clear hc
    generalize hn : ll.length = n at *
    have HN := Lib.hid hn
    clear hn
    go_enter Tryd.func33, Tryd.ntmps33
    go_wp2_with fail
    refine (behind_v s _).mono ?_
    rintro e w1 ⟨rfl, hw1⟩
    have HR : Hid (Reg W (~~~s) w1) := Lib.hid (hw1 ▸ Reg.start W (~~~s))
    clear hw1
    go_wp2_with fail
    go_loopw [14] (fun i wr => ∃ k : Nat, k ≤ n ∧ i = .int .i64 k ∧ Reg W (fdss (~~~s) (ll.take k)) wr) (fun i _ => n - (intOf i).toNat)
    case atStart => exact ⟨0, Nat.zero_le _, rfl, HR.out⟩
    case round =>
      obtain ⟨k, hk, rfl, hreg⟩ := hrel
      by_cases hlt : k < n
      · obtain ⟨x, hx, hbx⟩ := HC.out k hlt
        have hx : wr.cell? ⟨b, o + k, none⟩ = some x := by
          rw [hreg.1.cell (p := ⟨b, o + k, none⟩) (World.block_lt_of_cell? _ _ hx)]; exact hx
        have HB := Lib.hid hbx
        clear hbx
        rcases HB.out with ⟨hnil, A0, c0, rfl, _⟩ | ⟨b', o', c', rfl, _, hm', hc'⟩
        · have HE : Hid (fdss (~~~s) (ll.take (k + 1)) = fdss (~~~s) (ll.take k)) := Lib.hid (by rw [fdss_snoc _ _ _ (by have := HN.out; omega), hnil]; rfl)
          clear hnil
          go_wp2_with fail
          refine wp_loop_rounds 1 ?_
          rw [rounds_succ]
          go_wp2_with fail
          go_roundw
          case rel => exact ⟨k + 1, by omega, by go_num, by rw [HE.out]; exact hreg⟩
          case measure => simp [intOf]; omega
        · have HE : Hid (fdss (~~~s) (ll.take (k + 1)) = fds (fdss (~~~s) (ll.take k)) ((ll.getD k []).take (ll.getD k []).length)) := Lib.hid (by rw [fdss_snoc _ _ _ (by have := HN.out; omega), List.take_length])
          have HC' := Lib.hid hc'
          clear hc'
          generalize ll.getD k [] = xs at *
          generalize hn' : xs.length = n' at *
          have HN' := Lib.hid hn'
          clear hn'
          go_wp2_with fail
          obtain ⟨wo, rfl⟩ : ∃ wo : World, wo = wr := ⟨_, rfl⟩
          go_loopw [20] (fun i wr => ∃ j : Nat, j ≤ n' ∧ i = .int .i64 j ∧ Reg W (fds (fdss (~~~s) (ll.take k)) (xs.take j)) wr) (fun i _ => n' - (intOf i).toNat)
          case atStart => exact ⟨0, Nat.zero_le _, rfl, hreg⟩
          case round =>
            obtain ⟨j, hj, rfl, hregi⟩ := hrel
            by_cases hlj : j < n'
            · have hcj := HC'.out j hlj
              have hcj : wr.cell? ⟨b', o' + j, none⟩ = some (.int .u8 (ub (xs.getD j 0#8))) := by
                rw [hregi.1.cell (p := ⟨b', o' + j, none⟩) (World.block_lt_of_cell? _ _ hcj)]; exact hcj
              have HS : Hid (fds (fdss (~~~s) (ll.take k)) (xs.take (j + 1)) = fd (fds (fdss (~~~s) (ll.take k)) (xs.take j)) (xs.getD j 0#8)) := Lib.hid (fds_snoc _ _ _ (by have := HN'.out; omega))
              generalize xs.getD j 0#8 = y at *
              go_wp2_with fail
              refine (feed_v _ _ y _ h0 hregi.2.1 hregi.2.2 (HT.out.below hregi.1 h0)).mono ?_
              rintro e w3 ⟨rfl, hp⟩
              go_wp2_with fail
              go_roundw
              case rel => exact ⟨j + 1, by omega, by go_num, by rw [HS.out]; exact hregi.put hp⟩
              case measure => simp [intOf]; omega
            · have hje : j = n' := by omega
              subst hje
              go_wp2_with fail
              go_roundw
              case rel => exact ⟨k + 1, by omega, by go_num, by rw [HE.out]; exact hregi⟩
              case measure => simp [intOf]; omega
      · have hke : k = n := by omega
        subst hke
        have hreg' : Reg W (fdss (~~~s) ll) wr := by
          have := hreg; rw [← HN.out, List.take_length] at this; exact this
        go_wp2_with fail
        refine (sum_v _ _ _ hreg'.2.1).mono ?_
        rintro e w4 ⟨rfl, rfl⟩
        go_wp2_with fail
        go_ret
        exact ⟨rfl, hreg'.1⟩

theorem sum0_v (v : Value) (ll : List (List B8)) (W : World) (hr : RowsIn W v ll) (ht : Tab W) :
    Calls Tryd.prog 22 #[v] W fun e w' => e = .returned (.int .u32 (u (more 0#32 ll))) ∧ Below W.heap.size W w' := by
  go_enter Tryd.func22, Tryd.ntmps22
  go_wp2_with fail
  refine (more_v 0#32 v ll W hr ht).mono ?_
  rintro e w' ⟨rfl, hb⟩
  go_wp2_with fail
  go_ret
  exact ⟨rfl, hb⟩

end Go.Proofs.YtpebnlddmjfomaaDoor
