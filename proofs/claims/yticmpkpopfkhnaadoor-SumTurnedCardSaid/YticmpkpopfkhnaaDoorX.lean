/- The law SumTurned, walked: called at a world in which the table is as the text lays it, with any bytes, any places, any pattern, it returns true, and turns nothing that was there. -/
import Derived.Test.YticmpkpopfkhnaaDoorG
import Derived.Test.YticmpkpopfkhnaaDoorD
import Derived.Test.YticmpkpopfkhnaaDoorP3
namespace Go.Proofs.YticmpkpopfkhnaaDoor
open Go.RowKit

theorem okx {w X Y : World} {b : Nat} (h : Ok w X) (k : Below b X Y) (hb : w.heap.size ≤ b) : Ok w Y := Below.trans h (k.mono hb)
theorem more_ne (xs ys : List B8) (h : ∀ r, fds r xs ≠ fds r ys) : (u (more 0#32 [xs]) == u (more 0#32 [ys])) = false := by
  rw [u_eq, beq_eq_false_iff_ne]
  intro e
  simp only [more, fdss, List.foldl_cons, List.foldl_nil] at e
  exact h _ (BitVec.not_inj.1 e)
theorem OwnB.store {w : World} {base g cap : Nat} {xs : List B8} (h : OwnB w base g cap xs) (j : Nat) (y : B8) : OwnB (w.setCell ⟨g, j, none⟩ (.int .u8 (ub y))) base g cap (xs.set j y) ∧ Below base w (w.setCell ⟨g, j, none⟩ (.int .u8 (ub y))) := by
  refine ⟨⟨?_, by rw [List.length_set]; exact h.2.1, h.2.2⟩, (Below.refl _ _).setCell h.base_le.1 _⟩
  have := (h.1.stored j (.int .u8 (ub y))).1
  rw [List.length_set, List.map_set]; exact this
theorem OwnB.cell {w : World} {base g cap : Nat} {xs : List B8} (h : OwnB w base g cap xs) (j : Nat) (hj : j < xs.length) : w.cell? ⟨g, j, none⟩ = some (.int .u8 (ub (xs.getD j 0#8))) ∧ w.frozen? ⟨g, j, none⟩ = false := by
  refine ⟨?_, h.1.frozenAt j⟩
  rw [h.1.cellAt j (by omega)]
  simp [hj, bv]
theorem ofInt_ub' (v : B8) : BitVec.ofInt 8 (ub v) = v := by
  rw [ub, BitVec.ofInt_natCast, BitVec.ofNat_toNat, BitVec.setWidth_eq]
theorem xor8b_v (a b : B8) : bits .xor .u8 (ub a) (ub b) = ub (a ^^^ b) := by
  show IntKind.u8.wrap ((BitVec.ofInt 8 (ub a) ^^^ BitVec.ofInt 8 (ub b)).toNat : Int) = _
  rw [ofInt_ub', ofInt_ub', IntKind.wrap_u8, ub]; have := (a ^^^ b).isLt; omega

theorem shrw_v (a : B32) (n : Nat) : u a / (2 : Int) ^ n = u (a >>> n) := by
  rw [← shr_v]; simp
theorem eqb_v (a : B32) (n : Nat) : (u (a >>> n &&& 1#32) == 1) = a.getLsbD n := by
  rw [eq1_v]
  cases h : a.getLsbD n with
  | true =>
    apply decide_eq_true
    apply BitVec.eq_of_getLsbD_eq
    intro i hi
    rw [BitVec.getLsbD_and, BitVec.getLsbD_ushiftRight, BitVec.getLsbD_one]
    by_cases h0 : i = 0
    · subst h0; simp [h]
    · simp [h0]
  | false =>
    apply decide_eq_false
    intro e
    have := congrArg (fun x : B32 => x.getLsbD 0) e
    simp only [BitVec.getLsbD_and, BitVec.getLsbD_ushiftRight, Nat.add_zero, h, Bool.false_and] at this
    cases this
theorem shl_v (n : Nat) (h : n < 8) : ((2 : Int) ^ n % 256) = ub (1#8 <<< n) := by
  have : ∀ n : Fin 8, ((2 : Int) ^ n.1 % 256) = ub (1#8 <<< n.1) := by decide
  exact this ⟨n, h⟩
theorem flip_v (y : B8) (k : Nat) : bits .xor .u8 (ub y) ((2 : Int) ^ (k % 8) % 256) = ub (y ^^^ 1#8 <<< (k % 8)) := by
  rw [shl_v _ (Nat.mod_lt _ (by decide)), xor8b_v]

set_option maxRecDepth 100000 in
set_option maxHeartbeats 4000000 in
theorem sumTurned_v (W : World) (ht : Tab W) (va : Value) (xa : List B8) (ha : BytesIn W va xa) (at' far : Int) (hc0 : -9223372036854775808 ≤ at') (hc1 : at' ≤ 9223372036854775807) (hf0 : -9223372036854775808 ≤ far) (hf1 : far ≤ 9223372036854775807) (burst : B32) :
    Calls Tryd.prog 6 #[va, .int .i64 at', .int .i64 far, .int .u32 (u burst)] W fun e w' => e = .returned (.bool true) ∧ Below W.heap.size W w' := by
  obtain ⟨A, ca, rfl, hma⟩ := ha.form
  have HA := Lib.hid ha
  have HT := Lib.hid ht
  clear ha ht
  have HTOT : Hid (tot [xa] 1 = 1 + xa.length) := Lib.hid rfl
  generalize hna : xa.length = na at *
  have HNA := Lib.hid hna
  clear hna
  go_enter Tryd.func6, Tryd.ntmps6
  go_wp2_with fail
  refine (awake_v _ HT.out).mono ?_
  rintro e w1 ⟨rfl, hb⟩
  have HO1 : Hid (Ok W w1) := Lib.hid hb
  clear hb
  go_wp2_with fail
  refine (great_v _ [xa] _ (rows1_of _ (.slice A na ca) xa _ _ ?_ ?_)).mono ?_
  · repeat (first | ((with_reducible refine C.new _ _ _ _ _ ?_ ?_) <;> (first | rfl | (simp; done))) | (with_reducible refine C.drew ?_) | (with_reducible refine C.old _ ?_) | (with_reducible refine C.call (by assumption) ?_))
  · refine Ok.bytes (w := W) ?_ HA.out; have := HO1.out; repeat (first | (with_reducible exact Ok.refl _) | (with_reducible refine Ok.drew ?_) | (with_reducible refine Ok.alloc ?_ _) | (with_reducible refine Ok.trans ?_ (by assumption)))
  rintro e w2 ⟨rfl, rfl⟩
  by_cases hg : 20000 < tot [xa] [xa].length
  · rw [decide_eq_true hg]
    go_wp2_with fail
    go_ret
    refine ⟨rfl, ?_⟩
    exact Below.alloc HO1.out (Below.size HO1.out) _
  rw [decide_eq_false hg]
  have hsmall : na ≤ 20000 := by
    have h1 : tot [xa] 1 ≤ 20000 := Nat.le_of_not_lt hg
    rw [HTOT.out] at h1; omega
  clear hg
  by_cases hz0 : na = 0
  · subst hz0
    go_wp2_with fail
    go_ret
    refine ⟨rfl, ?_⟩
    exact Below.alloc HO1.out (Below.size HO1.out) _
  have hz1 : ((na : Int) == 0) = false := by rw [beq_eq_false_iff_ne]; omega
  have HO2 : Hid (Ok W (w1.alloc (.cells #[.slice A na ca] 34))) := Lib.hid (HO1.out.alloc _)
  generalize w1.alloc (.cells #[.slice A na ca] 34) = w2 at *
  generalize w1.heap.size = g0 at *
  clear HO1
  go_wp2_with fail
  refine (sum0_v _ [xa] _ (rows1_of _ (.slice A na ca) xa _ _ ?_ ?_) ?_).mono ?_
  · repeat (first | ((with_reducible refine C.new _ _ _ _ _ ?_ ?_) <;> (first | rfl | (simp; done))) | (with_reducible refine C.drew ?_) | (with_reducible refine C.old _ ?_) | (with_reducible refine C.call (by assumption) ?_))
  · refine Ok.bytes (w := W) ?_ HA.out; have := HO2.out; repeat (first | (with_reducible exact Ok.refl _) | (with_reducible refine Ok.drew ?_) | (with_reducible refine Ok.alloc ?_ _) | (with_reducible refine Ok.trans ?_ (by assumption)))
  · refine Ok.tab (w := W) ?_ HT.out; have := HO2.out; repeat (first | (with_reducible exact Ok.refl _) | (with_reducible refine Ok.drew ?_) | (with_reducible refine Ok.alloc ?_ _) | (with_reducible refine Ok.trans ?_ (by assumption)))
  rintro e w3 ⟨rfl, hb3⟩
  replace hb3 : Ok _ _ := hb3
  have HO3 : Hid (Ok W w3) := Lib.hid (by have := HO2.out; repeat (first | (with_reducible exact Ok.refl _) | (with_reducible refine Ok.drew ?_) | (with_reducible refine Ok.alloc ?_ _) | (with_reducible refine Ok.trans ?_ (by assumption))))
  clear hb3 HO2
  clear hz1
  go_wp2_with fail
  refine (pick_v at' _ _ hc0 hc1 (by omega) (by omega)).mono ?_
  rintro e w5 ⟨k0, hk0, hk1, rfl, rfl⟩
  obtain ⟨k, rfl⟩ := Int.eq_ofNat_of_zero_le hk0
  have hk8 : k < 8 * na := by omega
  clear hk0
  have HOW : Hid (OwnB (w3.alloc (.cells #[] 5)) w3.heap.size w3.heap.size 0 []) := Lib.hid (OwnB.start w3 w3.heap.size (Nat.le_refl _))
  have HA3 : Hid (BytesIn (w3.alloc (.cells #[] 5)) (.slice A na ca) xa) := Lib.hid (Ok.bytes (HO3.out.alloc _) HA.out)
  have hsz3 : W.heap.size ≤ w3.heap.size := HO3.out.size
  go_wp2_with (at_builtin; refine wpList_app rfl (.tmp 36) (.tmp 37) rfl w3.heap.size w3.heap.size 0 [] xa (.slice A na ca) rfl rfl HOW.out HA3.out (by have := HNA.out; simp; omega) (by simp) ?_; intro g1 cap1 w4 hown1 hbel1; simp only [List.nil_append, List.length_nil, Nat.zero_add] at hown1 ⊢; rw [HNA.out]; have hkc := hown1.cell (k / 8) (by have := HNA.out; omega); have hkc1 := hkc.1; have hkc2 := hkc.2; clear hkc; obtain ⟨y, hy⟩ : ∃ y, y = xa.getD (k / 8) 0#8 := ⟨_, rfl⟩; rw [← hy] at hkc1; have hfl := flip_v y k; have HFL : Hid (flip xa k = xa.set (k / 8) (y ^^^ 1#8 <<< (k % 8))) := Lib.hid (by rw [hy]; rfl); clear hy; generalize y ^^^ 1#8 <<< (k % 8) = z at *; have hown1 := Lib.hid hown1; have HO4 : Hid (Ok W w4) := Lib.hid (okx (HO3.out.alloc _) hbel1 hsz3); clear hbel1; clear HOW HA3)
  have HOS := Lib.hid (hown1.out.store (k / 8) z)
  rw [← HFL.out] at HOS
  have HO5 : Hid (Ok W (w4.setCell ⟨g1, k / 8, none⟩ (.int .u8 (ub z)))) := Lib.hid (okx HO4.out HOS.out.2 hsz3)
  have hsz5 : (w4.setCell ⟨g1, k / 8, none⟩ (.int .u8 (ub z))).heap.size = w4.heap.size := by simp [World.setCell]
  generalize w4.setCell ⟨g1, k / 8, none⟩ (.int .u8 (ub z)) = w5 at *
  rw [← hsz5]
  clear hsz5
  have HOWN : Hid (OwnB w5 w3.heap.size g1 cap1 (flip xa k)) := Lib.hid HOS.out.1
  have HFN : Hid ((flip xa k).length = na) := Lib.hid (by rw [flip_length]; exact HNA.out)
  have HB5 : Hid (BytesIn w5 (.slice (some ⟨g1, 0, none⟩) na cap1) (flip xa k)) := Lib.hid (by
    have := HOWN.out.bytes (by rw [HFN.out]; omega)
    rwa [HFN.out] at this)
  clear hkc1 hkc2 hfl hown1 HO4 HOS HFL
  have hne1 := more_ne (flip xa k) xa fun r => turned_one r xa k (by have := HNA.out; omega)
  have HO5' : Ok W w5 := HO5.out
  refine (sum0_v _ [flip xa k] _ (rows1_of _ (.slice (some ⟨g1, 0, none⟩) na cap1) (flip xa k) _ _ ?_ ?_) ?_).mono ?_
  · repeat (first | ((with_reducible refine C.new _ _ _ _ _ ?_ ?_) <;> (first | rfl | (simp; done))) | (with_reducible refine C.drew ?_) | (with_reducible refine C.old _ ?_) | (with_reducible refine C.call (by assumption) ?_))
  · refine Ok.bytes (w := w5) ?_ HB5.out; clear HO5'; repeat (first | (with_reducible exact Ok.refl _) | (with_reducible refine Ok.drew ?_) | (with_reducible refine Ok.alloc ?_ _) | (with_reducible refine Ok.trans ?_ (by assumption)))
  · refine Ok.tab (w := W) ?_ HT.out; repeat (first | (with_reducible exact Ok.refl _) | (with_reducible refine Ok.drew ?_) | (with_reducible refine Ok.alloc ?_ _) | (with_reducible refine Ok.trans ?_ (by assumption)))
  rintro e w6 ⟨rfl, hb6⟩
  replace hb6 : Ok _ _ := hb6
  have HO56 : Hid (Ok w5 w6) := Lib.hid (by clear HO5'; repeat (first | (with_reducible exact Ok.refl _) | (with_reducible refine Ok.drew ?_) | (with_reducible refine Ok.alloc ?_ _) | (with_reducible refine Ok.trans ?_ (by assumption))))
  clear hb6 HO5'
  have HO6 : Hid (Ok W w6) := Lib.hid (HO5.out.trans HO56.out)
  have HOWN6 : Hid (OwnB w6 w3.heap.size g1 cap1 (flip xa k)) := Lib.hid (HOWN.out.ok HO56.out)
  clear HO5 HO56 HOWN HB5
  go_wp2_with fail
  refine (pick_v far 32767 _ hf0 hf1 (by omega) (by omega)).mono ?_
  rintro e w7 ⟨k20, hk20, hk21, rfl, rfl⟩
  obtain ⟨m, hmm⟩ : ∃ m : Nat, (k : Int) + 1 + k20 = m := ⟨k + 1 + k20.toNat, by omega⟩
  have hkm : k < m := by omega
  have hkm2 : m - k ≤ 32767 := by omega
  have hmx : m ≤ 200000 := by omega
  clear hne1
  by_cases hm : m < 8 * na
  · have hcm := HOWN6.out.cell (m / 8) (by have := HFN.out; omega)
    have hcm1 := hcm.1
    have hcm2 := hcm.2
    clear hcm
    obtain ⟨y2, hy⟩ : ∃ y2, y2 = (flip xa k).getD (m / 8) 0#8 := ⟨_, rfl⟩
    rw [← hy] at hcm1
    have hfl2 := flip_v y2 m
    have HFL2 : Hid (flip (flip xa k) m = (flip xa k).set (m / 8) (y2 ^^^ 1#8 <<< (m % 8))) := Lib.hid (by rw [hy]; rfl)
    clear hy
    generalize y2 ^^^ 1#8 <<< (m % 8) = z2 at *
    go_wp2_with fail
    have HOS := Lib.hid (HOWN6.out.store (m / 8) z2)
    rw [← HFL2.out] at HOS
    have HO7 : Hid (Ok W (w6.setCell ⟨g1, m / 8, none⟩ (.int .u8 (ub z2)))) := Lib.hid (okx HO6.out HOS.out.2 hsz3)
    have hsz7 : (w6.setCell ⟨g1, m / 8, none⟩ (.int .u8 (ub z2))).heap.size = w6.heap.size := by simp [World.setCell]
    generalize w6.setCell ⟨g1, m / 8, none⟩ (.int .u8 (ub z2)) = w7 at *
    rw [← hsz7]
    clear hsz7
    have HFN2 : Hid ((flip (flip xa k) m).length = na) := Lib.hid (by rw [flip_length]; exact HFN.out)
    have HB7 : Hid (BytesIn w7 (.slice (some ⟨g1, 0, none⟩) na cap1) (flip (flip xa k) m)) := Lib.hid (by
      have := HOS.out.1.bytes (by rw [HFN2.out]; omega)
      rwa [HFN2.out] at this)
    clear hcm1 hcm2 hfl2 HOS HFL2
    have hne2 := more_ne (flip (flip xa k) m) xa fun r => turned_two r xa k m hkm (by have := HNA.out; omega) hkm2
    have HO7' : Ok W w7 := HO7.out
    refine (sum0_v _ [flip (flip xa k) m] _ (rows1_of _ (.slice (some ⟨g1, 0, none⟩) na cap1) (flip (flip xa k) m) _ _ ?_ ?_) ?_).mono ?_
    · repeat (first | ((with_reducible refine C.new _ _ _ _ _ ?_ ?_) <;> (first | rfl | (simp; done))) | (with_reducible refine C.drew ?_) | (with_reducible refine C.old _ ?_) | (with_reducible refine C.call (by assumption) ?_))
    · refine Ok.bytes (w := w7) ?_ HB7.out; clear HO7'; repeat (first | (with_reducible exact Ok.refl _) | (with_reducible refine Ok.drew ?_) | (with_reducible refine Ok.alloc ?_ _) | (with_reducible refine Ok.trans ?_ (by assumption)))
    · refine Ok.tab (w := W) ?_ HT.out; repeat (first | (with_reducible exact Ok.refl _) | (with_reducible refine Ok.drew ?_) | (with_reducible refine Ok.alloc ?_ _) | (with_reducible refine Ok.trans ?_ (by assumption)))
    rintro e w8 ⟨rfl, hb8⟩
    replace hb8 : Ok _ _ := hb8
    have HO8 : Hid (Ok W w8) := Lib.hid (by repeat (first | (with_reducible exact Ok.refl _) | (with_reducible refine Ok.drew ?_) | (with_reducible refine Ok.alloc ?_ _) | (with_reducible refine Ok.trans ?_ (by assumption))))
    clear hb8 HO7' HO7 HB7 HFN2 HO6 HOWN6 HFN
    have HOW2 : Hid (OwnB (w8.alloc (.cells #[] 5)) w8.heap.size w8.heap.size 0 []) := Lib.hid (OwnB.start w8 w8.heap.size (Nat.le_refl _))
    have HA8 : Hid (BytesIn (w8.alloc (.cells #[] 5)) (.slice A na ca) xa) := Lib.hid (Ok.bytes (HO8.out.alloc _) HA.out)
    have hsz8 : W.heap.size ≤ w8.heap.size := HO8.out.size
    go_wp2_with (at_builtin; refine wpList_app rfl (.tmp 79) (.tmp 80) rfl w8.heap.size w8.heap.size 0 [] xa (.slice A na ca) rfl rfl HOW2.out HA8.out (by have := HNA.out; simp; omega) (by simp) ?_; intro g2 cap2 w10 hown2 hbel2; simp only [List.nil_append, List.length_nil, Nat.zero_add] at hown2 ⊢; rw [HNA.out]; have hown2 := Lib.hid hown2; have HO10 : Hid (Ok W w10) := Lib.hid (okx (HO8.out.alloc _) hbel2 hsz8); clear hbel2; clear HOW2 HA8)
    go_loopw [15, 16] (fun sm i wr => ∃ j : Nat, j ≤ 32 ∧ k + j ≤ 8 * na ∧ i = .int .i64 j ∧ sm = .bool (anyTo burst j) ∧ OwnB wr w8.heap.size g2 cap2 (burstTo xa k burst j) ∧ Ok W wr) (fun _ i _ => 32 - (intOf i).toNat)
    case atStart => exact ⟨0, by omega, by omega, rfl, rfl, hown2.out, HO10.out⟩
    case round =>
      obtain ⟨j, hj, hkj, rfl, rfl, hown, hok⟩ := hrel
      have HBL : Hid ((burstTo xa k burst j).length = na) := Lib.hid (by rw [burstTo_length]; exact HNA.out)
      by_cases hin : j < 32 ∧ k + j < 8 * na
      · obtain ⟨hj32, hkj8⟩ := hin
        have hd1 : decide ((j : Int) < 32) = true := decide_eq_true (by omega)
        have hd2 : decide ((k : Int) + (j : Int) < 8 * (na : Int)) = true := decide_eq_true (by omega)
        have HST : Hid (burstTo xa k burst (j + 1) = if burst.getLsbD j then flip (burstTo xa k burst j) (k + j) else burstTo xa k burst j) := Lib.hid rfl
        have HAT : Hid (anyTo burst (j + 1) = (anyTo burst j || burst.getLsbD j)) := Lib.hid rfl
        have h1 := shrw_v burst j
        have h2 := and1_v (burst >>> j)
        have h3 := eqb_v burst j
        by_cases hb : burst.getLsbD j = true
        · rw [hb] at h3
          have hcm := hown.cell ((k + j) / 8) (by have := HBL.out; omega)
          have hcm1 := hcm.1
          have hcm2 := hcm.2
          clear hcm
          obtain ⟨y2, hy⟩ : ∃ y2, y2 = (burstTo xa k burst j).getD ((k + j) / 8) 0#8 := ⟨_, rfl⟩
          rw [← hy] at hcm1
          have hfl2 := flip_v y2 (k + j)
          have HFL2 : Hid (flip (burstTo xa k burst j) (k + j) = (burstTo xa k burst j).set ((k + j) / 8) (y2 ^^^ 1#8 <<< ((k + j) % 8))) := Lib.hid (by rw [hy]; rfl)
          clear hy
          generalize y2 ^^^ 1#8 <<< ((k + j) % 8) = z2 at *
          generalize burst >>> j &&& 1#32 = tb at *
          have HOS := Lib.hid (hown.store ((k + j) / 8) z2)
          rw [← HFL2.out] at HOS
          have HOX := Lib.hid hok
          clear hown hok
          go_wp2_with fail
          go_roundw
          case rel => exact ⟨j + 1, by omega, by omega, by go_num, by rw [HAT.out, hb, Bool.or_true], by rw [HST.out, if_pos hb]; exact HOS.out.1, okx HOX.out HOS.out.2 hsz8⟩
          case measure => simp [intOf]; omega
        · have hb' : burst.getLsbD j = false := by simpa using hb
          rw [hb'] at h3
          generalize burst >>> j &&& 1#32 = tb at *
          have HOS := Lib.hid hown
          have HOX := Lib.hid hok
          clear hown hok
          go_wp2_with fail
          go_roundw
          case rel => exact ⟨j + 1, by omega, by omega, by go_num, by rw [HAT.out, hb', Bool.or_false], by rw [HST.out, if_neg hb]; exact HOS.out, HOX.out⟩
          case measure => simp [intOf]; omega
      · have HBY : Hid (BytesIn wr (.slice (some ⟨g2, 0, none⟩) na cap2) (burstTo xa k burst j)) := Lib.hid (by
          have := hown.bytes (by rw [HBL.out]; omega)
          rwa [HBL.out] at this)
        have HOX := Lib.hid hok
        clear hown hok
        by_cases hany : anyTo burst j = true
        · have hnf := more_ne (burstTo xa k burst j) xa fun r => turned_burst r xa k j burst hj (by have := HNA.out; omega) hany
          have hnf2 : (u (more 0#32 [burstTo xa k burst j]) != u (more 0#32 [xa])) = true := by rw [bne, hnf]; rfl
          clear hnf
          rw [hany]
          clear hany
          by_cases hj32 : j < 32
          · have hd1 : decide ((j : Int) < 32) = true := decide_eq_true (by omega)
            have hd2 : decide ((k : Int) + (j : Int) < 8 * (na : Int)) = false := decide_eq_false (by omega)
            go_wp2_with fail
            refine (sum0_v _ [burstTo xa k burst j] _ (rows1_of _ (.slice (some ⟨g2, 0, none⟩) na cap2) (burstTo xa k burst j) _ _ ?_ ?_) ?_).mono ?_
            · repeat (first | ((with_reducible refine C.new _ _ _ _ _ ?_ ?_) <;> (first | rfl | (simp; done))) | (with_reducible refine C.drew ?_) | (with_reducible refine C.old _ ?_) | (with_reducible refine C.call (by assumption) ?_))
            · refine Ok.bytes (w := wr) ?_ HBY.out; repeat (first | (with_reducible exact Ok.refl _) | (with_reducible refine Ok.drew ?_) | (with_reducible refine Ok.alloc ?_ _) | (with_reducible refine Ok.trans ?_ (by assumption)))
            · refine Ok.tab (w := W) ?_ HT.out; have := HOX.out; repeat (first | (with_reducible exact Ok.refl _) | (with_reducible refine Ok.drew ?_) | (with_reducible refine Ok.alloc ?_ _) | (with_reducible refine Ok.trans ?_ (by assumption)))
            rintro e w12 ⟨rfl, hb12⟩
            replace hb12 : Ok _ _ := hb12
            have HO12 : Hid (Ok W w12) := Lib.hid (by have := HOX.out; repeat (first | (with_reducible exact Ok.refl _) | (with_reducible refine Ok.drew ?_) | (with_reducible refine Ok.alloc ?_ _) | (with_reducible refine Ok.trans ?_ (by assumption))))
            clear hb12
            go_wp2_with fail
            go_ret
            exact ⟨rfl, HO12.out⟩
          · have hd1 : decide ((j : Int) < 32) = false := decide_eq_false (by omega)
            go_wp2_with fail
            refine (sum0_v _ [burstTo xa k burst j] _ (rows1_of _ (.slice (some ⟨g2, 0, none⟩) na cap2) (burstTo xa k burst j) _ _ ?_ ?_) ?_).mono ?_
            · repeat (first | ((with_reducible refine C.new _ _ _ _ _ ?_ ?_) <;> (first | rfl | (simp; done))) | (with_reducible refine C.drew ?_) | (with_reducible refine C.old _ ?_) | (with_reducible refine C.call (by assumption) ?_))
            · refine Ok.bytes (w := wr) ?_ HBY.out; repeat (first | (with_reducible exact Ok.refl _) | (with_reducible refine Ok.drew ?_) | (with_reducible refine Ok.alloc ?_ _) | (with_reducible refine Ok.trans ?_ (by assumption)))
            · refine Ok.tab (w := W) ?_ HT.out; have := HOX.out; repeat (first | (with_reducible exact Ok.refl _) | (with_reducible refine Ok.drew ?_) | (with_reducible refine Ok.alloc ?_ _) | (with_reducible refine Ok.trans ?_ (by assumption)))
            rintro e w12 ⟨rfl, hb12⟩
            replace hb12 : Ok _ _ := hb12
            have HO12 : Hid (Ok W w12) := Lib.hid (by have := HOX.out; repeat (first | (with_reducible exact Ok.refl _) | (with_reducible refine Ok.drew ?_) | (with_reducible refine Ok.alloc ?_ _) | (with_reducible refine Ok.trans ?_ (by assumption))))
            clear hb12
            go_wp2_with fail
            go_ret
            exact ⟨rfl, HO12.out⟩
        · have hany' : anyTo burst j = false := by simpa using hany
          rw [hany']
          clear hany hany'
          by_cases hj32 : j < 32
          · have hd1 : decide ((j : Int) < 32) = true := decide_eq_true (by omega)
            have hd2 : decide ((k : Int) + (j : Int) < 8 * (na : Int)) = false := decide_eq_false (by omega)
            go_wp2_with fail
            go_ret
            exact ⟨rfl, HOX.out⟩
          · have hd1 : decide ((j : Int) < 32) = false := decide_eq_false (by omega)
            go_wp2_with fail
            go_ret
            exact ⟨rfl, HOX.out⟩
  · have HO8 := HO6
    obtain ⟨w8, rfl⟩ : ∃ w8 : World, w8 = w6 := ⟨_, rfl⟩
    clear HO6 HOWN6 HFN
    clear hkm hkm2
    have HOW2 : Hid (OwnB (w8.alloc (.cells #[] 5)) w8.heap.size w8.heap.size 0 []) := Lib.hid (OwnB.start w8 w8.heap.size (Nat.le_refl _))
    have HA8 : Hid (BytesIn (w8.alloc (.cells #[] 5)) (.slice A na ca) xa) := Lib.hid (Ok.bytes (HO8.out.alloc _) HA.out)
    have hsz8 : W.heap.size ≤ w8.heap.size := HO8.out.size
    go_wp2_with (at_builtin; refine wpList_app rfl (.tmp 79) (.tmp 80) rfl w8.heap.size w8.heap.size 0 [] xa (.slice A na ca) rfl rfl HOW2.out HA8.out (by have := HNA.out; simp; omega) (by simp) ?_; intro g2 cap2 w10 hown2 hbel2; simp only [List.nil_append, List.length_nil, Nat.zero_add] at hown2 ⊢; rw [HNA.out]; have hown2 := Lib.hid hown2; have HO10 : Hid (Ok W w10) := Lib.hid (okx (HO8.out.alloc _) hbel2 hsz8); clear hbel2; clear HOW2 HA8)
    go_loopw [15, 16] (fun sm i wr => ∃ j : Nat, j ≤ 32 ∧ k + j ≤ 8 * na ∧ i = .int .i64 j ∧ sm = .bool (anyTo burst j) ∧ OwnB wr w8.heap.size g2 cap2 (burstTo xa k burst j) ∧ Ok W wr) (fun _ i _ => 32 - (intOf i).toNat)
    case atStart => exact ⟨0, by omega, by omega, rfl, rfl, hown2.out, HO10.out⟩
    case round =>
      obtain ⟨j, hj, hkj, rfl, rfl, hown, hok⟩ := hrel
      have HBL : Hid ((burstTo xa k burst j).length = na) := Lib.hid (by rw [burstTo_length]; exact HNA.out)
      by_cases hin : j < 32 ∧ k + j < 8 * na
      · obtain ⟨hj32, hkj8⟩ := hin
        have hd1 : decide ((j : Int) < 32) = true := decide_eq_true (by omega)
        have hd2 : decide ((k : Int) + (j : Int) < 8 * (na : Int)) = true := decide_eq_true (by omega)
        have HST : Hid (burstTo xa k burst (j + 1) = if burst.getLsbD j then flip (burstTo xa k burst j) (k + j) else burstTo xa k burst j) := Lib.hid rfl
        have HAT : Hid (anyTo burst (j + 1) = (anyTo burst j || burst.getLsbD j)) := Lib.hid rfl
        have h1 := shrw_v burst j
        have h2 := and1_v (burst >>> j)
        have h3 := eqb_v burst j
        by_cases hb : burst.getLsbD j = true
        · rw [hb] at h3
          have hcm := hown.cell ((k + j) / 8) (by have := HBL.out; omega)
          have hcm1 := hcm.1
          have hcm2 := hcm.2
          clear hcm
          obtain ⟨y2, hy⟩ : ∃ y2, y2 = (burstTo xa k burst j).getD ((k + j) / 8) 0#8 := ⟨_, rfl⟩
          rw [← hy] at hcm1
          have hfl2 := flip_v y2 (k + j)
          have HFL2 : Hid (flip (burstTo xa k burst j) (k + j) = (burstTo xa k burst j).set ((k + j) / 8) (y2 ^^^ 1#8 <<< ((k + j) % 8))) := Lib.hid (by rw [hy]; rfl)
          clear hy
          generalize y2 ^^^ 1#8 <<< ((k + j) % 8) = z2 at *
          generalize burst >>> j &&& 1#32 = tb at *
          have HOS := Lib.hid (hown.store ((k + j) / 8) z2)
          rw [← HFL2.out] at HOS
          have HOX := Lib.hid hok
          clear hown hok
          go_wp2_with fail
          go_roundw
          case rel => exact ⟨j + 1, by omega, by omega, by go_num, by rw [HAT.out, hb, Bool.or_true], by rw [HST.out, if_pos hb]; exact HOS.out.1, okx HOX.out HOS.out.2 hsz8⟩
          case measure => simp [intOf]; omega
        · have hb' : burst.getLsbD j = false := by simpa using hb
          rw [hb'] at h3
          generalize burst >>> j &&& 1#32 = tb at *
          have HOS := Lib.hid hown
          have HOX := Lib.hid hok
          clear hown hok
          go_wp2_with fail
          go_roundw
          case rel => exact ⟨j + 1, by omega, by omega, by go_num, by rw [HAT.out, hb', Bool.or_false], by rw [HST.out, if_neg hb]; exact HOS.out, HOX.out⟩
          case measure => simp [intOf]; omega
      · have HBY : Hid (BytesIn wr (.slice (some ⟨g2, 0, none⟩) na cap2) (burstTo xa k burst j)) := Lib.hid (by
          have := hown.bytes (by rw [HBL.out]; omega)
          rwa [HBL.out] at this)
        have HOX := Lib.hid hok
        clear hown hok
        by_cases hany : anyTo burst j = true
        · have hnf := more_ne (burstTo xa k burst j) xa fun r => turned_burst r xa k j burst hj (by have := HNA.out; omega) hany
          have hnf2 : (u (more 0#32 [burstTo xa k burst j]) != u (more 0#32 [xa])) = true := by rw [bne, hnf]; rfl
          clear hnf
          rw [hany]
          clear hany
          by_cases hj32 : j < 32
          · have hd1 : decide ((j : Int) < 32) = true := decide_eq_true (by omega)
            have hd2 : decide ((k : Int) + (j : Int) < 8 * (na : Int)) = false := decide_eq_false (by omega)
            go_wp2_with fail
            refine (sum0_v _ [burstTo xa k burst j] _ (rows1_of _ (.slice (some ⟨g2, 0, none⟩) na cap2) (burstTo xa k burst j) _ _ ?_ ?_) ?_).mono ?_
            · repeat (first | ((with_reducible refine C.new _ _ _ _ _ ?_ ?_) <;> (first | rfl | (simp; done))) | (with_reducible refine C.drew ?_) | (with_reducible refine C.old _ ?_) | (with_reducible refine C.call (by assumption) ?_))
            · refine Ok.bytes (w := wr) ?_ HBY.out; repeat (first | (with_reducible exact Ok.refl _) | (with_reducible refine Ok.drew ?_) | (with_reducible refine Ok.alloc ?_ _) | (with_reducible refine Ok.trans ?_ (by assumption)))
            · refine Ok.tab (w := W) ?_ HT.out; have := HOX.out; repeat (first | (with_reducible exact Ok.refl _) | (with_reducible refine Ok.drew ?_) | (with_reducible refine Ok.alloc ?_ _) | (with_reducible refine Ok.trans ?_ (by assumption)))
            rintro e w12 ⟨rfl, hb12⟩
            replace hb12 : Ok _ _ := hb12
            have HO12 : Hid (Ok W w12) := Lib.hid (by have := HOX.out; repeat (first | (with_reducible exact Ok.refl _) | (with_reducible refine Ok.drew ?_) | (with_reducible refine Ok.alloc ?_ _) | (with_reducible refine Ok.trans ?_ (by assumption))))
            clear hb12
            go_wp2_with fail
            go_ret
            exact ⟨rfl, HO12.out⟩
          · have hd1 : decide ((j : Int) < 32) = false := decide_eq_false (by omega)
            go_wp2_with fail
            refine (sum0_v _ [burstTo xa k burst j] _ (rows1_of _ (.slice (some ⟨g2, 0, none⟩) na cap2) (burstTo xa k burst j) _ _ ?_ ?_) ?_).mono ?_
            · repeat (first | ((with_reducible refine C.new _ _ _ _ _ ?_ ?_) <;> (first | rfl | (simp; done))) | (with_reducible refine C.drew ?_) | (with_reducible refine C.old _ ?_) | (with_reducible refine C.call (by assumption) ?_))
            · refine Ok.bytes (w := wr) ?_ HBY.out; repeat (first | (with_reducible exact Ok.refl _) | (with_reducible refine Ok.drew ?_) | (with_reducible refine Ok.alloc ?_ _) | (with_reducible refine Ok.trans ?_ (by assumption)))
            · refine Ok.tab (w := W) ?_ HT.out; have := HOX.out; repeat (first | (with_reducible exact Ok.refl _) | (with_reducible refine Ok.drew ?_) | (with_reducible refine Ok.alloc ?_ _) | (with_reducible refine Ok.trans ?_ (by assumption)))
            rintro e w12 ⟨rfl, hb12⟩
            replace hb12 : Ok _ _ := hb12
            have HO12 : Hid (Ok W w12) := Lib.hid (by have := HOX.out; repeat (first | (with_reducible exact Ok.refl _) | (with_reducible refine Ok.drew ?_) | (with_reducible refine Ok.alloc ?_ _) | (with_reducible refine Ok.trans ?_ (by assumption))))
            clear hb12
            go_wp2_with fail
            go_ret
            exact ⟨rfl, HO12.out⟩
        · have hany' : anyTo burst j = false := by simpa using hany
          rw [hany']
          clear hany hany'
          by_cases hj32 : j < 32
          · have hd1 : decide ((j : Int) < 32) = true := decide_eq_true (by omega)
            have hd2 : decide ((k : Int) + (j : Int) < 8 * (na : Int)) = false := decide_eq_false (by omega)
            go_wp2_with fail
            go_ret
            exact ⟨rfl, HOX.out⟩
          · have hd1 : decide ((j : Int) < 32) = false := decide_eq_false (by omega)
            go_wp2_with fail
            go_ret
            exact ⟨rfl, HOX.out⟩
end Go.Proofs.YticmpkpopfkhnaaDoor
