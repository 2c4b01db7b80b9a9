/- The law SumParts, walked: called at a world in which the table is as the text lays it, with two lists of bytes and any number, it returns true, and turns nothing that was there. -/
import Derived.Test.YticmpkpopfkhnaaDoorG
import Derived.Test.YticmpkpopfkhnaaDoorD
import Derived.Test.YticmpkpopfkhnaaDoorP2
import Derived.Deep.RegionHeld3
namespace Go.Proofs.YticmpkpopfkhnaaDoor
open Go.RowKit

/-- A part of a list of bytes, at its place. -/
theorem bytes_part {w : World} {g n c : Nat} {xs : List B8} (h : BytesIn w (.slice (some ⟨g, 0, none⟩) n c) xs) (hn : n = xs.length) (k c' : Nat) (hk : k ≤ n) :
    BytesIn w (.slice (some ⟨g, 0, none⟩) k c') (xs.take k) ∧ BytesIn w (.slice (some ⟨g, k, none⟩) (n - k) c') (xs.drop k) := by
  rcases h with ⟨rfl, A, c0, h, _⟩ | ⟨b, o, c2, h, hm, hc⟩
  · subst hn
    obtain rfl : k = 0 := by simpa using hk
    exact ⟨.inl ⟨rfl, _, _, rfl, fun e => by cases e⟩, .inl ⟨rfl, _, _, rfl, fun e => by cases e⟩⟩
  simp only [Value.slice.injEq, Option.some.injEq, Addr.mk.injEq, and_true] at h
  obtain ⟨⟨rfl, rfl⟩, rfl, rfl⟩ := h
  refine ⟨.inr ⟨g, 0, c', by rw [List.length_take, Nat.min_eq_left hk], by rw [List.length_take]; omega, fun i hi => ?_⟩, .inr ⟨g, k, c', by rw [List.length_drop], by rw [List.length_drop]; omega, fun i hi => ?_⟩⟩
  · rw [List.length_take] at hi
    rw [hc i (by omega)]
    simp [List.getD, show i < k by omega]
  · rw [List.length_drop] at hi
    have := hc (k + i) (by omega)
    rw [Nat.zero_add] at this
    rw [this]
    simp [List.getD]
theorem bytes_none {w : World} (a : Addr) (c : Nat) (ha : a.spot = none) : BytesIn w (.slice (some a) 0 c) [] := by
  obtain ⟨b, o, s⟩ := a
  obtain rfl : s = none := ha
  exact .inr ⟨b, o, c, rfl, by simp, fun i hi => by simp at hi⟩

theorem shr8_v (a : B32) : u a / (256 : Int) = u (a >>> 8) := shr_v a 8
theorem low8_v (a : B32) : u a % (256 : Int) = ub (a.setWidth 8) := by
  rw [u, ub, BitVec.toNat_setWidth]; simp
theorem ofInt_ub (v : B8) : BitVec.ofInt 8 (ub v) = v := by
  rw [ub, BitVec.ofInt_natCast, BitVec.ofNat_toNat, BitVec.setWidth_eq]
theorem xor8_v (a b : B8) : bits .xor .u8 (ub a) (ub b) = ub (a ^^^ b) := by
  show IntKind.u8.wrap ((BitVec.ofInt 8 (ub a) ^^^ BitVec.ofInt 8 (ub b)).toNat : Int) = _
  rw [ofInt_ub, ofInt_ub, IntKind.wrap_u8, ub]; have := (a ^^^ b).isLt; omega

theorem okb {w X Y : World} {b : Nat} (h : Ok w X) (k : Below b X Y) (hb : w.heap.size ≤ b) : Ok w Y := Below.trans h (k.mono hb)

set_option maxRecDepth 100000 in
set_option maxHeartbeats 20000000 in
theorem sumParts_v (W : World) (ht : Tab W) (va vb : Value) (xa xb : List B8) (ha : BytesIn W va xa) (hb : BytesIn W vb xb) (cut : Int) (hc0 : -9223372036854775808 ≤ cut) (hc1 : cut ≤ 9223372036854775807) :
    Calls Tryd.prog 5 #[va, vb, .int .i64 cut] W fun e w' => e = .returned (.bool true) ∧ Below W.heap.size W w' := by
  have hla : (4 : Nat) = 4 := rfl
  obtain ⟨A, ca, rfl, hma⟩ := ha.form
  obtain ⟨B, cb, rfl, hmb⟩ := hb.form
  have HA := Lib.hid ha
  have HB := Lib.hid hb
  have HT := Lib.hid ht
  clear ha hb ht hla
  have HTOT : Hid (tot [xa, xb] 2 = 2 + xa.length + xb.length) := Lib.hid rfl
  have HM2 := Lib.hid (more_two 0#32 xa xb)
  have HMB := Lib.hid (more_behind xa xb)
  have HMN := Lib.hid (more_none (more 0#32 [xa ++ xb]))
  generalize hna : xa.length = na at *
  generalize hnb : xb.length = nb at *
  have HNA := Lib.hid hna
  have HNB := Lib.hid hnb
  clear hna hnb
  go_enter Tryd.func5, Tryd.ntmps5
  go_wp2_with fail
  refine (awake_v _ HT.out).mono ?_
  rintro e w1 ⟨rfl, hb⟩
  have HO1 : Hid (Ok W w1) := Lib.hid hb
  clear hb
  go_wp2_with fail
  refine (great_v _ [xa, xb] _ (rows2_of _ (.slice A na ca) (.slice B nb cb) xa xb _ _ ?_ ?_ ?_ ?_)).mono ?_
  · repeat (first | ((with_reducible refine C.new _ _ _ _ _ ?_ ?_) <;> (first | rfl | (simp; done))) | (with_reducible refine C.drew ?_) | (with_reducible refine C.old _ ?_) | (with_reducible refine C.call (by assumption) ?_))
  · repeat (first | ((with_reducible refine C.new _ _ _ _ _ ?_ ?_) <;> (first | rfl | (simp; done))) | (with_reducible refine C.drew ?_) | (with_reducible refine C.old _ ?_) | (with_reducible refine C.call (by assumption) ?_))
  · refine Ok.bytes (w := W) ?_ HA.out; have := HO1.out; repeat (first | (with_reducible exact Ok.refl _) | (with_reducible refine Ok.drew ?_) | (with_reducible refine Ok.alloc ?_ _) | (with_reducible refine Ok.trans ?_ (by assumption)))
  · refine Ok.bytes (w := W) ?_ HB.out; have := HO1.out; repeat (first | (with_reducible exact Ok.refl _) | (with_reducible refine Ok.drew ?_) | (with_reducible refine Ok.alloc ?_ _) | (with_reducible refine Ok.trans ?_ (by assumption)))
  rintro e w2 ⟨rfl, rfl⟩
  by_cases hg : 20000 < tot [xa, xb] [xa, xb].length
  · rw [decide_eq_true hg]
    go_wp2_with fail
    go_ret
    refine ⟨rfl, ?_⟩
    exact Below.alloc HO1.out (Below.size HO1.out) _
  · rw [decide_eq_false hg]
    have hsmall : na + nb ≤ 20000 := by
      have h1 : tot [xa, xb] 2 ≤ 20000 := Nat.le_of_not_lt hg
      rw [HTOT.out] at h1; omega
    clear hg
    have HOW : Hid (OwnB ((w1.alloc (.cells #[.slice A na ca, .slice B nb cb] 34)).alloc (.cells #[] 5)) (w1.heap.size + 1) (w1.heap.size + 1) 0 []) := by
      have := OwnB.start (w1.alloc (.cells #[.slice A na ca, .slice B nb cb] 34)) (w1.heap.size + 1) (by simp)
      simp only [World.size_alloc] at this
      exact Lib.hid this
    have HA1 : Hid (BytesIn ((w1.alloc (.cells #[.slice A na ca, .slice B nb cb] 34)).alloc (.cells #[] 5)) (.slice A na ca) xa) := Lib.hid (Ok.bytes (((HO1.out).alloc _).alloc _) HA.out)
    have hsz1 : W.heap.size ≤ w1.heap.size := HO1.out.size
    go_wp2_with (first
      | (at_builtin; refine wpList_app rfl (.tmp 19) (.tmp 20) rfl (w1.heap.size + 1) (w1.heap.size + 1) 0 [] xa (.slice A na ca) rfl rfl HOW.out HA1.out (by have := HNA.out; simp; omega) (by simp) ?_; intro g1 cap1 w3 hown1 hbel1; simp only [List.nil_append, List.length_nil, Nat.zero_add] at hown1 ⊢; rw [HNA.out]; have hown1 := Lib.hid hown1; have HO3 : Hid (Ok W w3) := Lib.hid (okb ((HO1.out.alloc _).alloc _) hbel1 (by omega)); clear hbel1)
      | (at_builtin; refine wpList_app rfl (.tmp 21) (.tmp 22) rfl (w1.heap.size + 1) g1 cap1 xa xb (.slice B nb cb) (by rw [HNA.out]; rfl) rfl hown1.out (HO3.out.bytes HB.out) (by have := HNA.out; have := HNB.out; omega) (by have := hown1.out.base_le; omega) ?_; intro g2 cap2 w4 hown2 hbel2; rw [HNA.out, HNB.out]; have hown2 := Lib.hid hown2; have HO4 : Hid (Ok W w4) := Lib.hid (okb HO3.out hbel2 (by omega)); clear hbel2))
    refine (pick_v cut _ _ hc0 hc1 (by omega) (by omega)).mono ?_
    rintro e w5 ⟨k0, hk0, hk1, rfl, rfl⟩
    obtain ⟨k, rfl⟩ := Int.eq_ofNat_of_zero_le hk0
    clear hk0
    have hcap : na + nb ≤ cap2 := by have := hown2.out.2.1; have h1 := HNA.out; have h2 := HNB.out; rw [List.length_append] at this; omega
    have HAL : Hid (BytesIn w4 (.slice (some ⟨g2, 0, none⟩) (na + nb) cap2) (xa ++ xb)) := by
      have := hown2.out.bytes (by have h1 := HNA.out; have h2 := HNB.out; rw [List.length_append]; omega)
      rw [List.length_append, HNA.out, HNB.out] at this
      exact Lib.hid this
    have hcapm : cap2 ≤ 9223372036854775807 := hown2.out.2.2
    have HP : Hid (BytesIn w4 (.slice (some ⟨g2, 0, none⟩) k cap2) ((xa ++ xb).take k) ∧ BytesIn w4 (.slice (some ⟨g2, k, none⟩) (na + nb - k) (cap2 - k)) ((xa ++ xb).drop k)) :=
      Lib.hid ⟨(bytes_part HAL.out (by have h1 := HNA.out; have h2 := HNB.out; rw [List.length_append]; omega) k cap2 (by omega)).1, (bytes_part HAL.out (by have h1 := HNA.out; have h2 := HNB.out; rw [List.length_append]; omega) k (cap2 - k) (by omega)).2⟩
    have HA4 : Hid (BytesIn w4 (.slice A na ca) xa) := Lib.hid (HO4.out.bytes HA.out)
    have HB4 : Hid (BytesIn w4 (.slice B nb cb) xb) := Lib.hid (HO4.out.bytes HB.out)
    have HT4 : Hid (Tab w4) := Lib.hid (HO4.out.tab HT.out)
    have HMC := Lib.hid (more_cut 0#32 (xa ++ xb) k)
    clear hown1 hown2 HOW HA1 HO3 HTOT hsz1
    go_wp2_with fail
    refine (sum0_v _ [xa ++ xb] _ (rows1_of _ (.slice (some ⟨g2, 0, none⟩) (na + nb) cap2) (xa ++ xb) _ _ ?_ ?_) ?_).mono ?_
    · repeat (first | ((with_reducible refine C.new _ _ _ _ _ ?_ ?_) <;> (first | rfl | (simp; done))) | (with_reducible refine C.drew ?_) | (with_reducible refine C.old _ ?_) | (with_reducible refine C.call (by assumption) ?_))
    · exact HAL.out.alloc _
    · exact Ok.tab ((Ok.refl _).alloc _) HT4.out
    rintro e w6 ⟨rfl, hb6⟩
    have HO6 : Hid (Ok w4 w6) := Lib.hid (((Ok.refl w4).alloc _).trans hb6)
    clear hb6
    have hO6 : Ok w4 w6 := HO6.out
    have HMR := Lib.hid (more_rest xa xb)
    have hi0 : (0 : Int) ≤ (k : Int) := Int.natCast_nonneg _
    have hi1 : (k : Int) ≤ (cap2 : Int) := by omega
    have hi2 : (k : Int) ≤ ((na + nb : Nat) : Int) := by omega
    have hi3 : ((na + nb : Nat) : Int) ≤ (cap2 : Int) := by omega
    have hi4 : k ≤ na + nb := by omega
    have hi6 : (k : Int) ≤ (na : Int) + (nb : Int) := by omega
    have hi7 : (na : Int) + (nb : Int) ≤ (cap2 : Int) := by omega
    have hi5 : k ≤ cap2 := by omega
    by_cases hkc : k = cap2
    · obtain rfl : cap2 = k := hkc.symm
      have HD : Hid (BytesIn w4 (.slice (some ⟨g2, 0, none⟩) 0 0) ((xa ++ xb).drop cap2)) := Lib.hid (by
        rw [List.drop_eq_nil_of_le (by rw [List.length_append, HNA.out, HNB.out]; omega)]
        exact bytes_none _ _ rfl)
      go_wp2_with fail
      go_region_held3 (fun w' => OkS w4 w')
        ((refine OkS.mk ?_; repeat (first | (with_reducible exact Ok.refl _) | (with_reducible refine Ok.drew ?_) | (with_reducible refine Ok.alloc ?_ _) | (with_reducible refine Ok.trans ?_ (by assumption)))))
        (first
          | (go_at_call 10; (with_reducible refine (sum0_v _ [xa, xb] _ (rows2_of _ (.slice A na ca) (.slice B nb cb) (xa) (xb) _ _ ?_ ?_ ?_ ?_) ?_).mono ?_); (repeat (first | ((with_reducible refine C.new _ _ _ _ _ ?_ ?_) <;> (first | rfl | (simp; done))) | (with_reducible refine C.drew ?_) | (with_reducible refine C.old _ ?_) | (with_reducible refine C.call (by assumption) ?_))); (repeat (first | ((with_reducible refine C.new _ _ _ _ _ ?_ ?_) <;> (first | rfl | (simp; done))) | (with_reducible refine C.drew ?_) | (with_reducible refine C.old _ ?_) | (with_reducible refine C.call (by assumption) ?_))); (refine Ok.bytes (w := w4) ?_ HA4.out; repeat (first | (with_reducible exact Ok.refl _) | (with_reducible refine Ok.drew ?_) | (with_reducible refine Ok.alloc ?_ _) | (with_reducible refine Ok.trans ?_ (by assumption)))); (refine Ok.bytes (w := w4) ?_ HB4.out; repeat (first | (with_reducible exact Ok.refl _) | (with_reducible refine Ok.drew ?_) | (with_reducible refine Ok.alloc ?_ _) | (with_reducible refine Ok.trans ?_ (by assumption)))); (refine Ok.tab (w := w4) ?_ HT4.out; repeat (first | (with_reducible exact Ok.refl _) | (with_reducible refine Ok.drew ?_) | (with_reducible refine Ok.alloc ?_ _) | (with_reducible refine Ok.trans ?_ (by assumption)))); rintro e wc ⟨rfl, hbc⟩; rw [HM2.out]; replace hbc : Ok _ _ := hbc)
          | (go_at_call 10; (with_reducible refine (sum0_v _ [xa] _ (rows1_of _ (.slice A na ca) (xa) _ _ ?_ ?_) ?_).mono ?_); (repeat (first | ((with_reducible refine C.new _ _ _ _ _ ?_ ?_) <;> (first | rfl | (simp; done))) | (with_reducible refine C.drew ?_) | (with_reducible refine C.old _ ?_) | (with_reducible refine C.call (by assumption) ?_))); (refine Ok.bytes (w := w4) ?_ HA4.out; repeat (first | (with_reducible exact Ok.refl _) | (with_reducible refine Ok.drew ?_) | (with_reducible refine Ok.alloc ?_ _) | (with_reducible refine Ok.trans ?_ (by assumption)))); (refine Ok.tab (w := w4) ?_ HT4.out; repeat (first | (with_reducible exact Ok.refl _) | (with_reducible refine Ok.drew ?_) | (with_reducible refine Ok.alloc ?_ _) | (with_reducible refine Ok.trans ?_ (by assumption)))); rintro e wc ⟨rfl, hbc⟩; replace hbc : Ok _ _ := hbc)
          | (go_at_call 10; (with_reducible refine (sum0_v _ [(xa ++ xb).take cap2, [], (xa ++ xb).drop cap2] _ (rows3_of _ (.slice (some ⟨g2, 0, none⟩) cap2 cap2) (.slice none 0 0) (.slice (some ⟨g2, 0, none⟩) 0 0) ((xa ++ xb).take cap2) ([]) ((xa ++ xb).drop cap2) _ _ ?_ ?_ ?_ ?_ ?_ ?_) ?_).mono ?_); (repeat (first | ((with_reducible refine C.new _ _ _ _ _ ?_ ?_) <;> (first | rfl | (simp; done))) | (with_reducible refine C.drew ?_) | (with_reducible refine C.old _ ?_) | (with_reducible refine C.call (by assumption) ?_))); (repeat (first | ((with_reducible refine C.new _ _ _ _ _ ?_ ?_) <;> (first | rfl | (simp; done))) | (with_reducible refine C.drew ?_) | (with_reducible refine C.old _ ?_) | (with_reducible refine C.call (by assumption) ?_))); (repeat (first | ((with_reducible refine C.new _ _ _ _ _ ?_ ?_) <;> (first | rfl | (simp; done))) | (with_reducible refine C.drew ?_) | (with_reducible refine C.old _ ?_) | (with_reducible refine C.call (by assumption) ?_))); (refine Ok.bytes (w := w4) ?_ HP.out.1; repeat (first | (with_reducible exact Ok.refl _) | (with_reducible refine Ok.drew ?_) | (with_reducible refine Ok.alloc ?_ _) | (with_reducible refine Ok.trans ?_ (by assumption)))); exact BytesIn.nil _; (refine Ok.bytes (w := w4) ?_ HD.out; repeat (first | (with_reducible exact Ok.refl _) | (with_reducible refine Ok.drew ?_) | (with_reducible refine Ok.alloc ?_ _) | (with_reducible refine Ok.trans ?_ (by assumption)))); (refine Ok.tab (w := w4) ?_ HT4.out; repeat (first | (with_reducible exact Ok.refl _) | (with_reducible refine Ok.drew ?_) | (with_reducible refine Ok.alloc ?_ _) | (with_reducible refine Ok.trans ?_ (by assumption)))); rintro e wc ⟨rfl, hbc⟩; rw [HMC.out]; replace hbc : Ok _ _ := hbc)
          | (go_at_call 12; (with_reducible refine (more_v (more 0#32 [xa]) _ [xb] _ (rows1_of _ (.slice B nb cb) (xb) _ _ ?_ ?_) ?_).mono ?_); (repeat (first | ((with_reducible refine C.new _ _ _ _ _ ?_ ?_) <;> (first | rfl | (simp; done))) | (with_reducible refine C.drew ?_) | (with_reducible refine C.old _ ?_) | (with_reducible refine C.call (by assumption) ?_))); (refine Ok.bytes (w := w4) ?_ HB4.out; repeat (first | (with_reducible exact Ok.refl _) | (with_reducible refine Ok.drew ?_) | (with_reducible refine Ok.alloc ?_ _) | (with_reducible refine Ok.trans ?_ (by assumption)))); (refine Ok.tab (w := w4) ?_ HT4.out; repeat (first | (with_reducible exact Ok.refl _) | (with_reducible refine Ok.drew ?_) | (with_reducible refine Ok.alloc ?_ _) | (with_reducible refine Ok.trans ?_ (by assumption)))); rintro e wc ⟨rfl, hbc⟩; rw [HMB.out]; replace hbc : Ok _ _ := hbc)
          | (go_at_call 12; (with_reducible refine (more_v (more 0#32 [xa ++ xb]) _ [] _ (RowsIn.nil _) ?_).mono ?_); (refine Ok.tab (w := w4) ?_ HT4.out; repeat (first | (with_reducible exact Ok.refl _) | (with_reducible refine Ok.drew ?_) | (with_reducible refine Ok.alloc ?_ _) | (with_reducible refine Ok.trans ?_ (by assumption)))); rintro e wc ⟨rfl, hbc⟩; rw [HMN.out]; replace hbc : Ok _ _ := hbc))
      all_goals
        go_wp2_with fail
        refine (sum0_v _ [xa] _ (rows1_of _ (.slice A na ca) xa _ _ ?_ ?_) ?_).mono ?_
        · repeat (first | ((with_reducible refine C.new _ _ _ _ _ ?_ ?_) <;> (first | rfl | (simp; done))) | (with_reducible refine C.drew ?_) | (with_reducible refine C.old _ ?_) | (with_reducible refine C.call (by assumption) ?_))
        · refine Ok.bytes (w := w4) ?_ HA4.out; repeat (first | (with_reducible exact Ok.refl _) | (with_reducible refine Ok.drew ?_) | (with_reducible refine Ok.alloc ?_ _) | (with_reducible refine Ok.trans ?_ (by assumption)))
        · refine Ok.tab (w := w4) ?_ HT4.out; repeat (first | (with_reducible exact Ok.refl _) | (with_reducible refine Ok.drew ?_) | (with_reducible refine Ok.alloc ?_ _) | (with_reducible refine Ok.trans ?_ (by assumption)))
        rintro e w7 ⟨rfl, hb7⟩
        replace hb7 : Ok _ _ := hb7
        have HO7 : Hid (Ok w4 w7) := Lib.hid (by repeat (first | (with_reducible exact Ok.refl _) | (with_reducible refine Ok.drew ?_) | (with_reducible refine Ok.alloc ?_ _) | (with_reducible refine Ok.trans ?_ (by assumption))))
        clear hb7
        have hnl := not_v (more 0#32 [xa])
        go_wp2_with fail
        clear hnl
        refine (table_v _ (HO7.out.tab HT4.out)).mono ?_
        rintro e w8 ⟨rfl, hb8⟩
        have HO8 : Hid (Ok w4 w8) := Lib.hid (HO7.out.call hb8)
        clear hb8
        have hz := (zero_of_info info35).1
        have HSZ := Lib.hid (size35 256)
        have HSS : Hid ((tc 0).size = (tc 256).size) := Lib.hid (by rw [tc_size, tc_size])
        have HONE := Lib.hid (tc_one 256)
        have HCT : Hid (∀ j, j < 256 → (w8.alloc (.cells (tc 256) 35)).cell? ⟨w8.heap.size, j, none⟩ = some (.int .u32 (u (tv j)))) := Lib.hid fun j hj => by
          refine C.new _ _ _ _ _ rfl ?_
          rw [tc_get 256 j hj, tcF, if_pos hj]
        generalize tc 256 = cs at *
        generalize tc 0 = c1 at *
        have hsr := World.setRow_alloc_new w8 c1 cs 35
        have HG0 : Hid ((w8.alloc (.cells c1 35)).heap[w8.heap.size]? = some (.cells c1 35 (0, 0))) := Lib.hid (heap_alloc_new w8 _)
        go_wp2_with (refine wpList_store_row rfl 35 _ _ rfl w8.heap.size rfl 35 c1 cs rfl HG0.out HSZ.out HSS.out HONE.out ?_; rw [hsr])
        clear hz hsr
        have HO9 : Hid (Ok w4 (w8.alloc (.cells cs 35))) := Lib.hid (HO8.out.alloc _)
        have HB9 := Lib.hid (HO9.out.bytes HB4.out)
        generalize w8.alloc (.cells cs 35) = w9 at *
        generalize w8.heap.size = gt at *
        generalize ~~~ more 0#32 [xa] = r0 at *
        go_loop [10, 12] (fun x i => ∃ j : Nat, j ≤ nb ∧ i = .int .i64 j ∧ x = .int .u32 (u (fds r0 (xb.take j)))) (fun _ i => nb - (intOf i).toNat)
        case atStart => exact ⟨0, Nat.zero_le _, rfl, rfl⟩
        case round =>
          obtain ⟨j, hj, rfl, rfl⟩ := hrel
          by_cases hlj : j < nb
          · rcases HB9.out with ⟨_, A0, c0, h, _⟩ | ⟨b', o', c', h, hm', hc'⟩
            · exfalso
              simp only [Value.slice.injEq] at h
              omega
            · simp only [Value.slice.injEq] at h
              obtain ⟨rfl, h2, rfl⟩ := h
              have hcj := hc' j (by omega)
              have HS : Hid (fds r0 (xb.take (j + 1)) = fd (fds r0 (xb.take j)) (xb.getD j 0)) := Lib.hid (fds_snoc _ _ _ (by omega))
              clear hc' h2
              generalize xb.getD j 0 = y at *
              generalize fds r0 (xb.take j) = r at *
              have HF := Lib.hid (fd_table r y)
              have h1 := shr8_v r
              have h2 := low8_v r
              have h3 := xor8_v (r.setWidth 8) y
              have h4 := xor_v (r >>> 8) (tv (r.setWidth 8 ^^^ y).toNat)
              have h5 : w9.cell? ⟨gt, (ub (r.setWidth 8 ^^^ y)).toNat, none⟩ = some (.int .u32 (u (tv (r.setWidth 8 ^^^ y).toNat))) := by
                have := HCT.out (r.setWidth 8 ^^^ y).toNat (r.setWidth 8 ^^^ y).isLt
                exact this
              generalize r.setWidth 8 ^^^ y = z at *
              have h6 := ub_lo z
              have h7 := ub_hi z
              generalize tv z.toNat = t at *
              generalize r >>> 8 ^^^ t = r2 at *
              go_wp2_with fail
              go_round
              case rel => exact ⟨j + 1, by omega, by go_num, by rw [HS.out, HF.out]⟩
              case measure => simp [intOf]; omega
          · have hje : j = nb := by omega
            subst hje
            have hnl := not_v (fds r0 (xb.take j))
            go_wp2_with fail
            go_ret
            refine ⟨?_, Below.trans HO4.out (Below.mono HO9.out HO4.out.size)⟩
            have e1 : xb.take j = xb := List.take_of_length_le (by rw [HNB.out]; exact Nat.le_refl _)
            have e2 := HMR.out
            rw [e1, e2]
            simp
    · have hkc' : ¬ cap2 = k := fun e => hkc e.symm
      have hkc2 : k < cap2 := by omega
      go_wp2_with fail
      go_region_held3 (fun w' => OkS w4 w')
        ((refine OkS.mk ?_; repeat (first | (with_reducible exact Ok.refl _) | (with_reducible refine Ok.drew ?_) | (with_reducible refine Ok.alloc ?_ _) | (with_reducible refine Ok.trans ?_ (by assumption)))))
        (first
          | (go_at_call 10; (with_reducible refine (sum0_v _ [xa, xb] _ (rows2_of _ (.slice A na ca) (.slice B nb cb) (xa) (xb) _ _ ?_ ?_ ?_ ?_) ?_).mono ?_); (repeat (first | ((with_reducible refine C.new _ _ _ _ _ ?_ ?_) <;> (first | rfl | (simp; done))) | (with_reducible refine C.drew ?_) | (with_reducible refine C.old _ ?_) | (with_reducible refine C.call (by assumption) ?_))); (repeat (first | ((with_reducible refine C.new _ _ _ _ _ ?_ ?_) <;> (first | rfl | (simp; done))) | (with_reducible refine C.drew ?_) | (with_reducible refine C.old _ ?_) | (with_reducible refine C.call (by assumption) ?_))); (refine Ok.bytes (w := w4) ?_ HA4.out; repeat (first | (with_reducible exact Ok.refl _) | (with_reducible refine Ok.drew ?_) | (with_reducible refine Ok.alloc ?_ _) | (with_reducible refine Ok.trans ?_ (by assumption)))); (refine Ok.bytes (w := w4) ?_ HB4.out; repeat (first | (with_reducible exact Ok.refl _) | (with_reducible refine Ok.drew ?_) | (with_reducible refine Ok.alloc ?_ _) | (with_reducible refine Ok.trans ?_ (by assumption)))); (refine Ok.tab (w := w4) ?_ HT4.out; repeat (first | (with_reducible exact Ok.refl _) | (with_reducible refine Ok.drew ?_) | (with_reducible refine Ok.alloc ?_ _) | (with_reducible refine Ok.trans ?_ (by assumption)))); rintro e wc ⟨rfl, hbc⟩; rw [HM2.out]; replace hbc : Ok _ _ := hbc)
          | (go_at_call 10; (with_reducible refine (sum0_v _ [xa] _ (rows1_of _ (.slice A na ca) (xa) _ _ ?_ ?_) ?_).mono ?_); (repeat (first | ((with_reducible refine C.new _ _ _ _ _ ?_ ?_) <;> (first | rfl | (simp; done))) | (with_reducible refine C.drew ?_) | (with_reducible refine C.old _ ?_) | (with_reducible refine C.call (by assumption) ?_))); (refine Ok.bytes (w := w4) ?_ HA4.out; repeat (first | (with_reducible exact Ok.refl _) | (with_reducible refine Ok.drew ?_) | (with_reducible refine Ok.alloc ?_ _) | (with_reducible refine Ok.trans ?_ (by assumption)))); (refine Ok.tab (w := w4) ?_ HT4.out; repeat (first | (with_reducible exact Ok.refl _) | (with_reducible refine Ok.drew ?_) | (with_reducible refine Ok.alloc ?_ _) | (with_reducible refine Ok.trans ?_ (by assumption)))); rintro e wc ⟨rfl, hbc⟩; replace hbc : Ok _ _ := hbc)
          | (go_at_call 10; (with_reducible refine (sum0_v _ [(xa ++ xb).take k, [], (xa ++ xb).drop k] _ (rows3_of _ (.slice (some ⟨g2, 0, none⟩) k cap2) (.slice none 0 0) (.slice (some ⟨g2, k, none⟩) (na + nb - k) (cap2 - k)) ((xa ++ xb).take k) ([]) ((xa ++ xb).drop k) _ _ ?_ ?_ ?_ ?_ ?_ ?_) ?_).mono ?_); (repeat (first | ((with_reducible refine C.new _ _ _ _ _ ?_ ?_) <;> (first | rfl | (simp; done))) | (with_reducible refine C.drew ?_) | (with_reducible refine C.old _ ?_) | (with_reducible refine C.call (by assumption) ?_))); (repeat (first | ((with_reducible refine C.new _ _ _ _ _ ?_ ?_) <;> (first | rfl | (simp; done))) | (with_reducible refine C.drew ?_) | (with_reducible refine C.old _ ?_) | (with_reducible refine C.call (by assumption) ?_))); (repeat (first | ((with_reducible refine C.new _ _ _ _ _ ?_ ?_) <;> (first | rfl | (simp; done))) | (with_reducible refine C.drew ?_) | (with_reducible refine C.old _ ?_) | (with_reducible refine C.call (by assumption) ?_))); (refine Ok.bytes (w := w4) ?_ HP.out.1; repeat (first | (with_reducible exact Ok.refl _) | (with_reducible refine Ok.drew ?_) | (with_reducible refine Ok.alloc ?_ _) | (with_reducible refine Ok.trans ?_ (by assumption)))); exact BytesIn.nil _; (refine Ok.bytes (w := w4) ?_ HP.out.2; repeat (first | (with_reducible exact Ok.refl _) | (with_reducible refine Ok.drew ?_) | (with_reducible refine Ok.alloc ?_ _) | (with_reducible refine Ok.trans ?_ (by assumption)))); (refine Ok.tab (w := w4) ?_ HT4.out; repeat (first | (with_reducible exact Ok.refl _) | (with_reducible refine Ok.drew ?_) | (with_reducible refine Ok.alloc ?_ _) | (with_reducible refine Ok.trans ?_ (by assumption)))); rintro e wc ⟨rfl, hbc⟩; rw [HMC.out]; replace hbc : Ok _ _ := hbc)
          | (go_at_call 12; (with_reducible refine (more_v (more 0#32 [xa]) _ [xb] _ (rows1_of _ (.slice B nb cb) (xb) _ _ ?_ ?_) ?_).mono ?_); (repeat (first | ((with_reducible refine C.new _ _ _ _ _ ?_ ?_) <;> (first | rfl | (simp; done))) | (with_reducible refine C.drew ?_) | (with_reducible refine C.old _ ?_) | (with_reducible refine C.call (by assumption) ?_))); (refine Ok.bytes (w := w4) ?_ HB4.out; repeat (first | (with_reducible exact Ok.refl _) | (with_reducible refine Ok.drew ?_) | (with_reducible refine Ok.alloc ?_ _) | (with_reducible refine Ok.trans ?_ (by assumption)))); (refine Ok.tab (w := w4) ?_ HT4.out; repeat (first | (with_reducible exact Ok.refl _) | (with_reducible refine Ok.drew ?_) | (with_reducible refine Ok.alloc ?_ _) | (with_reducible refine Ok.trans ?_ (by assumption)))); rintro e wc ⟨rfl, hbc⟩; rw [HMB.out]; replace hbc : Ok _ _ := hbc)
          | (go_at_call 12; (with_reducible refine (more_v (more 0#32 [xa ++ xb]) _ [] _ (RowsIn.nil _) ?_).mono ?_); (refine Ok.tab (w := w4) ?_ HT4.out; repeat (first | (with_reducible exact Ok.refl _) | (with_reducible refine Ok.drew ?_) | (with_reducible refine Ok.alloc ?_ _) | (with_reducible refine Ok.trans ?_ (by assumption)))); rintro e wc ⟨rfl, hbc⟩; rw [HMN.out]; replace hbc : Ok _ _ := hbc))
      all_goals
        go_wp2_with fail
        refine (sum0_v _ [xa] _ (rows1_of _ (.slice A na ca) xa _ _ ?_ ?_) ?_).mono ?_
        · repeat (first | ((with_reducible refine C.new _ _ _ _ _ ?_ ?_) <;> (first | rfl | (simp; done))) | (with_reducible refine C.drew ?_) | (with_reducible refine C.old _ ?_) | (with_reducible refine C.call (by assumption) ?_))
        · refine Ok.bytes (w := w4) ?_ HA4.out; repeat (first | (with_reducible exact Ok.refl _) | (with_reducible refine Ok.drew ?_) | (with_reducible refine Ok.alloc ?_ _) | (with_reducible refine Ok.trans ?_ (by assumption)))
        · refine Ok.tab (w := w4) ?_ HT4.out; repeat (first | (with_reducible exact Ok.refl _) | (with_reducible refine Ok.drew ?_) | (with_reducible refine Ok.alloc ?_ _) | (with_reducible refine Ok.trans ?_ (by assumption)))
        rintro e w7 ⟨rfl, hb7⟩
        replace hb7 : Ok _ _ := hb7
        have HO7 : Hid (Ok w4 w7) := Lib.hid (by repeat (first | (with_reducible exact Ok.refl _) | (with_reducible refine Ok.drew ?_) | (with_reducible refine Ok.alloc ?_ _) | (with_reducible refine Ok.trans ?_ (by assumption))))
        clear hb7
        have hnl := not_v (more 0#32 [xa])
        go_wp2_with fail
        clear hnl
        refine (table_v _ (HO7.out.tab HT4.out)).mono ?_
        rintro e w8 ⟨rfl, hb8⟩
        have HO8 : Hid (Ok w4 w8) := Lib.hid (HO7.out.call hb8)
        clear hb8
        have hz := (zero_of_info info35).1
        have HSZ := Lib.hid (size35 256)
        have HSS : Hid ((tc 0).size = (tc 256).size) := Lib.hid (by rw [tc_size, tc_size])
        have HONE := Lib.hid (tc_one 256)
        have HCT : Hid (∀ j, j < 256 → (w8.alloc (.cells (tc 256) 35)).cell? ⟨w8.heap.size, j, none⟩ = some (.int .u32 (u (tv j)))) := Lib.hid fun j hj => by
          refine C.new _ _ _ _ _ rfl ?_
          rw [tc_get 256 j hj, tcF, if_pos hj]
        generalize tc 256 = cs at *
        generalize tc 0 = c1 at *
        have hsr := World.setRow_alloc_new w8 c1 cs 35
        have HG0 : Hid ((w8.alloc (.cells c1 35)).heap[w8.heap.size]? = some (.cells c1 35 (0, 0))) := Lib.hid (heap_alloc_new w8 _)
        go_wp2_with (refine wpList_store_row rfl 35 _ _ rfl w8.heap.size rfl 35 c1 cs rfl HG0.out HSZ.out HSS.out HONE.out ?_; rw [hsr])
        clear hz hsr
        have HO9 : Hid (Ok w4 (w8.alloc (.cells cs 35))) := Lib.hid (HO8.out.alloc _)
        have HB9 := Lib.hid (HO9.out.bytes HB4.out)
        generalize w8.alloc (.cells cs 35) = w9 at *
        generalize w8.heap.size = gt at *
        generalize ~~~ more 0#32 [xa] = r0 at *
        go_loop [10, 12] (fun x i => ∃ j : Nat, j ≤ nb ∧ i = .int .i64 j ∧ x = .int .u32 (u (fds r0 (xb.take j)))) (fun _ i => nb - (intOf i).toNat)
        case atStart => exact ⟨0, Nat.zero_le _, rfl, rfl⟩
        case round =>
          obtain ⟨j, hj, rfl, rfl⟩ := hrel
          by_cases hlj : j < nb
          · rcases HB9.out with ⟨_, A0, c0, h, _⟩ | ⟨b', o', c', h, hm', hc'⟩
            · exfalso
              simp only [Value.slice.injEq] at h
              omega
            · simp only [Value.slice.injEq] at h
              obtain ⟨rfl, h2, rfl⟩ := h
              have hcj := hc' j (by omega)
              have HS : Hid (fds r0 (xb.take (j + 1)) = fd (fds r0 (xb.take j)) (xb.getD j 0)) := Lib.hid (fds_snoc _ _ _ (by omega))
              clear hc' h2
              generalize xb.getD j 0 = y at *
              generalize fds r0 (xb.take j) = r at *
              have HF := Lib.hid (fd_table r y)
              have h1 := shr8_v r
              have h2 := low8_v r
              have h3 := xor8_v (r.setWidth 8) y
              have h4 := xor_v (r >>> 8) (tv (r.setWidth 8 ^^^ y).toNat)
              have h5 : w9.cell? ⟨gt, (ub (r.setWidth 8 ^^^ y)).toNat, none⟩ = some (.int .u32 (u (tv (r.setWidth 8 ^^^ y).toNat))) := by
                have := HCT.out (r.setWidth 8 ^^^ y).toNat (r.setWidth 8 ^^^ y).isLt
                exact this
              generalize r.setWidth 8 ^^^ y = z at *
              have h6 := ub_lo z
              have h7 := ub_hi z
              generalize tv z.toNat = t at *
              generalize r >>> 8 ^^^ t = r2 at *
              go_wp2_with fail
              go_round
              case rel => exact ⟨j + 1, by omega, by go_num, by rw [HS.out, HF.out]⟩
              case measure => simp [intOf]; omega
          · have hje : j = nb := by omega
            subst hje
            have hnl := not_v (fds r0 (xb.take j))
            go_wp2_with fail
            go_ret
            refine ⟨?_, Below.trans HO4.out (Below.mono HO9.out HO4.out.size)⟩
            have e1 : xb.take j = xb := List.take_of_length_le (by rw [HNB.out]; exact Nat.le_refl _)
            have e2 := HMR.out
            rw [e1, e2]
            simp
end Go.Proofs.YticmpkpopfkhnaaDoor
