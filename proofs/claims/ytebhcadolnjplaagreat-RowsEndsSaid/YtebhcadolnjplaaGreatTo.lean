/- Rows: what the document reads of bytes. -/
import Derived.Test.YtebhcadolnjplaaGreatTn
import Derived.Test.YtebhcadolnjplaaGreatTm
import Derived.Test.YtebhcadolnjplaaGreatTf
namespace Go.Proofs.YtebhcadolnjplaaGreat
open Go.RowKit

theorem toStr_nil : toStr [] = ⟨#[]⟩ := rfl
theorem rowB_nil (v : Str) : rowB ⟨⟨#[]⟩, v⟩ = false := by
  unfold rowB keyB
  rfl
theorem rd_failed (n : Nat) (l : List Rw) (a : Str) (xs : List B8) : endM (rdRows n l a xs true) = none := by
  cases n with
  | zero => rfl
  | succ n =>
    rw [rdRows, rowM_dead]
    simp only [toStr_nil, rowB_nil, Bool.false_and]
    rfl
def lastK (l : List Rw) (k : Nat) : Str := if k = 0 then ⟨#[]⟩ else (rwA l (k - 1)).key
theorem rowB_first {k v : Str} (h : rowB ⟨k, v⟩ = true) : ltB ⟨#[]⟩ k = true := first_key (l := [⟨k, v⟩]) (fun x hx => by obtain rfl := List.mem_singleton.1 hx; exact h) ⟨k, v⟩ (List.mem_singleton_self _)
def RReadP (W0 : World) (g : Nat) (w : World) (xs : List B8) (e : Ending) (w' : World) : Prop :=
  (readM xs = none ∧ e = .returned (.tuple #[.slice none 0 0, .bool false]) ∧ Alo g w w') ∨ ∃ l ys A n c, readM xs = some (l, ys) ∧ e = .returned (.tuple #[.slice A n c, .bool true]) ∧ OwnR w' w.heap.size A n c l ∧ Rf W0 g w' ys false ∧ Alo g w w'
theorem rnum400 (W0 : World) (g : Nat) (w : World) (xs : List B8) (f : Bool) (h : Rf W0 g w xs f) :
    Calls Tryz.prog 87 #[.pointer (some ⟨g, 0, none⟩), .int .i64 400] w (RfPost W0 g w (.int .i64 ((numM 400 xs f).1 : Int)) (numM 400 xs f).2.1 (numM 400 xs f).2.2) :=
  rnum_w W0 g w xs f 400 (by decide) h
theorem rrow20 (W0 : World) (g : Nat) (w : World) (xs : List B8) (f : Bool) (h : Rf W0 g w xs f) :
    Calls Tryz.prog 88 #[.pointer (some ⟨g, 0, none⟩), .int .i64 20] w (RowF W0 g w (rowM 20 xs f).1 (rowM 20 xs f).2.1 (rowM 20 xs f).2.2) :=
  Row_any W0 g w xs f 20 (by decide) h
theorem Rf.grown {W0 : World} {g B : Nat} {w w' : World} {xs : List B8} {f : Bool} {r : Option Nat} (h : Rf W0 g w xs f) (k : w.grownBy w' r) (hr : ∀ b, r = some b → B ≤ b) (hg : g < B) : Rf W0 g w' xs f := by
  have hl := h.lt
  have hn : some g ≠ r := fun e => by have := hr g e.symm; omega
  have hb := k.block g hl hn
  obtain ⟨h1, h2, ⟨v, h3, h4⟩, h5, h7, h8⟩ := h
  exact ⟨h1, ⟨k.os.trans h2.os, k.tape.trans h2.tape, k.output.trans h2.output, Nat.le_trans h2.size k.size, fun j hj => by
      have hjw : j < w.heap.size := Nat.lt_of_lt_of_le hj h2.size
      refine (k.block j hjw (fun e => ?_)).trans (h2.block j hj)
      have := hr j e.symm
      omega⟩, ⟨v, h3, k.cell h4 hn⟩, k.cell h5 hn, by rw [World.frozen?_of_block (w := w) hb]; exact h7, by rw [World.frozen?_of_block (w := w) hb]; exact h8⟩
set_option maxRecDepth 100000 in
set_option maxHeartbeats 8000000 in
theorem rread_f (W0 : World) (g : Nat) (W : World) (xs : List B8) (h : Rf W0 g W xs false) : Calls Tryz.prog 42 #[.pointer (some ⟨g, 0, none⟩)] W (RReadP W0 g W xs) := by
  have HR := Lib.hid h
  have HGW : Hid (g < W.heap.size) := Lib.hid h.lt
  have hnum := rnum400 W0 g W xs false h
  have HRM : Hid (endM (rdRows (numM 400 xs false).1 [] ⟨#[]⟩ (numM 400 xs false).2.1 (numM 400 xs false).2.2) = readM xs) := Lib.hid rfl
  have HN4 : Hid ((numM 400 xs false).1 ≤ 400) := Lib.hid (numM_le 400 xs false)
  have HF1 : Hid ((numM 400 xs false).2.2 = true → (numM 400 xs false).1 = 0) := Lib.hid (numM_zero 400 xs false)
  clear h
  obtain ⟨n, hn⟩ : ∃ n, (numM 400 xs false).1 = n := ⟨_, rfl⟩
  obtain ⟨y0, hy0⟩ : ∃ y, (numM 400 xs false).2.1 = y := ⟨_, rfl⟩
  obtain ⟨f0, hf0⟩ : ∃ f, (numM 400 xs false).2.2 = f := ⟨_, rfl⟩
  rw [hn, hy0, hf0] at hnum HRM
  rw [hn] at HN4
  rw [hn, hf0] at HF1
  clear hn hy0 hf0
  go_enter Tryz.func42, Tryz.ntmps42
  go_wp2_with fail
  refine hnum.mono ?_
  clear hnum
  rintro _ w1 ⟨rfl, hrd, hon⟩
  have HR1 := Lib.hid hrd
  have HA1 : Hid (Alo g W w1) := Lib.hid (Alo.only hon)
  clear hrd hon HR
  go_wp2_with fail
  go_loopw [5, 6, 7] (fun v5 v6 _ wr => ∃ (k : Nat) (l : List Rw) (A : Option Addr) (m c : Nat) (ys : List B8) (f : Bool), k ≤ n ∧ v5 = .slice A m c ∧ v6 = .int .i64 k ∧ m = k ∧
    endM (rdRows (n - k) l (lastK l k) ys f) = readM xs ∧ (f = true → n = 0) ∧ OwnR wr W.heap.size A m c l ∧ Rf W0 g wr ys f ∧ Alo g W wr) (fun _ v6 _ _ => n - (intOf v6).toNat)
  case atStart => exact ⟨0, [], none, 0, 0, y0, f0, Nat.zero_le _, rfl, rfl, rfl, HRM.out, HF1.out, ⟨rfl, World.ownsRow_nil _ _ _ _⟩, HR1.out, HA1.out⟩
  case round =>
    obtain ⟨k, l, A, m, c, ys, f, hk, rfl, rfl, hmk, hm, hf, hown, hrd, halo⟩ := hrel
    have HM := Lib.hid hm
    have HF := Lib.hid hf
    have HOWN := Lib.hid hown
    have HR := Lib.hid hrd
    have HAL := Lib.hid halo
    have HMK := Lib.hid hmk
    clear hm hf hown hrd halo HR1 HA1 HRM HF1 hmk
    by_cases hlt : k < n
    · obtain rfl : f = false := by
        cases f with
        | false => rfl
        | true => have := HF.out rfl; omega
      have d1 : decide ((k : Int) < (n : Int)) = true := decide_eq_true (by omega)
      have ht1 := rrow20 W0 g wr ys false HR.out
      have HM1 : Hid (endM (if (rowB ⟨toStr (rowM 20 ys false).1, toStr (rowM 20 (rowM 20 ys false).2.1 (rowM 20 ys false).2.2).1⟩ && ltB (lastK l k) (toStr (rowM 20 ys false).1)) = true then
          rdRows (n - (k + 1)) (l ++ [⟨toStr (rowM 20 ys false).1, toStr (rowM 20 (rowM 20 ys false).2.1 (rowM 20 ys false).2.2).1⟩]) (toStr (rowM 20 ys false).1) (rowM 20 (rowM 20 ys false).2.1 (rowM 20 ys false).2.2).2.1 (rowM 20 (rowM 20 ys false).2.1 (rowM 20 ys false).2.2).2.2
        else none) = readM xs) := Lib.hid (by
        have := HM.out
        rw [show n - k = (n - (k + 1)) + 1 from by omega, rdRows] at this
        exact this)
      obtain ⟨z1, hz1⟩ : ∃ z, (rowM 20 ys false).1 = z := ⟨_, rfl⟩
      obtain ⟨y1, hy1⟩ : ∃ y, (rowM 20 ys false).2.1 = y := ⟨_, rfl⟩
      obtain ⟨f1, hf1⟩ : ∃ f', (rowM 20 ys false).2.2 = f' := ⟨_, rfl⟩
      rw [hz1, hy1, hf1] at ht1 HM1
      clear hz1 hy1 hf1 HM
      go_wp2_with fail
      refine ht1.mono ?_
      clear ht1
      rintro _ w2 ⟨v2, rfl, hb2, hrd2, hon2⟩
      have HR2 := Lib.hid hrd2
      have HA2 : Hid (Alo g wr w2) := Lib.hid hon2
      have hcv := conv_str hb2
      obtain ⟨A2, c2, rfl, -⟩ := hb2.form
      obtain ⟨n2, hn2⟩ : ∃ n2, z1.length = n2 := ⟨_, rfl⟩
      rw [hn2] at hcv ⊢
      clear hrd2 hon2 hb2 hn2
      obtain ⟨km, hkm⟩ : ∃ km, toStr z1 = km := ⟨_, rfl⟩
      rw [hkm] at hcv HM1
      clear hkm
      have ht2 := rrow20 W0 g w2 y1 f1 HR2.out
      obtain ⟨z2, hz2⟩ : ∃ z, (rowM 20 y1 f1).1 = z := ⟨_, rfl⟩
      obtain ⟨y2, hy2⟩ : ∃ y, (rowM 20 y1 f1).2.1 = y := ⟨_, rfl⟩
      obtain ⟨f2, hf2⟩ : ∃ f', (rowM 20 y1 f1).2.2 = f' := ⟨_, rfl⟩
      rw [hz2, hy2, hf2] at ht2 HM1
      clear hz2 hy2 hf2
      go_wp2_with fail
      refine ht2.mono ?_
      clear ht2 hcv
      rintro _ w3 ⟨v3, rfl, hb3, hrd3, hon3⟩
      have HR3 := Lib.hid hrd3
      have HA3 : Hid (Alo g wr w3) := Lib.hid (HA2.out.trans hon3)
      have hcv := conv_str hb3
      obtain ⟨A3, c3, rfl, -⟩ := hb3.form
      obtain ⟨n3, hn3⟩ : ∃ n3, z2.length = n3 := ⟨_, rfl⟩
      rw [hn3] at hcv ⊢
      clear hrd3 hon3 hb3 hn3 HR2 HA2
      obtain ⟨vm, hvm⟩ : ∃ vm, toStr z2 = vm := ⟨_, rfl⟩
      rw [hvm] at hcv HM1
      clear hvm
      obtain ⟨q, hq⟩ : ∃ q, w3.heap.size = q := ⟨_, rfl⟩
      have HQC : Hid ((w3.alloc (.cells #[.string km, .string vm] 48)).cell? ⟨q, 0, none⟩ = some (.string km) ∧ (w3.alloc (.cells #[.string km, .string vm] 48)).cell? ⟨q, 1, none⟩ = some (.string vm)) := Lib.hid (by rw [← hq]; exact two_new w3 _ _ _)
      have HZ : Hid (Ok w3 (w3.alloc (.cells #[.string km, .string vm] 48))) := Lib.hid ((Ok.refl w3).alloc _)
      go_upto_region 8 with fail
      clear hq hcv
      generalize w3.alloc (.cells #[.string km, .string vm] 48) = w4 at *
      have q0 := HQC.out.1
      have q1 := HQC.out.2
      have hri := rright_f km vm w4
      obtain ⟨rb, hrb⟩ : ∃ rb, rowB ⟨km, vm⟩ = rb := ⟨_, rfl⟩
      have HKF : Hid (rb = true → ltB ⟨#[]⟩ km = true) := Lib.hid (fun q => rowB_first (v := vm) (hrb.trans q))
      rw [hrb] at hri HM1
      have HR4 := Lib.hid (HR3.out.ok HZ.out)
      have HA4 : Hid (Alo g W w4) := Lib.hid (HAL.out.trans (HA3.out.trans (Alo.ok HZ.out)))
      have HO4 : Hid (OwnR w4 W.heap.size A m c l) := Lib.hid ((HOWN.out.alo HA3.out (fun b e => by
        have := (HOWN.out.2.lt b.block (by rw [e]; rfl)).1
        have := HGW.out
        omega)).ok HZ.out)
      clear hrb HR3 HA3 HOWN HAL
      have fl := HR4.out.2.2.2.1
      cases f2 with
      | true =>
        have HNO : Hid (readM xs = none) := Lib.hid (by
          have := HM1.out
          split at this
          · rw [rd_failed] at this; exact this.symm
          · exact this.symm)
        go_wp2_with fail
        go_ret2
        exact .inl ⟨HNO.out, rfl, HA4.out⟩
      | false =>
      go_wp2_with fail
      refine hri.mono ?_
      clear hri q0 q1 fl
      rintro _ w5 ⟨rfl, o5⟩
      have q0 := o5.cell HQC.out.1
      have q1 := o5.cell HQC.out.2
      have HR5 := Lib.hid (HR4.out.ok o5)
      have HA5 : Hid (Alo g W w5) := Lib.hid (HA4.out.trans (Alo.ok o5))
      have HO5 : Hid (OwnR w5 W.heap.size A m c l) := Lib.hid (HO4.out.ok o5)
      clear o5 HQC HR4 HA4 HO4 HZ
      cases rb with
      | false =>
        have HNO : Hid (readM xs = none) := Lib.hid (by
          have := HM1.out
          simpa [endM] using this.symm)
        go_wp2_with fail
        go_ret2
        exact .inl ⟨HNO.out, rfl, HA5.out⟩
      | true =>
        cases k with
        | zero =>
          have HM2 : Hid (endM (rdRows (n - (0 + 1)) (l ++ [⟨km, vm⟩]) km y2 false) = readM xs) := Lib.hid (by
            have := HM1.out
            rw [show lastK l 0 = ⟨#[]⟩ from rfl, HKF.out rfl] at this
            simpa using this)
          clear HM1
          have HLT : Hid (n - (1 : Int).toNat < n - (0 : Int).toNat) := Lib.hid (by simp; omega)
          have HMK2 : Hid (m + 1 = 0 + 1) := Lib.hid (by rw [HMK.out])
          have HOA : Hid (Ok w5 (w5.alloc (.cells #[.string km, .string vm] 48))) := Lib.hid ((Ok.refl w5).alloc _)
          have HVB : Hid (RowsIn (w5.alloc (.cells #[.string km, .string vm] 48)) (some ⟨w5.heap.size, 0, none⟩) [⟨km, vm⟩]) := Lib.hid (RowsIn.one _ _ ⟨km, vm⟩ (heap_alloc_new w5 _))
          have HBA : Hid (W.heap.size ≤ (w5.alloc (.cells #[.string km, .string vm] 48)).heap.size) := Lib.hid (Nat.le_trans HA5.out.size HOA.out.size)
          have HN1 : Hid (m + 1 ≤ 1000000) := Lib.hid (by have := HN4.out; have := HMK.out; omega)
          have HR6 := Lib.hid (HR5.out.ok HOA.out)
          have HA6 : Hid (Alo g W (w5.alloc (.cells #[.string km, .string vm] 48))) := Lib.hid (HA5.out.trans (Alo.ok HOA.out))
          have HO6 := Lib.hid (HO5.out.ok HOA.out)
          have HLK : Hid (lastK (l ++ [⟨km, vm⟩]) (0 + 1) = km) := Lib.hid (by
            have h1 := HO5.out.1
            have h2 := HMK.out
            simp only [lastK, Nat.add_sub_cancel, if_neg (Nat.succ_ne_zero _)]
            simp [rwA, h1, h2])
          have HGB : Hid (∀ bb, (Value.slice A m c).ownBlock = some bb → W.heap.size ≤ bb) := Lib.hid (fun jj e => (HO5.out.2.lt jj e).1)
          go_wp2_with (at_builtin; go_must (refine wpList_appRows rfl (.tmp 47) (.tmp 49) rfl W.heap.size A m c l rfl HO6.out w5.heap.size 0 1 1 [⟨km, vm⟩] rfl rfl HVB.out HN1.out HBA.out ?_; intro A' c' w2' hown2 hg2; have HOWN2 := Lib.hid hown2; have HG2 := Lib.hid hg2; clear hown2 hg2))
          refine ⟨⟨0 + 1, l ++ [⟨km, vm⟩], A', m + 1, c', y2, false, hlt, rfl, rfl, HMK2.out, by rw [HLK.out]; exact HM2.out, (fun h => by cases h), HOWN2.out, ?_, ?_⟩, HLT.out⟩
          · exact Rf.grown HR6.out HG2.out HGB.out HGW.out
          · exact HA6.out.tail (grownBy_below HG2.out HGB.out HBA.out)
        | succ j =>
          obtain ⟨lb, hlb⟩ : ∃ lb, ltB (lastK l (j + 1)) km = lb := ⟨_, rfl⟩
          rw [hlb] at HM1
          have hpk : lastK l (j + 1) = (rwA l j).key := rfl
          rw [hpk] at hlb
          obtain ⟨b, off, rfl, x0, -⟩ := HO5.out.rows j (by rw [HO5.out.1, HMK.out]; omega)
          generalize (rwA l j).key = pk at *
          clear hpk
          have d2 : decide (((j + 1 : Nat) : Int) > 0) = true := decide_eq_true (by omega)
          have d3 : decide ((j : Int) + 1 > 0) = true := decide_eq_true (by omega)
          have d4 : (0 : Int) < (j : Int) + 1 := by omega
          have e2 : IntKind.i64.wrap (((j + 1 : Nat) : Int) - 1) = (j : Int) := by rw [show (((j + 1 : Nat) : Int) - 1) = (j : Int) from by omega]; exact IntWalk.i64_in _ (by have := HN4.out; omega)
          have e3 : IntKind.i64.wrap ((j : Int) + 1 - 1) = (j : Int) := by rw [show ((j : Int) + 1 - 1) = (j : Int) from by omega]; exact IntWalk.i64_in _ (by have := HN4.out; omega)
          have e4 : IntKind.i64.wrap (j : Int) = (j : Int) := IntWalk.i64_in _ (by have := HN4.out; omega)
          have i0 : (0 : Int) ≤ (j : Int) := Int.natCast_nonneg _
          have i1 : (j : Int) < (m : Int) := by have := HMK.out; omega
          cases lb with
          | false =>
            have HNO : Hid (readM xs = none) := Lib.hid (by
              have := HM1.out
              simpa [endM] using this.symm)
            have d5 : Op.bytesLess (ByteArray.toList pk) km.toList = false := hlb
            clear hlb
            go_wp2_with fail
            go_ret2
            exact .inl ⟨HNO.out, rfl, HA5.out⟩
          | true =>
          have d5 : Op.bytesLess (ByteArray.toList pk) km.toList = true := hlb
          clear hlb
          have HM2 : Hid (endM (rdRows (n - (j + 1 + 1)) (l ++ [⟨km, vm⟩]) km y2 false) = readM xs) := Lib.hid (by
            have := HM1.out
            simpa using this)
          clear HM1
          have HLT : Hid (n - ((j : Int) + 1 + 1).toNat < n - ((j : Int) + 1).toNat) := Lib.hid (by omega)
          have HMK2 : Hid (m + 1 = j + 1 + 1) := Lib.hid (by rw [HMK.out])
          have e5 : IntKind.i64.wrap ((j : Int) + 1 + 1) = (j : Int) + 1 + 1 := IntWalk.i64_in _ (by have := HN4.out; omega)
          have HOA : Hid (Ok w5 (w5.alloc (.cells #[.string km, .string vm] 48))) := Lib.hid ((Ok.refl w5).alloc _)
          have HVB : Hid (RowsIn (w5.alloc (.cells #[.string km, .string vm] 48)) (some ⟨w5.heap.size, 0, none⟩) [⟨km, vm⟩]) := Lib.hid (RowsIn.one _ _ ⟨km, vm⟩ (heap_alloc_new w5 _))
          have HBA : Hid (W.heap.size ≤ (w5.alloc (.cells #[.string km, .string vm] 48)).heap.size) := Lib.hid (Nat.le_trans HA5.out.size HOA.out.size)
          have HN1 : Hid (m + 1 ≤ 1000000) := Lib.hid (by have := HN4.out; have := HMK.out; omega)
          have HR6 := Lib.hid (HR5.out.ok HOA.out)
          have HA6 : Hid (Alo g W (w5.alloc (.cells #[.string km, .string vm] 48))) := Lib.hid (HA5.out.trans (Alo.ok HOA.out))
          have HO6 := Lib.hid (HO5.out.ok HOA.out)
          have HLK : Hid (lastK (l ++ [⟨km, vm⟩]) ((j + 1) + 1) = km) := Lib.hid (by
            have h1 := HO5.out.1
            have h2 := HMK.out
            simp only [lastK, Nat.add_sub_cancel, if_neg (Nat.succ_ne_zero _)]
            simp [rwA, h1, h2])
          have HGB : Hid (∀ bb, (Value.slice (some ⟨b, off, none⟩) m c).ownBlock = some bb → W.heap.size ≤ bb) := Lib.hid (fun jj e => (HO5.out.2.lt jj e).1)
          go_wp2_with (at_builtin; go_must (refine wpList_appRows rfl (.tmp 47) (.tmp 49) rfl W.heap.size (some ⟨b, off, none⟩) m c l rfl HO6.out w5.heap.size 0 1 1 [⟨km, vm⟩] rfl rfl HVB.out HN1.out HBA.out ?_; intro A' c' w2' hown2 hg2; have HOWN2 := Lib.hid hown2; have HG2 := Lib.hid hg2; clear hown2 hg2))
          refine ⟨⟨(j + 1) + 1, l ++ [⟨km, vm⟩], A', m + 1, c', y2, false, hlt, rfl, (by push_cast; rfl), HMK2.out, by rw [HLK.out]; exact HM2.out, (fun h => by cases h), HOWN2.out, ?_, ?_⟩, HLT.out⟩
          · exact Rf.grown HR6.out HG2.out HGB.out HGW.out
          · exact HA6.out.tail (grownBy_below HG2.out HGB.out HBA.out)
    · have d1 : decide ((k : Int) < (n : Int)) = false := decide_eq_false (by omega)
      obtain rfl : k = n := by omega
      have HRM : Hid (endM (some (l, ys, f)) = readM xs) := Lib.hid (by
        have := HM.out
        rw [Nat.sub_self, rdRows] at this
        exact this)
      have fl := HR.out.2.2.2.1
      clear HM
      cases f with
      | true =>
        have HNO : Hid (readM xs = none) := Lib.hid (by
          have := HRM.out
          simpa [endM] using this.symm)
        go_wp2_with fail
        go_ret2
        exact .inl ⟨HNO.out, rfl, HAL.out⟩
      | false =>
        have HSO : Hid (readM xs = some (l, ys)) := Lib.hid (by
          have := HRM.out
          simpa [endM] using this.symm)
        go_wp2_with fail
        go_ret2
        exact .inr ⟨l, _, A, m, c, HSO.out, rfl, HOWN.out, HR.out, HAL.out⟩
end Go.Proofs.YtebhcadolnjplaaGreat
