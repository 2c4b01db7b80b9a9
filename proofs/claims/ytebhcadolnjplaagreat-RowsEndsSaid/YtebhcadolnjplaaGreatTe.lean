/- Rows: read from bytes. -/
import Derived.Test.YtebhcadolnjplaaGreatTd
import Derived.Test.YtebhcadolnjplaaGreatMv
namespace Go.Proofs.YtebhcadolnjplaaGreat
open Go.RowKit

theorem end_r (W0 : World) (g : Nat) (w : World) (xs : List B8) (f : Bool) (h : Rd W0 g w xs f) :
    Calls Tryz.prog 86 #[.pointer (some ⟨g, 0, none⟩)] w fun e w' => e = .returned (.int .i64 (endOf xs f)) ∧ w = w' := by
  obtain ⟨v, hv, h0⟩ := h.2.2.1
  obtain ⟨A, c, rfl, _⟩ := hv.form
  have h1 := h.2.2.2.1
  have h2 := h.2.2.2.2.1
  clear hv h
  cases f with
  | true =>
    go_enter Tryz.func86, Tryz.ntmps86
    go_wp2
    go_ret
    exact ⟨rfl, rfl⟩
  | false =>
    by_cases hl : 0 < xs.length
    · have HE : Hid (endOf xs false = 4) := Lib.hid (by simp [endOf, hl])
      have hd : decide (0 < xs.length) = true := decide_eq_true hl
      have hd2 : decide ((0 : Int) < (xs.length : Int)) = true := decide_eq_true (by omega)
      go_enter Tryz.func86, Tryz.ntmps86
      go_wp2
      go_ret
      exact ⟨by rw [HE.out]; rfl, rfl⟩
    · have HE : Hid (endOf xs false = 0) := Lib.hid (by unfold endOf; rw [decide_eq_false hl]; rfl)
      have hd : decide (0 < xs.length) = false := decide_eq_false hl
      have hd2 : decide ((0 : Int) < (xs.length : Int)) = false := decide_eq_false (by omega)
      go_enter Tryz.func86, Tryz.ntmps86
      go_wp2
      go_ret
      exact ⟨by rw [HE.out]; rfl, rfl⟩

theorem OwnR.alo {g : Nat} {w w' : World} {B : Nat} {A : Option Addr} {n c : Nat} {l : List Rw} (h : OwnR w B A n c l) (k : Alo g w w') (hp : ∀ a, A = some a → a.block ≠ g) : OwnR w' B A n c l :=
  ⟨h.1, h.2.1, by
    rcases h.2.2 with q | ⟨b, cap, cur, e1, e2, e3, e4⟩
    · exact .inl q
    · simp only [Value.slice.injEq] at e1
      refine .inr ⟨b, cap, cur, by simp only [Value.slice.injEq]; exact e1, e2, ?_, e4⟩
      rw [k.block b (hp _ e1.1) (Array.getElem?_eq_some_iff.1 e3).1]; exact e3⟩
theorem Rd.lt {W0 : World} {g : Nat} {w : World} {xs : List B8} {f : Bool} (h : Rd W0 g w xs f) : g < w.heap.size := World.block_lt_of_cell? _ _ h.2.2.2.1
theorem Rd.ok {W0 : World} {g : Nat} {w w' : World} {xs : List B8} {f : Bool} (h : Rd W0 g w xs f) (k : Ok w w') : Rd W0 g w' xs f := by
  have hl := h.lt
  obtain ⟨h1, h2, ⟨v, h3, h4⟩, h5, h6, h7, h8⟩ := h
  exact ⟨h1, h2.trans k, ⟨v, h3, k.cell h4⟩, k.cell h5, k.cell h6, by rw [Below.frozen k (p := ⟨g, 0, none⟩) hl]; exact h7, by rw [Below.frozen k (p := ⟨g, 1, none⟩) hl]; exact h8⟩
theorem Alo.tail {g : Nat} {w a b : World} (h : Alo g w a) (k : Below w.heap.size a b) : Alo g w b :=
  ⟨k.os.trans h.os, k.tape.trans h.tape, k.output.trans h.output, Nat.le_trans h.size k.size, fun i hi hj => (k.block i hj).trans (h.block i hi hj)⟩
theorem grownBy_below {w w' : World} {r : Option Nat} {B : Nat} (h : w.grownBy w' r) (hr : ∀ b, r = some b → B ≤ b) (hB : B ≤ w.heap.size) : Below B w w' :=
  ⟨h.os, h.tape, h.output, h.size, fun k hk => h.block k (by omega) (fun e => by have := hr k e.symm; omega)⟩
theorem Rd.grown {W0 : World} {g B : Nat} {w w' : World} {xs : List B8} {f : Bool} {r : Option Nat} (h : Rd W0 g w xs f) (k : w.grownBy w' r) (hr : ∀ b, r = some b → B ≤ b) (hg : g < B) : Rd W0 g w' xs f := by
  have hl := h.lt
  have hn : some g ≠ r := fun e => by have := hr g e.symm; omega
  have hb := k.block g hl hn
  obtain ⟨h1, h2, ⟨v, h3, h4⟩, h5, h6, h7, h8⟩ := h
  exact ⟨h1, ⟨k.os.trans h2.os, k.tape.trans h2.tape, k.output.trans h2.output, Nat.le_trans h2.size k.size, fun j hj => by
      have hjw : j < w.heap.size := Nat.lt_of_lt_of_le hj h2.size
      refine (k.block j hjw (fun e => ?_)).trans (h2.block j hj)
      have := hr j e.symm
      omega⟩, ⟨v, h3, k.cell h4 hn⟩, k.cell h5 hn, k.cell h6 hn, by rw [World.frozen?_of_block (w := w) hb]; exact h7, by rw [World.frozen?_of_block (w := w) hb]; exact h8⟩
/-- What n rows are that are read of bytes, behind a key. -/
def rdRows : Nat → List Rw → Str → List B8 → Bool → Option (List Rw × List B8 × Bool)
  | 0, l, _, xs, f => some (l, xs, f)
  | n + 1, l, a, xs, f =>
    if (rowB ⟨toStr (rowM 20 xs f).1, toStr (rowM 20 (rowM 20 xs f).2.1 (rowM 20 xs f).2.2).1⟩ && ltB a (toStr (rowM 20 xs f).1)) = true then
      rdRows n (l ++ [⟨toStr (rowM 20 xs f).1, toStr (rowM 20 (rowM 20 xs f).2.1 (rowM 20 xs f).2.2).1⟩]) (toStr (rowM 20 xs f).1) (rowM 20 (rowM 20 xs f).2.1 (rowM 20 xs f).2.2).2.1 (rowM 20 (rowM 20 xs f).2.1 (rowM 20 xs f).2.2).2.2
    else none
def endM : Option (List Rw × List B8 × Bool) → Option (List Rw × List B8)
  | some (l, ys, false) => some (l, ys)
  | _ => none
def readM (xs : List B8) : Option (List Rw × List B8) := endM (rdRows (numM 400 xs false).1 [] ⟨#[]⟩ (numM 400 xs false).2.1 (numM 400 xs false).2.2)
def ReadRP (W0 : World) (g : Nat) (w : World) (xs : List B8) (e : Ending) (w' : World) : Prop :=
  (readM xs = none ∧ e = .returned (.tuple #[.slice none 0 0, .bool false]) ∧ Alo g w w') ∨ ∃ l ys A n c, readM xs = some (l, ys) ∧ e = .returned (.tuple #[.slice A n c, .bool true]) ∧ OwnR w' w.heap.size A n c l ∧ Rd W0 g w' ys false ∧ Alo g w w'
theorem num400 (W0 : World) (g : Nat) (w : World) (xs : List B8) (f : Bool) (h : Rd W0 g w xs f) :
    Calls Tryz.prog 84 #[.pointer (some ⟨g, 0, none⟩), .int .i64 400] w (RdPost W0 g w (.int .i64 ((numM 400 xs f).1 : Int)) (numM 400 xs f).2.1 (numM 400 xs f).2.2) :=
  Num_any W0 g w xs f 400 (by decide) h
theorem txt20 (W0 : World) (g : Nat) (w : World) (xs : List B8) (f : Bool) (h : Rd W0 g w xs f) :
    Calls Tryz.prog 85 #[.pointer (some ⟨g, 0, none⟩), .int .i64 20] w (RdPost W0 g w (.string (toStr (rowM 20 xs f).1)) (rowM 20 xs f).2.1 (rowM 20 xs f).2.2) :=
  Text_any W0 g w xs f 20 (by decide) h
set_option maxRecDepth 100000 in
set_option maxHeartbeats 8000000 in
theorem read_f (W0 : World) (g : Nat) (W : World) (xs : List B8) (h : Rd W0 g W xs false) : Calls Tryz.prog 41 #[.pointer (some ⟨g, 0, none⟩)] W (ReadRP W0 g W xs) := by
  have HR := Lib.hid h
  have HGW : Hid (g < W.heap.size) := Lib.hid h.lt
  have hnum := num400 W0 g W xs false h
  have HRM : Hid (endM (rdRows (numM 400 xs false).1 [] ⟨#[]⟩ (numM 400 xs false).2.1 (numM 400 xs false).2.2) = readM xs) := Lib.hid rfl
  have HN4 : Hid ((numM 400 xs false).1 ≤ 400) := Lib.hid (numM_le 400 xs false)
  have HF1 := Lib.hid (numM_ok 400 xs false (fun h => by cases h))
  clear h
  obtain ⟨n, hn⟩ : ∃ n, (numM 400 xs false).1 = n := ⟨_, rfl⟩
  obtain ⟨y0, hy0⟩ : ∃ y, (numM 400 xs false).2.1 = y := ⟨_, rfl⟩
  obtain ⟨f0, hf0⟩ : ∃ f, (numM 400 xs false).2.2 = f := ⟨_, rfl⟩
  rw [hn, hy0, hf0] at hnum HRM
  rw [hn] at HN4
  rw [hy0, hf0] at HF1
  clear hn hy0 hf0
  go_enter Tryz.func41, Tryz.ntmps41
  go_wp2_with fail
  refine hnum.mono ?_
  clear hnum
  rintro _ w1 ⟨rfl, hrd, hon⟩
  have HR1 := Lib.hid hrd
  have HA1 : Hid (Alo g W w1) := Lib.hid (Alo.only hon)
  clear hrd hon HR
  go_wp2_with fail
  go_loopw [4, 5, 9] (fun v4 v5 v9 wr => ∃ (k : Nat) (l : List Rw) (a : Str) (A : Option Addr) (m c : Nat) (ys : List B8) (f : Bool), k ≤ n ∧ v4 = .slice A m c ∧ v5 = .string a ∧ v9 = .int .i64 k ∧ m = k ∧
    endM (rdRows (n - k) l a ys f) = readM xs ∧ (f = true → ys = []) ∧ OwnR wr W.heap.size A m c l ∧ Rd W0 g wr ys f ∧ Alo g W wr) (fun _ _ v9 _ => n - (intOf v9).toNat)
  case atStart => exact ⟨0, [], ⟨#[]⟩, none, 0, 0, y0, f0, Nat.zero_le _, rfl, rfl, rfl, rfl, HRM.out, HF1.out, ⟨rfl, World.ownsRow_nil _ _ _ _⟩, HR1.out, HA1.out⟩
  case round =>
    obtain ⟨k, l, a, A, m, c, ys, f, hk, rfl, rfl, rfl, hmk, hm, hf, hown, hrd, halo⟩ := hrel
    have HM := Lib.hid hm
    have HF := Lib.hid hf
    have HOWN := Lib.hid hown
    have HR := Lib.hid hrd
    have HAL := Lib.hid halo
    have HMK := Lib.hid hmk
    clear hm hf hown hrd halo HR1 HA1 HRM HF1 hmk
    by_cases hlt : k < n
    · have d1 : decide ((k : Int) < (n : Int)) = true := decide_eq_true (by omega)
      have ht1 := txt20 W0 g wr ys f HR.out
      have HF1 := Lib.hid (rowM_ok 20 ys f HF.out)
      have HM1 : Hid (endM (if (rowB ⟨toStr (rowM 20 ys f).1, toStr (rowM 20 (rowM 20 ys f).2.1 (rowM 20 ys f).2.2).1⟩ && ltB a (toStr (rowM 20 ys f).1)) = true then
          rdRows (n - (k + 1)) (l ++ [⟨toStr (rowM 20 ys f).1, toStr (rowM 20 (rowM 20 ys f).2.1 (rowM 20 ys f).2.2).1⟩]) (toStr (rowM 20 ys f).1) (rowM 20 (rowM 20 ys f).2.1 (rowM 20 ys f).2.2).2.1 (rowM 20 (rowM 20 ys f).2.1 (rowM 20 ys f).2.2).2.2
        else none) = readM xs) := Lib.hid (by
        have := HM.out
        rw [show n - k = (n - (k + 1)) + 1 from by omega, rdRows] at this
        exact this)
      obtain ⟨km, hkm⟩ : ∃ km, toStr (rowM 20 ys f).1 = km := ⟨_, rfl⟩
      obtain ⟨y1, hy1⟩ : ∃ y, (rowM 20 ys f).2.1 = y := ⟨_, rfl⟩
      obtain ⟨f1, hf1⟩ : ∃ f', (rowM 20 ys f).2.2 = f' := ⟨_, rfl⟩
      rw [hkm, hy1, hf1] at ht1 HM1
      rw [hy1, hf1] at HF1
      clear hkm hy1 hf1 HM
      go_wp2_with fail
      refine ht1.mono ?_
      clear ht1
      rintro _ w2 ⟨rfl, hrd2, hon2⟩
      have HR2 := Lib.hid hrd2
      have HA2 : Hid (Alo g wr w2) := Lib.hid (Alo.only hon2)
      clear hrd2 hon2
      have ht2 := txt20 W0 g w2 y1 f1 HR2.out
      have HF2 := Lib.hid (rowM_ok 20 y1 f1 HF1.out)
      obtain ⟨vm, hvm⟩ : ∃ vm, toStr (rowM 20 y1 f1).1 = vm := ⟨_, rfl⟩
      obtain ⟨y2, hy2⟩ : ∃ y, (rowM 20 y1 f1).2.1 = y := ⟨_, rfl⟩
      obtain ⟨f2, hf2⟩ : ∃ f', (rowM 20 y1 f1).2.2 = f' := ⟨_, rfl⟩
      rw [hvm, hy2, hf2] at ht2 HM1
      rw [hy2, hf2] at HF2
      clear hvm hy2 hf2
      go_wp2_with fail
      refine ht2.mono ?_
      clear ht2
      rintro _ w3 ⟨rfl, hrd3, hon3⟩
      have HR3 := Lib.hid hrd3
      have HA3 : Hid (Alo g wr w3) := Lib.hid (HA2.out.trans (Alo.only hon3))
      clear hrd3 hon3 HR2 HA2
      obtain ⟨q, hq⟩ : ∃ q, w3.heap.size = q := ⟨_, rfl⟩
      have HQC : Hid ((w3.alloc (.cells #[.string km, .string vm] 48)).cell? ⟨q, 0, none⟩ = some (.string km) ∧ (w3.alloc (.cells #[.string km, .string vm] 48)).cell? ⟨q, 1, none⟩ = some (.string vm)) := Lib.hid (by rw [← hq]; exact two_new w3 _ _ _)
      have HZ : Hid (Ok w3 (w3.alloc (.cells #[.string km, .string vm] 48))) := Lib.hid ((Ok.refl w3).alloc _)
      go_upto_region 6 with fail
      clear hq
      generalize w3.alloc (.cells #[.string km, .string vm] 48) = w4 at *
      have q0 := HQC.out.1
      have q1 := HQC.out.2
      have hri := right79 km vm w4
      have HRB : Hid (∃ rb, rowB ⟨km, vm⟩ = rb) := Lib.hid ⟨_, rfl⟩
      obtain ⟨rb, hrb⟩ := HRB.out
      rw [hrb] at hri HM1
      have HR4 := Lib.hid (HR3.out.ok HZ.out)
      have HA4 : Hid (Alo g W w4) := Lib.hid (HAL.out.trans (HA3.out.trans (Alo.ok HZ.out)))
      have HO4 : Hid (OwnR w4 W.heap.size A m c l) := Lib.hid ((HOWN.out.alo HA3.out (fun b e => by
        have := (HOWN.out.2.lt b.block (by rw [e]; rfl)).1
        have := HGW.out
        omega)).ok HZ.out)
      clear hrb HRB HR3 HA3 HOWN HAL
      go_wp2_with fail
      refine hri.mono ?_
      clear hri q0 q1
      rintro _ w5 ⟨rfl, o5⟩
      have q0 := o5.cell HQC.out.1
      have q1 := o5.cell HQC.out.2
      have HR5 := Lib.hid (HR4.out.ok o5)
      have HA5 : Hid (Alo g W w5) := Lib.hid (HA4.out.trans (Alo.ok o5))
      have HO5 : Hid (OwnR w5 W.heap.size A m c l) := Lib.hid (HO4.out.ok o5)
      clear o5 HQC HR4 HA4 HO4 HZ
      cases rb with
      | false =>
        have HNO : Hid (readM xs = none) := Lib.hid (by
          have := HM1.out
          simpa [endM] using this.symm)
        go_wp2_with fail
        go_ret2
        exact .inl ⟨HNO.out, rfl, HA5.out⟩
      | true =>
        obtain ⟨lb, hlb⟩ : ∃ lb, ltB a km = lb := ⟨_, rfl⟩
        rw [hlb] at HM1
        cases lb with
        | false =>
          have HNO : Hid (readM xs = none) := Lib.hid (by
            have := HM1.out
            simpa [endM] using this.symm)
          cases hkb : ltB km a with
          | true =>
            have d2 : Op.bytesLess km.toList (ByteArray.toList a) = true := hkb
            clear hlb hkb
            go_wp2_with fail
            go_ret2
            exact .inl ⟨HNO.out, rfl, HA5.out⟩
          | false =>
            obtain rfl : km = a := ltB_total hkb hlb
            have d2 : Op.bytesLess km.toList (ByteArray.toList km) = false := hkb
            have d3 : (km.toList == km.toList) = true := by simp
            clear hlb hkb
            go_wp2_with fail
            go_ret2
            exact .inl ⟨HNO.out, rfl, HA5.out⟩
        | true =>
          have d2 : Op.bytesLess km.toList (ByteArray.toList a) = false := by
            cases hx : ltB km a with
            | false => exact hx
            | true => exact absurd (ltB_trans hlb hx) (by rw [ltB_irrefl]; exact Bool.false_ne_true)
          have d3 : (km.toList == a.toList) = false := by
            cases hx : (km.toList == a.toList) with
            | false => rfl
            | true =>
              obtain rfl := str_ext (eq_of_beq hx)
              rw [ltB_irrefl] at hlb
              cases hlb
          clear hlb
          have HM2 : Hid (endM (rdRows (n - (k + 1)) (l ++ [⟨km, vm⟩]) km y2 f2) = readM xs) := Lib.hid (by
            have := HM1.out
            simpa using this)
          clear HM1
          have HOA : Hid (Ok w5 (w5.alloc (.cells #[.string km, .string vm] 48))) := Lib.hid ((Ok.refl w5).alloc _)
          have HVB : Hid (RowsIn (w5.alloc (.cells #[.string km, .string vm] 48)) (some ⟨w5.heap.size, 0, none⟩) [⟨km, vm⟩]) := Lib.hid (RowsIn.one _ _ ⟨km, vm⟩ (heap_alloc_new w5 _))
          have HLT : Hid (n - ((k : Int) + 1).toNat < n - (k : Int).toNat) := Lib.hid (by omega)
          have HBA : Hid (W.heap.size ≤ (w5.alloc (.cells #[.string km, .string vm] 48)).heap.size) := Lib.hid (Nat.le_trans HA5.out.size HOA.out.size)
          have HN1 : Hid (m + 1 ≤ 1000000) := Lib.hid (by have := HN4.out; have := HMK.out; omega)
          have e1 : IntKind.i64.wrap ((k : Int) + 1) = (k : Int) + 1 := IntWalk.i64_in _ (by have := HN4.out; omega)
          have HR6 := Lib.hid (HR5.out.ok HOA.out)
          have HA6 : Hid (Alo g W (w5.alloc (.cells #[.string km, .string vm] 48))) := Lib.hid (HA5.out.trans (Alo.ok HOA.out))
          have HO6 := Lib.hid (HO5.out.ok HOA.out)
          have HMK2 : Hid (m + 1 = k + 1) := Lib.hid (by rw [HMK.out])
          go_wp2_with (at_builtin; go_must (refine wpList_appRows rfl (.tmp 27) (.tmp 29) rfl W.heap.size A m c l rfl HO6.out w5.heap.size 0 1 1 [⟨km, vm⟩] rfl rfl HVB.out HN1.out HBA.out ?_; intro A' c' w2' hown2 hg2; have HOWN2 := Lib.hid hown2; have HG2 := Lib.hid hg2; clear hown2 hg2))
          have HGB : Hid (∀ b, (Value.slice A m c).ownBlock = some b → W.heap.size ≤ b) := Lib.hid (fun j e => (HO5.out.2.lt j e).1)
          refine ⟨⟨k + 1, l ++ [⟨km, vm⟩], km, A', m + 1, c', y2, f2, hlt, rfl, rfl, rfl, HMK2.out, HM2.out, HF2.out, HOWN2.out, ?_, ?_⟩, HLT.out⟩
          · exact Rd.grown HR6.out HG2.out HGB.out HGW.out
          · exact HA6.out.tail (grownBy_below HG2.out HGB.out HBA.out)
    · have d1 : decide ((k : Int) < (n : Int)) = false := decide_eq_false (by omega)
      obtain rfl : k = n := by omega
      have HRM : Hid (endM (some (l, ys, f)) = readM xs) := Lib.hid (by
        have := HM.out
        rw [Nat.sub_self, rdRows] at this
        exact this)
      have hlf := left_r W0 g wr ys f HR.out HF.out
      have hen := end_r W0 g wr ys f HR.out
      clear HM
      go_wp2_with fail
      refine hlf.mono ?_
      clear hlf
      rintro _ _ ⟨rfl, rfl⟩
      cases f with
      | true =>
        obtain rfl := HF.out rfl
        have HNO : Hid (readM xs = none) := Lib.hid (by
          have := HRM.out
          simpa [endM] using this.symm)
        have HE4 : endOf [] true = 4 := rfl
        rw [HE4] at hen
        go_wp2_with fail
        refine hen.mono ?_
        clear hen
        rintro _ _ ⟨rfl, rfl⟩
        go_wp2_with fail
        go_ret2
        exact .inl ⟨HNO.out, rfl, HAL.out⟩
      | false =>
        have HSO : Hid (readM xs = some (l, ys)) := Lib.hid (by
          have := HRM.out
          simpa [endM] using this.symm)
        by_cases hz : ys.length = 0
        · obtain rfl : ys = [] := List.length_eq_zero_iff.1 hz
          have HE4 : endOf [] false = 0 := by simp [endOf]
          rw [HE4] at hen
          go_wp2_with fail
          refine hen.mono ?_
          clear hen
          rintro _ _ ⟨rfl, rfl⟩
          go_wp2_with fail
          go_ret2
          exact .inr ⟨l, _, A, m, c, HSO.out, rfl, HOWN.out, HR.out, HAL.out⟩
        · have d2 : ((ys.length : Int) == 0) = false := by simpa using hz
          clear hen hz
          go_wp2_with fail
          go_ret2
          exact .inr ⟨l, _, A, m, c, HSO.out, rfl, HOWN.out, HR.out, HAL.out⟩
end Go.Proofs.YtebhcadolnjplaaGreat
