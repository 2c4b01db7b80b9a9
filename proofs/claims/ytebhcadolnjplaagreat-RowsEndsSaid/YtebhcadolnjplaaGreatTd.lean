/- Rows: written as bytes. -/
import Derived.Test.YtebhcadolnjplaaGreatTc
import Derived.Test.YtebhcadolnjplaaGreatMu
namespace Go.Proofs.YtebhcadolnjplaaGreat
open Go.RowKit

theorem Kp.of_ok {g : Nat} {W w' : World} (h : Ok W w') (hg : g ≤ W.heap.size) : Kp g W w' :=
  ⟨Below.mono h hg, fun b _ ⟨_, _, _, _, hb⟩ => h.block b (Array.getElem?_eq_some_iff.1 hb).1⟩
theorem Kp.trans {g : Nat} {a b c : World} (h : Kp g a b) (k : Kp g b c) : Kp g a c :=
  ⟨Below.trans h.below k.below, fun i hi hn => by
    have e := h.keep i hi hn
    obtain ⟨cs, ty, fz, ht, hh⟩ := hn
    exact (k.keep i hi ⟨cs, ty, fz, ht, e.trans hh⟩).trans e⟩
theorem OwnR.kp {g : Nat} {w w' : World} {B : Nat} {A : Option Addr} {n c : Nat} {l : List Rw} (h : OwnR w B A n c l) (k : Kp g w w') (hp : ∀ a, A = some a → a.block ≠ g) : OwnR w' B A n c l :=
  ⟨h.1, h.2.1, by
    rcases h.2.2 with q | ⟨b, cap, cur, e1, e2, e3, e4⟩
    · exact .inl q
    · simp only [Value.slice.injEq] at e1
      refine .inr ⟨b, cap, cur, by simp only [Value.slice.injEq]; exact e1, e2, ?_, e4⟩
      rw [k.keep b (hp _ e1.1) ⟨_, _, _, by decide, e3⟩]; exact e3⟩
def encR (l : List Rw) : List B8 := l.flatMap fun r => encsT [r.key, r.val]
def Small (l : List Rw) : Prop := ∀ j, j < l.length → (rwA l j).key.size ≤ 10000 ∧ (rwA l j).val.size ≤ 10000
theorem encT2_len (a b : Str) (ha : a.size ≤ 10000) (hb : b.size ≤ 10000) : (encsT [a, b]).length ≤ 20020 := by
  have := encsT_len [a, b] 10000 (fun s hs => by
    simp only [List.mem_cons, List.not_mem_nil, or_false] at hs
    rcases hs with rfl | rfl <;> assumption)
  simpa using this
theorem encR_take (l : List Rw) (k : Nat) (h : k < l.length) : encR (l.take (k + 1)) = encR (l.take k) ++ encsT [(rwA l k).key, (rwA l k).val] := by
  rw [take_one l k h]
  simp [encR]
theorem encR_len (l : List Rw) (hs : Small l) (k : Nat) (hk : k ≤ l.length) : (encR (l.take k)).length ≤ 20020 * k := by
  induction k with
  | zero => simp [encR]
  | succ k ih =>
    have := hs k (by omega)
    have h2 := encT2_len _ _ this.1 this.2
    have h3 := ih (by omega)
    rw [encR_take l k (by omega), List.length_append]
    omega
def RWP (g : Nat) (W : World) (zs : List B8) (e : Ending) (w' : World) : Prop := e = .returned (.pointer (some ⟨g, 0, none⟩)) ∧ Wn false g w' zs ∧ Kp g W w'
theorem badN_nat (n : Nat) (h : n ≤ 1000000) : badN (n : Int) = false := by
  unfold badN
  rw [Bool.or_eq_false_iff]
  exact ⟨decide_eq_false (by omega), decide_eq_false (by omega)⟩
set_option maxRecDepth 100000 in
set_option maxHeartbeats 4000000 in
theorem write_f (g : Nat) (W : World) (h : Wn false g W []) (B0 : Nat) (A : Option Addr) (m d : Nat) (xs : List Rw) (ho : OwnR W B0 A m d xs) (hne : ∀ a, A = some a → a.block ≠ g) (hm : m ≤ 1300) (hs : Small xs) :
    Calls Tryz.prog 36 #[.pointer (some ⟨g, 0, none⟩), .slice A m d] W (RWP g W (encsI [(m : Int)] ++ encR xs)) := by
  have HW := Lib.hid h
  have HO := Lib.hid ho
  have HNE := Lib.hid hne
  have HS := Lib.hid hs
  have HM : Hid (m ≤ 1300) := Lib.hid hm
  have HL : Hid (xs.length = m) := Lib.hid ho.1
  obtain ⟨z0, hz0⟩ : ∃ z, W.heap.size = z := ⟨_, rfl⟩
  have hgl := h.lt
  have HB0 : Hid ((W.alloc (.cells #[.int .i64 (m : Int)] 3)).heap[z0]? = some (.cells #[.int .i64 (m : Int)] 3 (0, 0))) := Lib.hid (blk_new hz0)
  have HA0 : Hid (Ok W (W.alloc (.cells #[.int .i64 (m : Int)] 3))) := Lib.hid ((Ok.refl W).alloc _)
  have HG0 : Hid (g < z0) := Lib.hid (by omega)
  clear h ho hne hs hgl hm
  go_enter Tryz.func36, Tryz.ntmps36
  go_wp2_with fail
  clear hz0
  generalize W.alloc (.cells #[.int .i64 (m : Int)] 3) = w0 at *
  have hnum := num1_n false g [] w0 (HW.out.ok HA0.out) z0 (by have := HG0.out; omega) (m : Int) HB0.out (by simp)
  refine hnum.mono ?_
  clear hnum
  rintro _ w1 ⟨rfl, hw1, hk1⟩
  have HBN : Hid ((false || [(m : Int)].any badN) = false) := Lib.hid (by simp [badN_nat m (by have := HM.out; omega)])
  rw [HBN.out] at hw1
  have HW1 : Hid (Wn false g w1 (encsI [(m : Int)] ++ encR (xs.take 0))) := Lib.hid (by simpa [encR] using hw1)
  have HK1 : Hid (Kp g W w1) := Lib.hid ((Kp.of_ok HA0.out (Nat.le_of_lt HW.out.lt)).trans hk1)
  have HLE : Hid ((encsI [(m : Int)]).length ≤ 10) := Lib.hid (by simpa using encsI_len [(m : Int)])
  clear hw1 hk1 HA0 HB0
  generalize encsI [(m : Int)] = zs at *
  go_wp2_with fail
  go_loopw [14] (fun v wr => ∃ k : Nat, k ≤ m ∧ v = .int .i64 k ∧ Wn false g wr (zs ++ encR (xs.take k)) ∧ Kp g W wr) (fun v _ => m - (intOf v).toNat)
  case atStart => exact ⟨0, Nat.zero_le _, rfl, HW1.out, HK1.out⟩
  case round =>
    obtain ⟨k, hk, rfl, hwk, hkk⟩ := hrel
    have HWK := Lib.hid hwk
    have HKK := Lib.hid hkk
    clear hwk hkk HW1 HK1
    by_cases hlt : k < m
    · have d1 : decide ((k : Int) < (m : Int)) = true := decide_eq_true (by omega)
      obtain ⟨b, off, rfl, x0, x1⟩ := (HO.out.kp HKK.out HNE.out).rows k (by rw [HL.out]; exact hlt)
      have HE := Lib.hid (encR_take xs k (by rw [HL.out]; exact hlt))
      have HLN : Hid ((zs ++ encR (xs.take k)).length ≤ 100000000) := Lib.hid (by
        have h1 := encR_len xs HS.out k (by rw [HL.out]; exact hk)
        have h2 := HLE.out
        have h3 := HM.out
        rw [List.length_append]
        omega)
      have HSZ := Lib.hid (HS.out k (by rw [HL.out]; exact hlt))
      generalize (rwA xs k).key = km at *
      generalize (rwA xs k).val = vm at *
      have hi0 : (0 : Int) ≤ (k : Int) := Int.natCast_nonneg _
      have hi1 : (k : Int) < (m : Int) := by omega
      obtain ⟨z, hz⟩ : ∃ z, wr.heap.size = z := ⟨_, rfl⟩
      have HZC : Hid ((wr.alloc (.cells #[.string km, .string vm] 48)).cell? ⟨z, 0, none⟩ = some (.string km) ∧ (wr.alloc (.cells #[.string km, .string vm] 48)).cell? ⟨z, 1, none⟩ = some (.string vm)) := Lib.hid (by rw [← hz]; exact two_new wr _ _ _)
      have HZ : Hid (Ok wr (wr.alloc (.cells #[.string km, .string vm] 48))) := Lib.hid ((Ok.refl wr).alloc _)
      go_upto_region 5 with fail
      clear hz x0 x1
      generalize wr.alloc (.cells #[.string km, .string vm] 48) = w2 at *
      have z0 := HZC.out.1
      have z1 := HZC.out.2
      obtain ⟨y, hy⟩ : ∃ y, w2.heap.size = y := ⟨_, rfl⟩
      have HYC : Hid ((w2.alloc (.cells #[.string km, .string vm] 9)).heap[y]? = some (.cells #[.string km, .string vm] 9 (0, 0))) := Lib.hid (blk_new hy)
      have HY : Hid (Ok wr (w2.alloc (.cells #[.string km, .string vm] 9))) := Lib.hid (HZ.out.trans ((Ok.refl w2).alloc _))
      have HGY : Hid (g < y) := Lib.hid (by have := (HWK.out.ok HZ.out).lt; omega)
      go_wp2_with fail
      clear hy z0 z1 HZC HZ
      generalize w2.alloc (.cells #[.string km, .string vm] 9) = w3 at *
      have htx := txt2_n false g (zs ++ encR (xs.take k)) w3 (HWK.out.ok HY.out) y (by have := HGY.out; omega) km vm HYC.out HLN.out (Nat.le_trans HSZ.out.1 (by decide)) (Nat.le_trans HSZ.out.2 (by decide))
      refine htx.mono ?_
      clear htx
      rintro _ w4 ⟨rfl, hw4, hk4⟩
      have HW4 : Hid (Wn false g w4 (zs ++ encR (xs.take (k + 1)))) := Lib.hid (by rw [HE.out, ← List.append_assoc]; exact hw4)
      have HK4 : Hid (Kp g W w4) := Lib.hid (HKK.out.trans ((Kp.of_ok HY.out (Nat.le_of_lt HWK.out.lt)).trans hk4))
      clear hw4 hk4
      have e1 : IntKind.i64.wrap ((k : Int) + 1) = (k : Int) + 1 := IntWalk.i64_in _ (by have := HM.out; omega)
      have HLT : Hid (m - ((k : Int) + 1).toNat < m - (k : Int).toNat) := Lib.hid (by omega)
      go_wp2_with fail
      exact ⟨⟨k + 1, hlt, rfl, HW4.out, HK4.out⟩, HLT.out⟩
    · have d1 : decide ((k : Int) < (m : Int)) = false := decide_eq_false (by omega)
      obtain rfl : k = m := by omega
      have HXS : Hid (xs.take k = xs) := Lib.hid (List.take_of_length_le (by rw [HL.out]; exact Nat.le_refl _))
      go_wp2_with fail
      go_ret
      exact ⟨rfl, by have := HWK.out; rwa [HXS.out] at this, HKK.out⟩
end Go.Proofs.YtebhcadolnjplaaGreat
