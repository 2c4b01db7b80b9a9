/- The document's numbers as bytes. -/
import Derived.Test.YtnjaiiifafbbjaaRc
import Derived.Laws.Bits128
namespace Go.Proofs.Ytnjaiiifafbbjaa
open Go.RowKit

/-- Bytes of the call's own, told. -/
def NumP (w : World) (xs : List B8) (e : Ending) (w' : World) : Prop := ∃ A c, e = .returned (.tuple #[.slice A xs.length c, .bool true]) ∧ OwnN w' w.heap.size (.slice A xs.length c) xs ∧ Ok w w'
theorem OwnN.alloc {w : World} {B : Nat} {v : Value} {xs : List B8} (h : OwnN w B v xs) (o : Obj) : OwnN (w.alloc o) B v xs := World.ownsRow.alloc h o
theorem OwnN.posn {w : World} {B : Nat} {A : Option Addr} {n c : Nat} {xs : List B8} (h : OwnN w B (.slice A n c) xs) (hp : 0 < xs.length) : ∃ g, A = some ⟨g, 0, none⟩ ∧ n = xs.length ∧ B ≤ g ∧ g < w.heap.size := by
  have hlt := World.ownsRow.lt h
  rcases h.2 with ⟨e, h5⟩ | ⟨g, cap, cur, e, r1, _⟩
  · omega
  · simp only [Value.slice.injEq] at e
    obtain ⟨rfl, rfl, rfl⟩ := e
    exact ⟨g, rfl, rfl, r1, (hlt g rfl).2⟩
theorem set_last (pre : List B8) (b b' : B8) : ((pre ++ [b]).map bv).set pre.length (bv b') = (pre ++ [b']).map bv := by
  induction pre with
  | nil => rfl
  | cons x xs ih => simp only [List.cons_append, List.map_cons, List.length_cons, List.set_cons_succ, ih]
theorem OwnN.last {w : World} {B g n c : Nat} {pre : List B8} {b : B8} (h : OwnN w B (.slice (some ⟨g, 0, none⟩) n c) (pre ++ [b])) (hn : n = pre.length + 1) : w.cell? ⟨g, pre.length, none⟩ = some (.int .u8 (ub b)) ∧ w.frozen? ⟨g, pre.length, none⟩ = false := by
  subst hn
  have hl : (pre ++ [b]).length = pre.length + 1 := by simp
  unfold OwnN at h
  rw [hl] at h
  refine ⟨?_, World.ownsRow.frozenAt h _⟩
  rw [World.ownsRow.cellAt h _ (by omega)]
  simp [bv]
theorem OwnN.put {w : World} {B g n c : Nat} {pre : List B8} {b : B8} (h : OwnN w B (.slice (some ⟨g, 0, none⟩) n c) (pre ++ [b])) (hn : n = pre.length + 1) (b' : B8) : OwnN (w.setCell ⟨g, pre.length, none⟩ (.int .u8 (ub b'))) B (.slice (some ⟨g, 0, none⟩) n c) (pre ++ [b']) := by
  subst hn
  have hl : ∀ b, (pre ++ [b]).length = pre.length + 1 := fun b => by simp
  unfold OwnN at h ⊢
  rw [hl] at h ⊢
  have := (World.ownsRow.stored h pre.length (bv b')).1
  rwa [set_last] at this
theorem Ok.own {w w' : World} (k : Ok w w') {g : Nat} (hg : w.heap.size ≤ g) (o : Nat) (v : Value) : Ok w (w'.setCell ⟨g, o, none⟩ v) := Below.setCell k hg _
theorem own_one (w : World) (b : B8) : OwnN (w.alloc (.cells #[.int .u8 (ub b)] 5)) w.heap.size (.slice (some ⟨w.heap.size, 0, none⟩) 1 1) [b] :=
  ⟨rfl, .inr ⟨w.heap.size, 1, #[.int .u8 (ub b)], rfl, Nat.le_refl _, heap_alloc_new w _, Nat.le_refl _, by unfold maxLen; omega, rfl, rfl⟩⟩
theorem u8_low (m : Nat) : ub (BitVec.ofNat 8 (m % 128)) = (m : Int) % 128 := by rw [ub, BitVec.toNat_ofNat]; omega
theorem u8_up (m : Nat) : bits .or .u8 (ub (BitVec.ofNat 8 (m % 128))) 128 = ub (BitVec.ofNat 8 (m % 128 + 128)) := by
  rw [u8_low, u8_or128_right _ (by omega) (by omega), ub, BitVec.toNat_ofNat]; omega

set_option maxRecDepth 100000 in
set_option maxHeartbeats 2000000 in
theorem rnumber_w (n : Nat) (hn : n ≤ 4611686018427387903) (W : World) :
    Calls Try.prog 131 #[.int .i64 (n : Int)] W (NumP W (enc n)) := by
  have HE : Hid (enc n = [] ++ encF 9 n) := Lib.hid rfl
  have HNN : Hid (n < 128 ^ 10) := Lib.hid (by omega)
  have hn0 : decide ((n : Int) < 0) = false := decide_eq_false (by omega)
  have hn1 : decide ((4611686018427387903 : Int) < (n : Int)) = false := decide_eq_false (by omega)
  have h1 := and127 n hn
  go_enter Try.func131, Try.ntmps131
  go_wp2_with fail
  have HO1 : Hid (OwnN (W.alloc (.cells #[.int .u8 ((n : Int) % 128)] 5)) W.heap.size (.slice (some ⟨W.heap.size, 0, none⟩) 1 1) ([] ++ [BitVec.ofNat 8 (n % 128)])) := Lib.hid (by have := own_one W (BitVec.ofNat 8 (n % 128)); rwa [u8_low] at this)
  have HK1 : Hid (Ok W (W.alloc (.cells #[.int .u8 ((n : Int) % 128)] 5))) := Lib.hid (Ok.alloc (Ok.refl W) _)
  clear h1 hn0 hn1
  go_loopw [0, 4] (fun i o wr => ∃ (m f : Nat) (pre : List B8) (A : Option Addr) (L c : Nat), i = .int .i64 ((m / 128 : Nat) : Int) ∧ m ≤ 4611686018427387903 ∧ m < 128 ^ (f + 1) ∧ enc n = pre ++ encF f m ∧ L = pre.length + 1 ∧ o = .slice A L c ∧ OwnN wr W.heap.size (.slice A L c) (pre ++ [BitVec.ofNat 8 (m % 128)]) ∧ Ok W wr) (fun i _ _ => (intOf i).toNat)
  case atStart => exact ⟨n, 9, [], _, _, _, by go_num, hn, HNN.out, HE.out, rfl, rfl, HO1.out, HK1.out⟩
  case round =>
    obtain ⟨m, f, pre, A, L, c, rfl, hm, hmf, hpre, hL, rfl, hown, hok⟩ := hrel
    obtain ⟨g, rfl, -, hBg, hgs⟩ := hown.posn (by simp)
    have HOK := Lib.hid hok
    have HPRE := Lib.hid hpre
    have HLL := Lib.hid hL
    have HPL : Hid (pre.length ≤ 10) := Lib.hid (by
      have h1 := congrArg List.length hpre
      have h2 := enc_len n
      rw [List.length_append] at h1; omega)
    clear hok hpre HO1 HK1 HE HNN
    by_cases hlt : 0 < m / 128
    · have hlt2 : 127 < m := by omega
      have hf : ∃ f', f = f' + 1 := by
        cases f with
        | zero => simp at hmf; omega
        | succ f' => exact ⟨f', rfl⟩
      obtain ⟨f', rfl⟩ := hf
      have HEN := Lib.hid (encF_more f' m hlt2)
      have HMF : Hid (m / 128 < 128 ^ (f' + 1)) := Lib.hid (by
        rw [Nat.pow_succ] at hmf
        exact Nat.div_lt_of_lt_mul (by rw [Nat.mul_comm]; exact hmf))
      clear hmf
      obtain ⟨q, hq⟩ : ∃ q, m / 128 = q := ⟨_, rfl⟩
      rw [hq] at HEN HMF hlt ⊢
      have hqn : q ≤ 4611686018427387903 := by omega
      have hd1 : decide ((0 : Int) < (q : Int)) = true := decide_eq_true (by omega)
      have h1 := and127 q hqn
      obtain ⟨C0, F0⟩ := hown.last hL
      have h3 := u8_up m
      have HOP := Lib.hid (hown.put hL (BitVec.ofNat 8 (m % 128 + 128)))
      have HOK2 := Lib.hid (Ok.own HOK.out hBg pre.length (.int .u8 (ub (BitVec.ofNat 8 (m % 128 + 128)))))
      generalize BitVec.ofNat 8 (m % 128 + 128) = y2 at *
      generalize BitVec.ofNat 8 (m % 128) = y1 at *
      clear hown
      obtain ⟨P, hP⟩ : ∃ P, pre.length = P := ⟨_, rfl⟩
      rw [hP] at C0 F0 HOP HOK2 HLL HPL
      rw [hP] at hL
      subst hL
      have s1 : wrap64 (P : Int) = (P : Int) := by have := HPL.out; simp only [wrap64]; omega
      have s2 : (0 : Int) ≤ (P : Int) := Int.natCast_nonneg _
      have s3 : (P : Int) < (P : Int) + 1 := by omega
      have HPP := Lib.hid hP
      have HLEN : Hid ((pre ++ [y2]).length = P + 1) := Lib.hid (by simp [hP])
      have HPL2 : Hid (P ≤ 10) := Lib.hid HPL.out
      clear hP HPL
      generalize hW2 : wr.setCell ⟨g, P, none⟩ (.int .u8 (ub y2)) = w2 at *
      have HNEW : Hid (BytesIn (w2.alloc (.cells #[.int .u8 ((q : Int) % 128)] 5)) (.slice (some ⟨w2.heap.size, 0, none⟩) 1 1) [BitVec.ofNat 8 (q % 128)]) := Lib.hid (bytes_new w2 _ _ 5 _ _ _ 1 rfl rfl (by decide) (by simp) (by simp [u8_low]))
      have HOWA : Hid (OwnN (w2.alloc (.cells #[.int .u8 ((q : Int) % 128)] 5)) W.heap.size (.slice (some ⟨g, 0, none⟩) (P + 1) c) (pre ++ [y2])) := Lib.hid (HOP.out.alloc _)
      have HOKA : Hid (Ok W (w2.alloc (.cells #[.int .u8 ((q : Int) % 128)] 5))) := Lib.hid (Ok.alloc HOK2.out _)
      obtain ⟨y3, hy3⟩ : ∃ y, BitVec.ofNat 8 (q % 128) = y := ⟨_, rfl⟩
      rw [hy3] at HNEW
      have HY3 := Lib.hid hy3
      clear hy3
      go_wp2_with (first
        | (at_builtin; go_must (refine wpList_app rfl (.tmp 27) (.tmp 31) rfl W.heap.size (.slice (some ⟨g, 0, none⟩) (P + 1) c) (pre ++ [y2]) [y3] (.slice (some ⟨w2.heap.size, 0, none⟩) 1 1) rfl rfl HOWA.out HNEW.out (by have := HPL2.out; rw [HLEN.out]; simp; omega) HOKA.out.size ?_; intro A' c' w3 hown3 hbel3; have HOWN3 := Lib.hid hown3; have HOK3 : Hid (Ok W w3) := Lib.hid (Below.trans HOKA.out hbel3); clear hown3 hbel3; rw [HLEN.out])))
      refine ⟨⟨q, f', pre ++ [y2], A', _, c', by go_num, hqn, HMF.out, by rw [HPRE.out, HEN.out]; simp, by rw [HLEN.out], rfl, by have h := HOWN3.out; rw [HLEN.out] at h; rw [HY3.out]; exact h, HOK3.out⟩, ?_⟩
      simp [intOf]; omega
    · have hd1 : decide ((0 : Int) < ((m / 128 : Nat) : Int)) = false := decide_eq_false (by omega)
      have hle : ¬ 127 < m := by omega
      have HFI : Hid (enc n = pre ++ [BitVec.ofNat 8 (m % 128)]) := Lib.hid (by rw [HPRE.out, encF_last f m hle, Nat.mod_eq_of_lt (by omega)])
      have HLE : Hid ((enc n).length = L) := Lib.hid (by rw [HFI.out, HLL.out]; simp)
      have HFIN : Hid (∀ e, e = .returned (.tuple #[.slice (some ⟨g, 0, none⟩) L c, .bool true]) → NumP W (enc n) e wr) := Lib.hid fun e he => ⟨some ⟨g, 0, none⟩, c, by rw [HLE.out]; exact he, by rw [HLE.out, HFI.out]; exact hown, HOK.out⟩
      clear hown hmf HPRE HLL HPL hL HLE HFI
      obtain ⟨q, hq⟩ : ∃ q, m / 128 = q := ⟨_, rfl⟩
      rw [hq] at hd1 ⊢
      obtain rfl : q = 0 := by omega
      clear hq hlt hd1
      go_wp2_with fail
      go_ret2
      exact HFIN.out _ rfl
end Go.Proofs.Ytnjaiiifafbbjaa
