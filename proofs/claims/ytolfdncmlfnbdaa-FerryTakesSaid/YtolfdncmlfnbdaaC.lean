/- The writer's number, flag-free: how a number's bytes are laid behind those that are there. -/
import Derived.Test.YtolfdncmlfnbdaaB
namespace Go.Proofs.Ytolfdncmlfnbdaa
open Go.RowKit

theorem encF_more (f n : Nat) (h : 127 < n) : encF (f + 1) n = BitVec.ofNat 8 (n % 128 + 128) :: encF f (n / 128) := by rw [encF, if_pos h]
theorem encF_last (f n : Nat) (h : ¬ 127 < n) : encF f n = [BitVec.ofNat 8 n] := by
  cases f with
  | zero => rfl
  | succ f => rw [encF, if_neg h]

set_option maxRecDepth 100000 in
set_option maxHeartbeats 1000000 in
theorem number_w (g : Nat) (v : Value) (xs : List B8) (n : Nat) (W : World) (hw : Wr g W v xs) (hn : n ≤ 4611686018427387903) (hx : xs.length ≤ 140737488350000) :
    Calls Try.prog 84 #[.pointer (some ⟨g, 0, none⟩), .int .i64 (n : Int)] W (WrPost g W (.tuple #[]) (xs ++ enc n)) := by
  have HW := Lib.hid hw
  have HE : Hid (enc n = [] ++ encF 9 n) := Lib.hid rfl
  have hn0 : decide ((n : Int) < 0) = false := decide_eq_false (by omega)
  have hn1 : decide ((4611686018427387903 : Int) < (n : Int)) = false := decide_eq_false (by omega)
  clear hw
  go_enter Try.func84, Try.ntmps84
  have HN : Hid (n < 128 ^ 10) := Lib.hid (by omega)
  go_wp2_with fail
  clear hn0 hn1
  go_loopw [1] (fun i wr => ∃ (m f : Nat) (pre : List B8), i = .int .i64 m ∧ m ≤ 4611686018427387903 ∧ m < 128 ^ (f + 1) ∧ enc n = pre ++ encF f m ∧ (∃ A c, Wr g wr (.slice A (xs ++ pre).length c) (xs ++ pre)) ∧ Below g W wr) (fun i _ => (intOf i).toNat)
  case atStart =>
    obtain ⟨A, c, rfl⟩ := HW.out.form
    exact ⟨n, 9, [], rfl, hn, HN.out, HE.out, ⟨A, c, by simpa using HW.out⟩, Below.refl _ _⟩
  case round =>
    obtain ⟨m, f, pre, rfl, hm, hmf, hpre, ⟨A, c, hwr⟩, hbe⟩ := hrel
    have hL0 : ∃ L, (xs ++ pre).length = L := ⟨_, rfl⟩
    obtain ⟨L, hL⟩ := hL0
    rw [hL] at hwr
    have HLL := Lib.hid hL
    have HPL : Hid ((xs ++ pre).length ≤ 140737488350010) := Lib.hid (by
      have h1 := congrArg List.length hpre
      have h2 := enc_len n
      rw [List.length_append] at h1 ⊢; omega)
    clear hL
    have hc0 := hwr.1
    have hsz := hwr.size
    have HWR := Lib.hid hwr
    have HBE := Lib.hid hbe
    have HPRE := Lib.hid hpre
    clear hwr hbe hpre
    by_cases hlt : 127 < m
    · have hf : ∃ f', f = f' + 1 := by
        cases f with
        | zero => simp at hmf; omega
        | succ f' => exact ⟨f', rfl⟩
      obtain ⟨f', rfl⟩ := hf
      have HEN := Lib.hid (encF_more f' m hlt)
      have HMF : Hid (m / 128 < 128 ^ (f' + 1)) := Lib.hid (by
        rw [Nat.pow_succ] at hmf
        exact Nat.div_lt_of_lt_mul (by rw [Nat.mul_comm]; exact hmf))
      clear hmf
      have hd1 : decide ((127 : Int) < (m : Int)) = true := decide_eq_true (by omega)
      have h1 := and127 m hm
      have h2 : bits .or .i64 ((m : Int) % 128) 128 = ub (BitVec.ofNat 8 (m % 128 + 128)) := by have := or128 m; rwa [show (((m % 128 : Nat)) : Int) = (m : Int) % 128 from by simp] at this
      have HNEW : Hid (BytesIn (wr.alloc (.cells #[.int .u8 (ub (BitVec.ofNat 8 (m % 128 + 128)))] 5)) (.slice (some ⟨wr.heap.size, 0, none⟩) 1 1) [BitVec.ofNat 8 (m % 128 + 128)]) := Lib.hid (bytes_new wr _ _ 5 _ _ _ 1 rfl rfl (by decide) (by simp) rfl)
      generalize BitVec.ofNat 8 (m % 128 + 128) = y at *
      have hy2 : ub y % 256 = ub y := by have := ub_lo y; have := ub_hi y; omega
      have HOKA : Hid (Ok wr (wr.alloc (.cells #[.int .u8 (ub y)] 5))) := Lib.hid ((Ok.refl wr).alloc _)
      have HOW : Hid (OwnN (wr.alloc (.cells #[.int .u8 (ub y)] 5)) (g + 1) (.slice A L c) (xs ++ pre)) := Lib.hid (World.ownsRow.alloc HWR.out.2.1 _)
      have HCG : Hid ((wr.alloc (.cells #[.int .u8 (ub y)] 5)).cell? ⟨g, 0, none⟩ = some (.slice A L c)) := Lib.hid (HOKA.out.cell hc0)
      have HFG : Hid ((wr.alloc (.cells #[.int .u8 (ub y)] 5)).frozen? ⟨g, 0, none⟩ = false) := Lib.hid (by rw [Below.frozen HOKA.out (p := ⟨g, 0, none⟩) hsz]; exact HWR.out.2.2.2.2)
      go_wp2_with (at_builtin; go_must (refine wpList_app rfl (.tmp 19) (.tmp 24) rfl (g + 1) (.slice A L c) (xs ++ pre) [y] (.slice (some ⟨wr.heap.size, 0, none⟩) 1 1) rfl rfl HOW.out HNEW.out (by have := HPL.out; have := HLL.out; simp only [List.length_singleton]; omega) (by rw [World.size_alloc]; omega) ?_; intro A' c' w2 hown2 hbel2; have HOWN2 := Lib.hid hown2; have HBEL2 := Lib.hid hbel2; clear hown2 hbel2; rw [HLL.out]; have hcg : w2.cell? ⟨g, 0, none⟩ = some (.slice A L c) := (by rw [HBEL2.out.cell (p := ⟨g, 0, none⟩) (Nat.lt_succ_self g)]; exact HCG.out); have hfg : w2.frozen? ⟨g, 0, none⟩ = false := (by rw [HBEL2.out.frozen (p := ⟨g, 0, none⟩) (Nat.lt_succ_self g)]; exact HFG.out)))
      have HG : Hid (Wr g (w2.setCell ⟨g, 0, none⟩ (.slice A' (L + 1) c')) (.slice A' (L + 1) c') ((xs ++ pre) ++ [y]) ∧ Below g wr (w2.setCell ⟨g, 0, none⟩ (.slice A' (L + 1) c'))) := Lib.hid (by
        have h3 := HOWN2.out
        rw [HLL.out] at h3
        have hbb : Below (g + 1) wr w2 := (Below.mono HOKA.out (show g + 1 ≤ wr.heap.size from hsz)).trans HBEL2.out
        exact HWR.out.grow hbb h3)
      refine ⟨⟨m / 128, f', pre ++ [y], by go_num, by omega, HMF.out, ?_, ⟨A', c', ?_⟩, HBE.out.trans HG.out.2⟩, by simp [intOf]; omega⟩
      · rw [HPRE.out, HEN.out]; simp
      · have h4 := HG.out.1
        rw [← List.append_assoc, List.length_append, HLL.out]
        exact h4
    · have HEN := Lib.hid (encF_last f m hlt)
      clear hmf
      have hd1 : decide ((127 : Int) < (m : Int)) = false := decide_eq_false (by omega)
      have HY : Hid ((m : Int) = ub (BitVec.ofNat 8 m)) := Lib.hid (by rw [ub, BitVec.toNat_ofNat]; omega)
      have HNEW : Hid (BytesIn (wr.alloc (.cells #[.int .u8 (m : Int)] 5)) (.slice (some ⟨wr.heap.size, 0, none⟩) 1 1) [BitVec.ofNat 8 m]) := Lib.hid (bytes_new wr _ _ 5 _ _ _ 1 rfl rfl (by decide) (by simp) (by simp [HY.out.symm]))
      generalize BitVec.ofNat 8 m = y at *
      have HOKA : Hid (Ok wr (wr.alloc (.cells #[.int .u8 (m : Int)] 5))) := Lib.hid ((Ok.refl wr).alloc _)
      have HOW : Hid (OwnN (wr.alloc (.cells #[.int .u8 (m : Int)] 5)) (g + 1) (.slice A L c) (xs ++ pre)) := Lib.hid (World.ownsRow.alloc HWR.out.2.1 _)
      have HCG : Hid ((wr.alloc (.cells #[.int .u8 (m : Int)] 5)).cell? ⟨g, 0, none⟩ = some (.slice A L c)) := Lib.hid (HOKA.out.cell hc0)
      have HFG : Hid ((wr.alloc (.cells #[.int .u8 (m : Int)] 5)).frozen? ⟨g, 0, none⟩ = false) := Lib.hid (by rw [Below.frozen HOKA.out (p := ⟨g, 0, none⟩) hsz]; exact HWR.out.2.2.2.2)
      go_wp2_with (at_builtin; go_must (refine wpList_app rfl (.tmp 34) (.tmp 37) rfl (g + 1) (.slice A L c) (xs ++ pre) [y] (.slice (some ⟨wr.heap.size, 0, none⟩) 1 1) rfl rfl HOW.out HNEW.out (by have := HPL.out; have := HLL.out; simp only [List.length_singleton]; omega) (by rw [World.size_alloc]; omega) ?_; intro A' c' w2 hown2 hbel2; have HOWN2 := Lib.hid hown2; have HBEL2 := Lib.hid hbel2; clear hown2 hbel2; rw [HLL.out]; have hcg : w2.cell? ⟨g, 0, none⟩ = some (.slice A L c) := (by rw [HBEL2.out.cell (p := ⟨g, 0, none⟩) (Nat.lt_succ_self g)]; exact HCG.out); have hfg : w2.frozen? ⟨g, 0, none⟩ = false := (by rw [HBEL2.out.frozen (p := ⟨g, 0, none⟩) (Nat.lt_succ_self g)]; exact HFG.out)))
      have HG : Hid (Wr g (w2.setCell ⟨g, 0, none⟩ (.slice A' (L + 1) c')) (.slice A' (L + 1) c') ((xs ++ pre) ++ [y]) ∧ Below g wr (w2.setCell ⟨g, 0, none⟩ (.slice A' (L + 1) c'))) := Lib.hid (by
        have h3 := HOWN2.out
        rw [HLL.out] at h3
        have hbb : Below (g + 1) wr w2 := (Below.mono HOKA.out (show g + 1 ≤ wr.heap.size from hsz)).trans HBEL2.out
        exact HWR.out.grow hbb h3)
      go_end0
      refine ⟨rfl, ⟨A', c', ?_⟩, HBE.out.trans HG.out.2⟩
      rw [HPRE.out, HEN.out, ← List.append_assoc, List.length_append, HLL.out]
      exact HG.out.1
end Go.Proofs.Ytolfdncmlfnbdaa
