/- Contracts of the writer's own pieces, whether it is spoilt or not. -/
import Derived.Test.YtmbnknbbfipciaaC
import Derived.Test.YtmbnknbbfipciaaH
import Derived.Test.YtmbnknbbfipciaaWa
namespace Go.Proofs.Ytmbnknbbfipciaa
open Go.RowKit

/-- A writer at block g: what it has written; whether it is spoilt. Its bytes lie behind it. -/
structure Ws (sp : Bool) (g : Nat) (w : World) (v : Value) (xs : List B8) : Prop where
  c0 : w.cell? ⟨g, 0, none⟩ = some v
  own : OwnN w (g + 1) v xs
  c1 : w.cell? ⟨g, 1, none⟩ = some (.bool sp)
  c2 : w.cell? ⟨g, 2, none⟩ = some (.bool true)
  f0 : w.frozen? ⟨g, 0, none⟩ = false
  f1 : w.frozen? ⟨g, 1, none⟩ = false
def WsP (sp : Bool) (g : Nat) (w : World) (res : Value) (ys : List B8) (e : Ending) (w' : World) : Prop :=
  e = .returned res ∧ (∃ A c, Ws sp g w' (.slice A ys.length c) ys) ∧ Below g w w'
theorem Ws.form {sp : Bool} {g : Nat} {w : World} {v : Value} {xs : List B8} (h : Ws sp g w v xs) : ∃ A c, v = .slice A xs.length c := h.own.form
theorem Ws.size {sp : Bool} {g : Nat} {w : World} {v : Value} {xs : List B8} (h : Ws sp g w v xs) : g < w.heap.size := World.block_lt_of_cell? _ _ h.c0
theorem Ws.grow {sp : Bool} {g : Nat} {w w' : World} {v : Value} {xs ys : List B8} {A : Option Addr} {n c : Nat} (h : Ws sp g w v xs) (hb : Below (g + 1) w w') (ho : OwnN w' (g + 1) (.slice A n c) ys) :
    Ws sp g (w'.setCell ⟨g, 0, none⟩ (.slice A n c)) (.slice A n c) ys ∧ Below g w (w'.setCell ⟨g, 0, none⟩ (.slice A n c)) := by
  have hc : ∀ o, w'.cell? ⟨g, o, none⟩ = w.cell? ⟨g, o, none⟩ := fun o => hb.cell (p := ⟨g, o, none⟩) (Nat.lt_succ_self g)
  have hf : ∀ o, w'.frozen? ⟨g, o, none⟩ = w.frozen? ⟨g, o, none⟩ := fun o => hb.frozen (p := ⟨g, o, none⟩) (Nat.lt_succ_self g)
  have c0 : w'.cell? ⟨g, 0, none⟩ = some v := by rw [hc]; exact h.c0
  have c1 : w'.cell? ⟨g, 1, none⟩ = some (.bool sp) := by rw [hc]; exact h.c1
  have c2 : w'.cell? ⟨g, 2, none⟩ = some (.bool true) := by rw [hc]; exact h.c2
  have f0 : w'.frozen? ⟨g, 0, none⟩ = false := by rw [hf]; exact h.f0
  have f1 : w'.frozen? ⟨g, 1, none⟩ = false := by rw [hf]; exact h.f1
  clear hc hf
  refine ⟨⟨by go_simp, ?_, by go_simp, by go_simp, by go_simp, by go_simp⟩, (hb.mono (Nat.le_succ g)).setCell (Nat.le_refl _) _⟩
  refine World.ownsRow.kept (row := some g) ho ⟨rfl, rfl, rfl, by simp [World.setCell], fun k _ hk => heap_setCell_other w' ⟨g, 0, none⟩ k _ (fun e => hk (by simp [e]))⟩ ?_
  rcases ho.2 with ⟨h1, _⟩ | ⟨g', cap', cur, h1, hg', _⟩
  · exact .inl (by rw [h1]; rfl)
  · refine .inr (by rw [h1]; simp [Value.ownBlock]; omega)
theorem Ws.alloc {sp : Bool} {g : Nat} {w : World} {v : Value} {xs : List B8} (h : Ws sp g w v xs) (o : Obj) : Ws sp g (w.alloc o) v xs :=
  have hk : Ok w (w.alloc o) := (Ok.refl w).alloc o
  ⟨hk.cell h.c0, World.ownsRow.alloc h.own o, hk.cell h.c1, hk.cell h.c2, by rw [Below.frozen hk (p := ⟨g, 0, none⟩) h.size]; exact h.f0, by rw [Below.frozen hk (p := ⟨g, 1, none⟩) h.size]; exact h.f1⟩

set_option maxRecDepth 100000 in
set_option maxHeartbeats 1000000 in
theorem number_s (sp : Bool) (g : Nat) (v : Value) (xs : List B8) (n : Nat) (W : World) (hw : Ws sp g W v xs) (hn : n ≤ 4611686018427387903) (hx : xs.length ≤ 140737488350000) :
    Calls Try.prog 36 #[.pointer (some ⟨g, 0, none⟩), .int .i64 (n : Int)] W (WsP sp g W (.tuple #[]) (xs ++ enc n)) := by
  have HW := Lib.hid hw
  have HE : Hid (enc n = [] ++ encF 9 n) := Lib.hid rfl
  have hn0 : decide ((n : Int) < 0) = false := decide_eq_false (by omega)
  have hn1 : decide ((4611686018427387903 : Int) < (n : Int)) = false := decide_eq_false (by omega)
  clear hw
  go_enter Try.func36, Try.ntmps36
  have HN : Hid (n < 128 ^ 10) := Lib.hid (by omega)
  go_wp2_with fail
  clear hn0 hn1
  go_loopw [1] (fun i wr => ∃ (m f : Nat) (pre : List B8), i = .int .i64 m ∧ m ≤ 4611686018427387903 ∧ m < 128 ^ (f + 1) ∧ enc n = pre ++ encF f m ∧ (∃ A c, Ws sp g wr (.slice A (xs ++ pre).length c) (xs ++ pre)) ∧ Below g W wr) (fun i _ => (intOf i).toNat)
  case atStart =>
    obtain ⟨A, c, rfl⟩ := HW.out.form
    exact ⟨n, 9, [], rfl, hn, HN.out, HE.out, ⟨A, c, by simpa using HW.out⟩, Below.refl _ _⟩
  case round =>
    obtain ⟨m, f, pre, rfl, hm, hmf, hpre, ⟨A, c, hwr⟩, hbe⟩ := hrel
    have hL0 : ∃ L, (xs ++ pre).length = L := ⟨_, rfl⟩
    obtain ⟨L, hL⟩ := hL0
    rw [hL] at hwr
    have HLL := Lib.hid hL
    have HPL : Hid ((xs ++ pre).length ≤ 140737488350010) := Lib.hid (by
      have h1 := congrArg List.length hpre
      have h2 := enc_len n
      rw [List.length_append] at h1 ⊢; omega)
    clear hL
    have hc0 := hwr.c0
    have hsz := hwr.size
    have HWR := Lib.hid hwr
    have HBE := Lib.hid hbe
    have HPRE := Lib.hid hpre
    clear hwr hbe hpre
    by_cases hlt : 127 < m
    · have hf : ∃ f', f = f' + 1 := by
        cases f with
        | zero => simp at hmf; omega
        | succ f' => exact ⟨f', rfl⟩
      obtain ⟨f', rfl⟩ := hf
      have HEN := Lib.hid (encF_more f' m hlt)
      have HMF : Hid (m / 128 < 128 ^ (f' + 1)) := Lib.hid (by
        rw [Nat.pow_succ] at hmf
        exact Nat.div_lt_of_lt_mul (by rw [Nat.mul_comm]; exact hmf))
      clear hmf
      have hd1 : decide ((127 : Int) < (m : Int)) = true := decide_eq_true (by omega)
      have h1 := and127 m hm
      have h2 : bits .or .i64 ((m : Int) % 128) 128 = ub (BitVec.ofNat 8 (m % 128 + 128)) := by have := or128 m; rwa [show (((m % 128 : Nat)) : Int) = (m : Int) % 128 from by simp] at this
      have HNEW : Hid (BytesIn (wr.alloc (.cells #[.int .u8 (ub (BitVec.ofNat 8 (m % 128 + 128)))] 5)) (.slice (some ⟨wr.heap.size, 0, none⟩) 1 1) [BitVec.ofNat 8 (m % 128 + 128)]) := Lib.hid (bytes_new wr _ _ 5 _ _ _ 1 rfl rfl (by decide) (by simp) rfl)
      generalize BitVec.ofNat 8 (m % 128 + 128) = y at *
      have hy2 : ub y % 256 = ub y := by have := ub_lo y; have := ub_hi y; omega
      have HOKA : Hid (Ok wr (wr.alloc (.cells #[.int .u8 (ub y)] 5))) := Lib.hid ((Ok.refl wr).alloc _)
      have HOW : Hid (OwnN (wr.alloc (.cells #[.int .u8 (ub y)] 5)) (g + 1) (.slice A L c) (xs ++ pre)) := Lib.hid (World.ownsRow.alloc HWR.out.own _)
      have HCG : Hid ((wr.alloc (.cells #[.int .u8 (ub y)] 5)).cell? ⟨g, 0, none⟩ = some (.slice A L c)) := Lib.hid (HOKA.out.cell hc0)
      have HFG : Hid ((wr.alloc (.cells #[.int .u8 (ub y)] 5)).frozen? ⟨g, 0, none⟩ = false) := Lib.hid (by rw [Below.frozen HOKA.out (p := ⟨g, 0, none⟩) hsz]; exact HWR.out.f0)
      go_wp2_with (at_builtin; go_must (refine wpList_app rfl (.tmp 19) (.tmp 24) rfl (g + 1) (.slice A L c) (xs ++ pre) [y] (.slice (some ⟨wr.heap.size, 0, none⟩) 1 1) rfl rfl HOW.out HNEW.out (by have := HPL.out; have := HLL.out; simp only [List.length_singleton]; omega) (by rw [World.size_alloc]; omega) ?_; intro A' c' w2 hown2 hbel2; have HOWN2 := Lib.hid hown2; have HBEL2 := Lib.hid hbel2; clear hown2 hbel2; rw [HLL.out]; have hcg : w2.cell? ⟨g, 0, none⟩ = some (.slice A L c) := (by rw [HBEL2.out.cell (p := ⟨g, 0, none⟩) (Nat.lt_succ_self g)]; exact HCG.out); have hfg : w2.frozen? ⟨g, 0, none⟩ = false := (by rw [HBEL2.out.frozen (p := ⟨g, 0, none⟩) (Nat.lt_succ_self g)]; exact HFG.out)))
      have HG : Hid (Ws sp g (w2.setCell ⟨g, 0, none⟩ (.slice A' (L + 1) c')) (.slice A' (L + 1) c') ((xs ++ pre) ++ [y]) ∧ Below g wr (w2.setCell ⟨g, 0, none⟩ (.slice A' (L + 1) c'))) := Lib.hid (by
        have h3 := HOWN2.out
        rw [HLL.out] at h3
        have hbb : Below (g + 1) wr w2 := (Below.mono HOKA.out (show g + 1 ≤ wr.heap.size from hsz)).trans HBEL2.out
        exact HWR.out.grow hbb h3)
      refine ⟨⟨m / 128, f', pre ++ [y], by go_num, by omega, HMF.out, ?_, ⟨A', c', ?_⟩, HBE.out.trans HG.out.2⟩, by simp [intOf]; omega⟩
      · rw [HPRE.out, HEN.out]; simp
      · have h4 := HG.out.1
        rw [← List.append_assoc, List.length_append, HLL.out]
        exact h4
    · have HEN := Lib.hid (encF_last f m hlt)
      clear hmf
      have hd1 : decide ((127 : Int) < (m : Int)) = false := decide_eq_false (by omega)
      have HY : Hid ((m : Int) = ub (BitVec.ofNat 8 m)) := Lib.hid (by rw [ub, BitVec.toNat_ofNat]; omega)
      have HNEW : Hid (BytesIn (wr.alloc (.cells #[.int .u8 (m : Int)] 5)) (.slice (some ⟨wr.heap.size, 0, none⟩) 1 1) [BitVec.ofNat 8 m]) := Lib.hid (bytes_new wr _ _ 5 _ _ _ 1 rfl rfl (by decide) (by simp) (by simp [HY.out.symm]))
      generalize BitVec.ofNat 8 m = y at *
      have HOKA : Hid (Ok wr (wr.alloc (.cells #[.int .u8 (m : Int)] 5))) := Lib.hid ((Ok.refl wr).alloc _)
      have HOW : Hid (OwnN (wr.alloc (.cells #[.int .u8 (m : Int)] 5)) (g + 1) (.slice A L c) (xs ++ pre)) := Lib.hid (World.ownsRow.alloc HWR.out.own _)
      have HCG : Hid ((wr.alloc (.cells #[.int .u8 (m : Int)] 5)).cell? ⟨g, 0, none⟩ = some (.slice A L c)) := Lib.hid (HOKA.out.cell hc0)
      have HFG : Hid ((wr.alloc (.cells #[.int .u8 (m : Int)] 5)).frozen? ⟨g, 0, none⟩ = false) := Lib.hid (by rw [Below.frozen HOKA.out (p := ⟨g, 0, none⟩) hsz]; exact HWR.out.f0)
      go_wp2_with (at_builtin; go_must (refine wpList_app rfl (.tmp 34) (.tmp 37) rfl (g + 1) (.slice A L c) (xs ++ pre) [y] (.slice (some ⟨wr.heap.size, 0, none⟩) 1 1) rfl rfl HOW.out HNEW.out (by have := HPL.out; have := HLL.out; simp only [List.length_singleton]; omega) (by rw [World.size_alloc]; omega) ?_; intro A' c' w2 hown2 hbel2; have HOWN2 := Lib.hid hown2; have HBEL2 := Lib.hid hbel2; clear hown2 hbel2; rw [HLL.out]; have hcg : w2.cell? ⟨g, 0, none⟩ = some (.slice A L c) := (by rw [HBEL2.out.cell (p := ⟨g, 0, none⟩) (Nat.lt_succ_self g)]; exact HCG.out); have hfg : w2.frozen? ⟨g, 0, none⟩ = false := (by rw [HBEL2.out.frozen (p := ⟨g, 0, none⟩) (Nat.lt_succ_self g)]; exact HFG.out)))
      have HG : Hid (Ws sp g (w2.setCell ⟨g, 0, none⟩ (.slice A' (L + 1) c')) (.slice A' (L + 1) c') ((xs ++ pre) ++ [y]) ∧ Below g wr (w2.setCell ⟨g, 0, none⟩ (.slice A' (L + 1) c'))) := Lib.hid (by
        have h3 := HOWN2.out
        rw [HLL.out] at h3
        have hbb : Below (g + 1) wr w2 := (Below.mono HOKA.out (show g + 1 ≤ wr.heap.size from hsz)).trans HBEL2.out
        exact HWR.out.grow hbb h3)
      go_end0
      refine ⟨rfl, ⟨A', c', ?_⟩, HBE.out.trans HG.out.2⟩
      rw [HPRE.out, HEN.out, ← List.append_assoc, List.length_append, HLL.out]
      exact HG.out.1

set_option maxHeartbeats 1000000 in
/-- A number that is none spoils the writer. -/
theorem number_bad (sp : Bool) (g : Nat) (v : Value) (xs : List B8) (n : Int) (W : World) (hw : Ws sp g W v xs) (hn : goodB n = false) :
    Calls Try.prog 36 #[.pointer (some ⟨g, 0, none⟩), .int .i64 n] W (WsP true g W (.tuple #[]) xs) := by
  obtain ⟨A, c, rfl⟩ := hw.form
  have HW := Lib.hid hw
  have hc1 := hw.c1
  have hf1 := hw.f1
  have hsz := hw.size
  have HF : Hid (Ws true g (W.setCell ⟨g, 1, none⟩ (.bool true)) (.slice A xs.length c) xs) := Lib.hid (by
    have h0 := hw.c0
    have h1 := hw.c1
    have h2 := hw.c2
    have h3 := hw.f0
    have h4 := hw.f1
    refine ⟨by go_simp, ?_, by go_simp, by go_simp, by go_simp, by go_simp⟩
    refine World.ownsRow.kept (row := some g) hw.own ⟨rfl, rfl, rfl, by simp [World.setCell], fun k _ hk => heap_setCell_other W ⟨g, 1, none⟩ k _ (fun e => hk (by simp [e]))⟩ ?_
    rcases hw.own.2 with ⟨h1, _⟩ | ⟨g', cap', cur, h1, hg', _⟩
    · exact .inl (by rw [h1]; rfl)
    · refine .inr (by rw [h1]; simp [Value.ownBlock]; omega))
  clear hw
  by_cases h0 : n < 0
  · have hd : decide (n < 0) = true := decide_eq_true h0
    go_enter Try.func36, Try.ntmps36
    go_wp2_with fail
    go_end0
    exact ⟨rfl, ⟨A, c, HF.out⟩, (Below.refl g W).setCell (Nat.le_refl _) _⟩
  · have h1 : 4611686018427387903 < n := by
      have h2 : ¬ (0 ≤ n ∧ n ≤ 4611686018427387903) := fun h => by rw [(goodB_iff n).2 h] at hn; cases hn
      omega
    have hd : decide (n < 0) = false := decide_eq_false h0
    have hd2 : decide (4611686018427387903 < n) = true := decide_eq_true h1
    clear h0 h1
    go_enter Try.func36, Try.ntmps36
    go_wp2_with fail
    go_end0
    exact ⟨rfl, ⟨A, c, HF.out⟩, (Below.refl g W).setCell (Nat.le_refl _) _⟩

theorem number_any (sp : Bool) (g : Nat) (v : Value) (xs : List B8) (n : Int) (W : World) (hw : Ws sp g W v xs) (hx : xs.length ≤ 140737488350000) :
    Calls Try.prog 36 #[.pointer (some ⟨g, 0, none⟩), .int .i64 n] W (WsP (sp || !goodB n) g W (.tuple #[]) (xs ++ (Item.num n).enc)) := by
  cases hg : goodB n with
  | true =>
    obtain ⟨h0, h1⟩ := (goodB_iff n).1 hg
    obtain ⟨k, rfl⟩ := Int.eq_ofNat_of_zero_le h0
    have := number_s sp g v xs k W hw (by omega) hx
    simpa [Item.enc, hg] using this
  | false =>
    have := number_bad sp g v xs n W hw hg
    simpa [Item.enc, hg] using this
end Go.Proofs.Ytmbnknbbfipciaa
