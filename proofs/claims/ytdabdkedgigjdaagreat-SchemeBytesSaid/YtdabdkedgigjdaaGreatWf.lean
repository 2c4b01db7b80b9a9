/- A handoff written. -/
import Derived.Test.YtdabdkedgigjdaaGreatWe
import Derived.Test.YtdabdkedgigjdaaGreatYb
import Derived.Deep.RegionHeld3
import Derived.IntWalk
namespace Go.Proofs.YtdabdkedgigjdaaGreat
open Go.RowKit
/-- Bytes appended; and what stays. -/
theorem wpList_app2 {ops : Array Oper} {rest : List Oper} {o : Oper} {a : Act} {w : World} {Q : Exit → Act → World → Prop} (hgd : o.guard = none) (s x : Operand)
    (ho : o.op = .call { callee := .builtin .append, args := #[s, x], argTypes := #[49, 49] })
    (base : Nat) (v : Value) (xs ys : List B8) (vx : Value) (hs : a.eval s = v) (hx : a.eval x = vx) (hown : OwnN w base v xs) (hy : BytesIn w vx ys)
    (hlen : xs.length + ys.length ≤ 140737488351232) (hbase : base ≤ w.heap.size)
    (h : ∀ A c w', OwnN w' base (.slice A (xs.length + ys.length) c) (xs ++ ys) → Below base w w' → (∀ b, b < w.heap.size → v.ownBlock ≠ some b → w'.heap[b]? = w.heap[b]? ∧ (Value.slice A (xs.length + ys.length) c).ownBlock ≠ some b) → wpList Tryz.prog ops Q rest (a.put o.dst (.slice A (xs.length + ys.length) c)) w') : wpList Tryz.prog ops Q (o :: rest) a w := by
  obtain ⟨i0, hi, hz0, hz1, hz2⟩ := info_parts info5
  have hlate : ∀ v' w', w'.ownsRow base 5 1 v' (xs.length + ys.length) (xs.map bv ++ ys.map bv) → w.grownBy w' v.ownBlock → (v'.ownBlock = v.ownBlock ∨ v'.ownBlock = some w.heap.size) → wpList Tryz.prog ops Q rest (a.put o.dst v') w' := by
    intro v' w' h2 h3 h5
    have hst : ∀ b, b < w.heap.size → v.ownBlock ≠ some b → w'.heap[b]? = w.heap[b]? ∧ v'.ownBlock ≠ some b := fun b h6 h7 => ⟨h3.block b h6 (fun e => h7 e.symm), by rcases h5 with h5 | h5 <;> rw [h5]; exact h7; exact fun h => by cases h; omega⟩
    have hb : Below base w w' := (Below.refl base w).grown h3 hbase (fun k hk => (World.ownsRow.lt hown k hk).1)
    have h2' : OwnN w' base v' (xs ++ ys) := by unfold OwnN; rw [List.map_append, List.length_append]; exact h2
    obtain ⟨A, c, rfl⟩ := h2'.form
    rw [List.length_append] at h2' hst ⊢
    exact h A c w' h2' hb hst
  rcases hy with ⟨rfl, A, c, rfl, hA⟩ | ⟨b, off, c, rfl, _, hm, hc⟩
  · cases A with
    | some ad =>
      refine wpList_append_own_at _ hgd s x 49 ho base 5 i0 (.int .u8 0) 1 1 Tryz.underlying49 hi hz0 hz1 hz2 rfl (by decide) _ xs.length (xs.map bv) hs hown ad 0 c [] hx rfl (fun j u hu => by simp at hu) (fun u hu => by simp at hu) (by unfold maxLen; simp at hlen; omega) (by simp at hlen; omega) hbase ?_
      intro v' w' h2 h3 _ h5
      exact hlate v' w' h2 h3 h5
    | none =>
      obtain rfl := hA rfl
      refine wpList_append_own_none hgd s x 49 ho base 5 i0 1 Tryz.underlying49 hi _ xs.length (xs.map bv) hs hown hx ?_
      exact hlate v w (by have := hown; unfold OwnN at this; simpa using this) ⟨rfl, rfl, rfl, Nat.le_refl _, fun _ _ _ => rfl⟩ (.inl rfl)
  · refine wpList_append_own_at _ hgd s x 49 ho base 5 i0 (.int .u8 0) 1 1 Tryz.underlying49 hi hz0 hz1 hz2 rfl (by decide) _ xs.length (xs.map bv) hs hown ⟨b, off, none⟩ ys.length c (ys.map bv) hx (by simp) ?_ ?_ (by unfold maxLen; omega) (by omega) hbase ?_
    · intro j u hu
      have hj : j < ys.length := by
        by_cases hl : j < ys.length
        · exact hl
        · rw [List.getElem?_eq_none (by simp; omega)] at hu; cases hu
      have e : (⟨b, off, none⟩ : Addr).add j = ⟨b, off + j, none⟩ := by unfold Addr.add; split <;> simp_all
      rw [e, hc j hj, ← hu]
      simp [hj, bv]
    · intro u hu
      obtain ⟨y, _, rfl⟩ := List.mem_map.1 hu
      rfl
    · intro v' w' h2 h3 _ h5
      exact hlate v' w' h2 h3 h5
/-- The writer of bytes at block g, spoilt or not; and a block b that it does not touch. -/
def Ws (sp : Bool) (P : Nat → Prop) (g : Nat) (w : World) (v : Value) (xs : List B8) : Prop :=
  (w.cell? ⟨g, 0, none⟩ = some v ∧ OwnN w (g + 1) v xs ∧ w.cell? ⟨g, 1, none⟩ = some (.bool sp) ∧ w.cell? ⟨g, 2, none⟩ = some (.bool true) ∧ w.frozen? ⟨g, 0, none⟩ = false ∧ w.frozen? ⟨g, 1, none⟩ = false) ∧ ∀ b, P b → b ≠ g ∧ b < w.heap.size ∧ v.ownBlock ≠ some b
def WsPost (sp : Bool) (P : Nat → Prop) (g : Nat) (w : World) (res : Value) (ys : List B8) (e : Ending) (w' : World) : Prop :=
  e = .returned res ∧ (∃ A c, Ws sp P g w' (.slice A ys.length c) ys) ∧ Below g w w' ∧ ∀ b, P b → w'.heap[b]? = w.heap[b]?
theorem Ws.form {sp : Bool} {P : Nat → Prop} {g : Nat} {w : World} {v : Value} {xs : List B8} (h : Ws sp P g w v xs) : ∃ A c, v = .slice A xs.length c := h.1.2.1.form
theorem Ws.size {sp : Bool} {P : Nat → Prop} {g : Nat} {w : World} {v : Value} {xs : List B8} (h : Ws sp P g w v xs) : g < w.heap.size := World.block_lt_of_cell? _ _ h.1.1
theorem Ws.grow {sp : Bool} {P : Nat → Prop} {g : Nat} {w w' : World} {v : Value} {xs ys : List B8} {A : Option Addr} {n c : Nat} (h : Ws sp P g w v xs) (hb : Below (g + 1) w w') (ho : OwnN w' (g + 1) (.slice A n c) ys) (hs : ∀ b, P b → w'.heap[b]? = w.heap[b]? ∧ (Value.slice A n c).ownBlock ≠ some b) :
    Ws sp P g (w'.setCell ⟨g, 0, none⟩ (.slice A n c)) (.slice A n c) ys ∧ Below g w (w'.setCell ⟨g, 0, none⟩ (.slice A n c)) ∧ ∀ b, P b → (w'.setCell ⟨g, 0, none⟩ (.slice A n c)).heap[b]? = w.heap[b]? := by
  have c0 : w'.cell? ⟨g, 0, none⟩ = some v := by rw [hb.cell (p := ⟨g, 0, none⟩) (Nat.lt_succ_self g)]; exact h.1.1
  have c1 : w'.cell? ⟨g, 1, none⟩ = some (.bool sp) := by rw [hb.cell (p := ⟨g, 1, none⟩) (Nat.lt_succ_self g)]; exact h.1.2.2.1
  have c2 : w'.cell? ⟨g, 2, none⟩ = some (.bool true) := by rw [hb.cell (p := ⟨g, 2, none⟩) (Nat.lt_succ_self g)]; exact h.1.2.2.2.1
  have f0 : w'.frozen? ⟨g, 0, none⟩ = false := by rw [hb.frozen (p := ⟨g, 0, none⟩) (Nat.lt_succ_self g)]; exact h.1.2.2.2.2.1
  have f1 : w'.frozen? ⟨g, 1, none⟩ = false := by rw [hb.frozen (p := ⟨g, 1, none⟩) (Nat.lt_succ_self g)]; exact h.1.2.2.2.2.2
  have hz : w.heap.size ≤ w'.heap.size := hb.size
  refine ⟨⟨⟨by go_simp, ?_, by go_simp, by go_simp, by go_simp, by go_simp⟩, fun b hb => ⟨(h.2 b hb).1, by simp [World.setCell]; exact Nat.lt_of_lt_of_le (h.2 b hb).2.1 hz, (hs b hb).2⟩⟩, (hb.mono (Nat.le_succ g)).setCell (Nat.le_refl _) _, fun b hb => by rw [Below.heap_setCell _ _ _ _ (h.2 b hb).1]; exact (hs b hb).1⟩
  refine World.ownsRow.kept (row := some g) ho ⟨rfl, rfl, rfl, by simp [World.setCell], fun k _ hk => heap_setCell_other w' ⟨g, 0, none⟩ k _ (fun e => hk (by simp [e]))⟩ ?_
  rcases ho.2 with ⟨h1, _⟩ | ⟨g', cap', cur, h1, hg', _⟩
  · exact .inl (by rw [h1]; rfl)
  · refine .inr (by rw [h1]; simp [Value.ownBlock]; omega)
end Go.Proofs.YtdabdkedgigjdaaGreat
namespace Go.Proofs.YtdabdkedgigjdaaGreat
open Go.RowKit
theorem own_eq (A : Option Addr) (p q p' q' : Nat) : (Value.slice A p q).ownBlock = (Value.slice A p' q').ownBlock := by cases A <;> rfl
set_option maxRecDepth 100000 in
set_option maxHeartbeats 1000000 in
theorem number_s (sp : Bool) (P : Nat → Prop) (g : Nat) (v : Value) (xs : List B8) (n : Nat) (W : World) (hw : Ws sp P g W v xs) (hn : n ≤ 4611686018427387903) (hx : xs.length ≤ 140737488350000) :
    Calls Tryz.prog 114 #[.pointer (some ⟨g, 0, none⟩), .int .i64 (n : Int)] W (WsPost sp P g W (.tuple #[]) (xs ++ enc n)) := by
  have HW := Lib.hid hw
  have HE : Hid (enc n = [] ++ encF 9 n) := Lib.hid rfl
  have hn0 : decide ((n : Int) < 0) = false := decide_eq_false (by omega)
  have hn1 : decide ((4611686018427387903 : Int) < (n : Int)) = false := decide_eq_false (by omega)
  clear hw
  go_enter Tryz.func114, Tryz.ntmps114
  have HN : Hid (n < 128 ^ 10) := Lib.hid (by omega)
  go_wp2_with fail
  clear hn0 hn1
  go_loopw [1] (fun i wr => ∃ (m f : Nat) (pre : List B8), i = .int .i64 m ∧ m ≤ 4611686018427387903 ∧ m < 128 ^ (f + 1) ∧ enc n = pre ++ encF f m ∧ (∃ A c, Ws sp P g wr (.slice A (xs ++ pre).length c) (xs ++ pre)) ∧ Below g W wr ∧ ∀ b, P b → wr.heap[b]? = W.heap[b]?) (fun i _ => (intOf i).toNat)
  case atStart =>
    obtain ⟨A, c, rfl⟩ := HW.out.form
    exact ⟨n, 9, [], rfl, hn, HN.out, HE.out, ⟨A, c, by simpa using HW.out⟩, Below.refl _ _, fun _ _ => rfl⟩
  case round =>
    obtain ⟨m, f, pre, rfl, hm, hmf, hpre, ⟨A, c, hwr⟩, hbe, hkb⟩ := hrel
    have hL0 : ∃ L, (xs ++ pre).length = L := ⟨_, rfl⟩
    obtain ⟨L, hL⟩ := hL0
    rw [hL] at hwr
    have HLL := Lib.hid hL
    have HPL : Hid ((xs ++ pre).length ≤ 140737488350010) := Lib.hid (by
      have h1 := congrArg List.length hpre
      have h2 := enc_len n
      rw [List.length_append] at h1 ⊢; omega)
    clear hL
    have hc0 := hwr.1.1
    have hsz := hwr.size
    have HWR := Lib.hid hwr
    have HBE := Lib.hid hbe
    have HKB := Lib.hid hkb
    clear hkb
    have HPRE := Lib.hid hpre
    clear hwr hbe hpre
    by_cases hlt : 127 < m
    · have hf : ∃ f', f = f' + 1 := by
        cases f with
        | zero => simp at hmf; omega
        | succ f' => exact ⟨f', rfl⟩
      obtain ⟨f', rfl⟩ := hf
      have HEN := Lib.hid (encF_more f' m hlt)
      have HMF : Hid (m / 128 < 128 ^ (f' + 1)) := Lib.hid (by
        rw [Nat.pow_succ] at hmf
        exact Nat.div_lt_of_lt_mul (by rw [Nat.mul_comm]; exact hmf))
      clear hmf
      have hd1 : decide ((127 : Int) < (m : Int)) = true := decide_eq_true (by omega)
      have h1 := and127 m hm
      have h2 : bits .or .i64 ((m : Int) % 128) 128 = ub (BitVec.ofNat 8 (m % 128 + 128)) := by have := or128 m; rwa [show (((m % 128 : Nat)) : Int) = (m : Int) % 128 from by simp] at this
      have HNEW : Hid (BytesIn (wr.alloc (.cells #[.int .u8 (ub (BitVec.ofNat 8 (m % 128 + 128)))] 5)) (.slice (some ⟨wr.heap.size, 0, none⟩) 1 1) [BitVec.ofNat 8 (m % 128 + 128)]) := Lib.hid (bytes_new wr _ _ 5 _ _ _ 1 rfl rfl (by decide) (by simp) rfl)
      generalize BitVec.ofNat 8 (m % 128 + 128) = y at *
      have hy2 : ub y % 256 = ub y := by have := ub_lo y; have := ub_hi y; omega
      have HOKA : Hid (Ok wr (wr.alloc (.cells #[.int .u8 (ub y)] 5))) := Lib.hid ((Ok.refl wr).alloc _)
      have HOW : Hid (OwnN (wr.alloc (.cells #[.int .u8 (ub y)] 5)) (g + 1) (.slice A L c) (xs ++ pre)) := Lib.hid (World.ownsRow.alloc HWR.out.1.2.1 _)
      have HCG : Hid ((wr.alloc (.cells #[.int .u8 (ub y)] 5)).cell? ⟨g, 0, none⟩ = some (.slice A L c)) := Lib.hid (HOKA.out.cell hc0)
      have HFG : Hid ((wr.alloc (.cells #[.int .u8 (ub y)] 5)).frozen? ⟨g, 0, none⟩ = false) := Lib.hid (by rw [Below.frozen HOKA.out (p := ⟨g, 0, none⟩) hsz]; exact HWR.out.1.2.2.2.2.1)
      go_wp2_with (at_builtin; go_must (refine wpList_app2 rfl (.tmp 19) (.tmp 24) rfl (g + 1) (.slice A L c) (xs ++ pre) [y] (.slice (some ⟨wr.heap.size, 0, none⟩) 1 1) rfl rfl HOW.out HNEW.out (by have := HPL.out; have := HLL.out; simp only [List.length_singleton]; omega) (by rw [World.size_alloc]; omega) ?_; intro A' c' w2 hown2 hbel2 hst2; have HST2 := Lib.hid (fun b (hb : P b) => hst2 b (by rw [World.size_alloc]; have := (HWR.out.2 b hb).2.1; omega) (HWR.out.2 b hb).2.2); clear hst2; have HOWN2 := Lib.hid hown2; have HBEL2 := Lib.hid hbel2; clear hown2 hbel2; rw [HLL.out]; have hcg : w2.cell? ⟨g, 0, none⟩ = some (.slice A L c) := (by rw [HBEL2.out.cell (p := ⟨g, 0, none⟩) (Nat.lt_succ_self g)]; exact HCG.out); have hfg : w2.frozen? ⟨g, 0, none⟩ = false := (by rw [HBEL2.out.frozen (p := ⟨g, 0, none⟩) (Nat.lt_succ_self g)]; exact HFG.out)))
      have HG : Hid (Ws sp P g (w2.setCell ⟨g, 0, none⟩ (.slice A' (L + 1) c')) (.slice A' (L + 1) c') ((xs ++ pre) ++ [y]) ∧ Below g wr (w2.setCell ⟨g, 0, none⟩ (.slice A' (L + 1) c')) ∧ ∀ b, P b → (w2.setCell ⟨g, 0, none⟩ (.slice A' (L + 1) c')).heap[b]? = wr.heap[b]?) := Lib.hid (by
        have h3 := HOWN2.out
        rw [HLL.out] at h3
        have hbb : Below (g + 1) wr w2 := (Below.mono HOKA.out (show g + 1 ≤ wr.heap.size from hsz)).trans HBEL2.out
        exact HWR.out.grow hbb h3 fun b hb => ⟨(HST2.out b hb).1.trans (HOKA.out.block b (HWR.out.2 b hb).2.1), by rw [own_eq _ _ _ ((xs ++ pre).length + [y].length) c']; exact (HST2.out b hb).2⟩)
      refine ⟨⟨m / 128, f', pre ++ [y], by go_num, by omega, HMF.out, ?_, ⟨A', c', ?_⟩, HBE.out.trans HG.out.2.1, fun b hb => (HG.out.2.2 b hb).trans (HKB.out b hb)⟩, by simp [intOf]; omega⟩
      · rw [HPRE.out, HEN.out]; simp
      · have h4 := HG.out.1
        rw [← List.append_assoc, List.length_append, HLL.out]
        exact h4
    · have HEN := Lib.hid (encF_last f m hlt)
      clear hmf
      have hd1 : decide ((127 : Int) < (m : Int)) = false := decide_eq_false (by omega)
      have HY : Hid ((m : Int) = ub (BitVec.ofNat 8 m)) := Lib.hid (by rw [ub, BitVec.toNat_ofNat]; omega)
      have HNEW : Hid (BytesIn (wr.alloc (.cells #[.int .u8 (m : Int)] 5)) (.slice (some ⟨wr.heap.size, 0, none⟩) 1 1) [BitVec.ofNat 8 m]) := Lib.hid (bytes_new wr _ _ 5 _ _ _ 1 rfl rfl (by decide) (by simp) (by simp [HY.out.symm]))
      generalize BitVec.ofNat 8 m = y at *
      have HOKA : Hid (Ok wr (wr.alloc (.cells #[.int .u8 (m : Int)] 5))) := Lib.hid ((Ok.refl wr).alloc _)
      have HOW : Hid (OwnN (wr.alloc (.cells #[.int .u8 (m : Int)] 5)) (g + 1) (.slice A L c) (xs ++ pre)) := Lib.hid (World.ownsRow.alloc HWR.out.1.2.1 _)
      have HCG : Hid ((wr.alloc (.cells #[.int .u8 (m : Int)] 5)).cell? ⟨g, 0, none⟩ = some (.slice A L c)) := Lib.hid (HOKA.out.cell hc0)
      have HFG : Hid ((wr.alloc (.cells #[.int .u8 (m : Int)] 5)).frozen? ⟨g, 0, none⟩ = false) := Lib.hid (by rw [Below.frozen HOKA.out (p := ⟨g, 0, none⟩) hsz]; exact HWR.out.1.2.2.2.2.1)
      go_wp2_with (at_builtin; go_must (refine wpList_app2 rfl (.tmp 34) (.tmp 37) rfl (g + 1) (.slice A L c) (xs ++ pre) [y] (.slice (some ⟨wr.heap.size, 0, none⟩) 1 1) rfl rfl HOW.out HNEW.out (by have := HPL.out; have := HLL.out; simp only [List.length_singleton]; omega) (by rw [World.size_alloc]; omega) ?_; intro A' c' w2 hown2 hbel2 hst2; have HST2 := Lib.hid (fun b (hb : P b) => hst2 b (by rw [World.size_alloc]; have := (HWR.out.2 b hb).2.1; omega) (HWR.out.2 b hb).2.2); clear hst2; have HOWN2 := Lib.hid hown2; have HBEL2 := Lib.hid hbel2; clear hown2 hbel2; rw [HLL.out]; have hcg : w2.cell? ⟨g, 0, none⟩ = some (.slice A L c) := (by rw [HBEL2.out.cell (p := ⟨g, 0, none⟩) (Nat.lt_succ_self g)]; exact HCG.out); have hfg : w2.frozen? ⟨g, 0, none⟩ = false := (by rw [HBEL2.out.frozen (p := ⟨g, 0, none⟩) (Nat.lt_succ_self g)]; exact HFG.out)))
      have HG : Hid (Ws sp P g (w2.setCell ⟨g, 0, none⟩ (.slice A' (L + 1) c')) (.slice A' (L + 1) c') ((xs ++ pre) ++ [y]) ∧ Below g wr (w2.setCell ⟨g, 0, none⟩ (.slice A' (L + 1) c')) ∧ ∀ b, P b → (w2.setCell ⟨g, 0, none⟩ (.slice A' (L + 1) c')).heap[b]? = wr.heap[b]?) := Lib.hid (by
        have h3 := HOWN2.out
        rw [HLL.out] at h3
        have hbb : Below (g + 1) wr w2 := (Below.mono HOKA.out (show g + 1 ≤ wr.heap.size from hsz)).trans HBEL2.out
        exact HWR.out.grow hbb h3 fun b hb => ⟨(HST2.out b hb).1.trans (HOKA.out.block b (HWR.out.2 b hb).2.1), by rw [own_eq _ _ _ ((xs ++ pre).length + [y].length) c']; exact (HST2.out b hb).2⟩)
      go_end0
      refine ⟨rfl, ⟨A', c', ?_⟩, HBE.out.trans HG.out.2.1, fun b hb => (HG.out.2.2 b hb).trans (HKB.out b hb)⟩
      rw [HPRE.out, HEN.out, ← List.append_assoc, List.length_append, HLL.out]
      exact HG.out.1

set_option maxHeartbeats 400000 in
/-- A number that is none spoils the writer. -/
theorem number_bad (sp : Bool) (P : Nat → Prop) (g : Nat) (v : Value) (xs : List B8) (n : Int) (W : World) (hw : Ws sp P g W v xs) (hn : n < 0 ∨ 4611686018427387903 < n) :
    Calls Tryz.prog 114 #[.pointer (some ⟨g, 0, none⟩), .int .i64 n] W (WsPost true P g W (.tuple #[]) xs) := by
  obtain ⟨A, c, rfl⟩ := hw.form
  have hz := hw.size
  obtain ⟨⟨c0, hown, c1, c2, f0, f1⟩, hb⟩ := hw
  have HG : Hid (WsPost true P g W (.tuple #[]) xs (.returned (.tuple #[])) (W.setCell ⟨g, 1, none⟩ (.bool true))) := Lib.hid (by
    refine ⟨rfl, ⟨A, c, ⟨by go_simp, ?_, by go_simp, by go_simp, by go_simp, by go_simp⟩, fun b k => ⟨(hb b k).1, by simp [World.setCell]; exact (hb b k).2.1, (hb b k).2.2⟩⟩, (Below.refl g W).setCell (Nat.le_refl _) _, fun b k => Below.heap_setCell _ _ _ _ (hb b k).1⟩
    refine World.ownsRow.kept (row := some g) hown ⟨rfl, rfl, rfl, by simp [World.setCell], fun k _ hk => heap_setCell_other W ⟨g, 1, none⟩ k _ (fun e => hk (by simp [e]))⟩ ?_
    rcases hown.2 with ⟨h1, _⟩ | ⟨g', cap', cur, h1, hg', _⟩
    · exact .inl (by rw [h1]; rfl)
    · refine .inr (by rw [h1]; simp [Value.ownBlock]; omega))
  clear hown c2 hb f0 c0
  rcases hn with hn | hn
  · have hd : decide (n < 0) = true := decide_eq_true hn
    go_enter Tryz.func114, Tryz.ntmps114
    go_wp2_with fail
    go_end0
    exact HG.out
  · have hd : decide (n < 0) = false := decide_eq_false (by omega)
    have hd1 : decide ((4611686018427387903 : Int) < n) = true := decide_eq_true hn
    go_enter Tryz.func114, Tryz.ntmps114
    go_wp2_with fail
    go_end0
    exact HG.out
end Go.Proofs.YtdabdkedgigjdaaGreat
namespace Go.Proofs.YtdabdkedgigjdaaGreat
open Go.RowKit
def badN (n : Int) : Bool := decide (n < 0) || decide (4611686018427387903 < n)
def encI (n : Int) : List B8 := if badN n then [] else enc n.toNat
def encsI (l : List Int) : List B8 := (l.map encI).flatten
theorem encI_len (n : Int) : (encI n).length ≤ 10 := by
  unfold encI
  split
  · simp
  · exact enc_len _
theorem encsI_len (l : List Int) : (encsI l).length ≤ 10 * l.length := by
  induction l with
  | nil => simp [encsI]
  | cons a l ih =>
    have := encI_len a
    simp only [encsI, List.map_cons, List.flatten_cons, List.length_append, List.length_cons] at *
    omega
theorem encsI_take (l : List Int) (k : Nat) (h : k < l.length) : encsI (l.take (k + 1)) = encsI (l.take k) ++ encI (l.getD k 0) := by
  rw [List.take_succ_eq_append_getElem h, encsI, encsI, List.map_append, List.flatten_append]
  congr 1
  simp [h]
theorem bad_take (l : List Int) (k : Nat) (h : k < l.length) : (l.take (k + 1)).any badN = ((l.take k).any badN || badN (l.getD k 0)) := by
  rw [List.take_succ_eq_append_getElem h, List.any_append]
  congr 1
  simp [h]
theorem number_any (sp : Bool) (P : Nat → Prop) (g : Nat) (v : Value) (xs : List B8) (n : Int) (W : World) (hw : Ws sp P g W v xs) (hx : xs.length ≤ 140737488350000) :
    Calls Tryz.prog 114 #[.pointer (some ⟨g, 0, none⟩), .int .i64 n] W (WsPost (sp || badN n) P g W (.tuple #[]) (xs ++ encI n)) := by
  by_cases h : badN n = true
  · have h2 : n < 0 ∨ 4611686018427387903 < n := by unfold badN at h; simpa using h
    rw [encI, if_pos h, h, Bool.or_true, List.append_nil]
    exact number_bad sp P g v xs n W hw h2
  · have h1 : badN n = false := by simpa using h
    have h2 : ¬ n < 0 ∧ ¬ 4611686018427387903 < n := by unfold badN at h1; simpa using h1
    obtain ⟨m, rfl⟩ : ∃ m : Nat, n = m := ⟨n.toNat, by omega⟩
    rw [encI, if_neg h, h1, Bool.or_false]
    exact number_s sp P g v xs m W hw (by omega) hx
set_option maxHeartbeats 400000 in
theorem none_s (sp : Bool) (P : Nat → Prop) (g : Nat) (v : Value) (xs : List B8) (W : World) (hw : Ws sp P g W v xs) :
    Calls Tryz.prog 88 #[.pointer (some ⟨g, 0, none⟩)] W fun e w' => e = .returned (.bool false) ∧ W = w' := by
  have hc := hw.1.2.2.2.1
  clear hw
  go_enter Tryz.func88, Tryz.ntmps88
  go_wp2
  go_ret
  exact ⟨rfl, rfl⟩
def Wsx (sp : Bool) (P : Nat → Prop) (g : Nat) (w : World) (xs : List B8) : Prop := ∃ A c, Ws sp P g w (.slice A xs.length c) xs
theorem Wsx.of {sp : Bool} {P : Nat → Prop} {g : Nat} {w : World} {v : Value} {xs : List B8} (h : Ws sp P g w v xs) : Wsx sp P g w xs := by
  obtain ⟨A, c, rfl⟩ := h.form
  exact ⟨A, c, h⟩

set_option maxRecDepth 100000 in
set_option maxHeartbeats 1000000 in
theorem numbers_s (sp : Bool) (P : Nat → Prop) (b : Nat) (hb : P b) (g : Nat) (v : Value) (xs : List B8) (W : World) (hw : Ws sp P g W v xs) (l : List Int) (o n c : Nat) (hn : l.length = n) (hnm : n ≤ 1000000) (hxs : xs.length ≤ 100000000)
    (hcell : ∀ k, k < n → W.cell? ⟨b, o + k, none⟩ = some (.int .i64 (l.getD k 0))) :
    Calls Tryz.prog 86 #[.pointer (some ⟨g, 0, none⟩), .slice (some ⟨b, o, none⟩) n c] W (WsPost (sp || l.any badN) P g W (.pointer (some ⟨g, 0, none⟩)) (xs ++ encsI l)) := by
  have HW := Lib.hid hw
  have HC := Lib.hid hcell
  have HN := Lib.hid hn
  clear hw hcell hn
  go_enter Tryz.func86, Tryz.ntmps86
  go_wp2_with fail
  refine (none_s sp P g v xs _ HW.out).mono ?_
  rintro e w1 ⟨rfl, rfl⟩
  go_wp2_with fail
  go_loopw [12] (fun i wr => ∃ k : Nat, k ≤ n ∧ i = .int .i64 k ∧ Wsx (sp || (l.take k).any badN) P g wr (xs ++ encsI (l.take k)) ∧ Below g W wr ∧ ∀ b, P b → wr.heap[b]? = W.heap[b]?) (fun i _ => n - (intOf i).toNat)
  case atStart => exact ⟨0, Nat.zero_le _, rfl, by simpa [encsI] using Wsx.of HW.out, Below.refl _ _, fun _ _ => rfl⟩
  case round =>
    obtain ⟨k, hk, rfl, ⟨A', c', hwr⟩, hbe, hkb⟩ := hrel
    by_cases hlt : k < n
    · have hc' : wr.cell? ⟨b, o + k, none⟩ = some (.int .i64 (l.getD k 0)) := by
        rw [World.cell?_of_block (a := ⟨b, o + k, none⟩) (hkb b hb)]; exact HC.out k hlt
      have HE := Lib.hid (encsI_take l k (by rw [HN.out]; exact hlt))
      have HBD := Lib.hid (bad_take l k (by rw [HN.out]; exact hlt))
      have HL : Hid ((encsI (l.take k)).length ≤ 10 * k) := Lib.hid (by have := encsI_len (l.take k); rw [List.length_take] at this; omega)
      have HWR := Lib.hid hwr
      have HBE := Lib.hid hbe
      have HKB := Lib.hid hkb
      clear hwr hbe hkb
      generalize l.getD k 0 = m at *
      go_wp2_with fail
      refine (number_any _ P g _ (xs ++ encsI (l.take k)) m _ HWR.out (by have := HL.out; rw [List.length_append]; omega)).mono ?_
      rintro e w2 ⟨rfl, hwx, hb2, hk2⟩
      have HWX := Lib.hid hwx
      have HB2 := Lib.hid (And.intro hb2 hk2)
      clear hwx hb2 hk2
      go_wp2_with fail
      go_roundw
      case rel => exact ⟨k + 1, by omega, by go_num, by rw [HE.out, HBD.out, ← List.append_assoc, ← Bool.or_assoc]; exact HWX.out, HBE.out.trans HB2.out.1, fun b hb => (HB2.out.2 b hb).trans (HKB.out b hb)⟩
      case measure => simp [intOf]; omega
    · have hke : k = n := by omega
      subst hke
      have HWR : Hid (Wsx (sp || l.any badN) P g wr (xs ++ encsI l)) := Lib.hid (by
        have := (⟨A', c', hwr⟩ : Wsx (sp || (l.take k).any badN) P g wr (xs ++ encsI (l.take k)))
        rwa [List.take_of_length_le (by rw [HN.out]; exact Nat.le_refl _)] at this)
      have HBE := Lib.hid (And.intro hbe hkb)
      clear hwr hbe hkb
      go_wp2_with fail
      go_ret
      exact ⟨rfl, HWR.out, HBE.out.1, HBE.out.2⟩
end Go.Proofs.YtdabdkedgigjdaaGreat
namespace Go.Proofs.YtdabdkedgigjdaaGreat
open Go.RowKit
theorem own_not {w : World} {b B n : Nat} {v : Value} {xs : List Value} (h : (v = .slice none 0 0 ∧ n = 0) ∨ ∃ g cap cur, v = .slice (some ⟨g, 0, none⟩) n cap ∧ B ≤ g ∧ w.heap[g]? = some (.cells cur 5 (0, 0)) ∧ n ≤ cap ∧ cap ≤ maxLen ∧ cur.size = cap * 1 ∧ cur.toList.take (n * 1) = xs) (hty : ∀ cs fz, w.heap[b]? ≠ some (.cells cs 5 fz)) : v.ownBlock ≠ some b := by
  rcases h with ⟨rfl, _⟩ | ⟨g, cap, cur, rfl, _, h8, _⟩
  · intro e; cases e
  · intro e
    have e2 : g = b := by simpa [Value.ownBlock] using e
    subst e2
    exact hty _ _ h8
set_option maxRecDepth 100000 in
set_option maxHeartbeats 1000000 in
theorem text_s (sp : Bool) (P : Nat → Prop) (g : Nat) (v : Value) (xs : List B8) (s : ByteArray) (W : World) (hw : Ws sp P g W v xs) (hty : ∀ b, P b → ∀ cs fz, W.heap[b]? ≠ some (.cells cs 5 fz)) (hs : s.size ≤ 1000000000) (hx : xs.length ≤ 140000000000000) :
    Calls Tryz.prog 115 #[.pointer (some ⟨g, 0, none⟩), .string s] W (WsPost sp P g W (.tuple #[]) (xs ++ enc s.size ++ ofStr s)) := by
  have HW := Lib.hid hw
  have HTY := Lib.hid hty
  clear hw hty
  obtain ⟨i0, hi, hz0, hz1, hz2⟩ := info_parts info5
  have HI := Lib.hid hi
  have HZ0 := Lib.hid hz0
  have HZ1 := Lib.hid hz1
  have HZ2 := Lib.hid hz2
  clear hi hz0 hz1 hz2
  have HEL := Lib.hid (enc_len s.size)
  have HSL := Lib.hid (ofStr_len s)
  have HSC := Lib.hid (ofStr_cells s)
  have HN : Hid (s.size = s.size) := Lib.hid rfl
  go_enter Tryz.func115, Tryz.ntmps115
  go_wp2_with fail
  refine (number_s sp P g v xs s.size _ HW.out (by omega) (by omega)).mono ?_
  rintro e w1 ⟨rfl, ⟨A, c, hw1⟩, hb1, hk1⟩
  have hc0 := hw1.1.1
  have hf0 := hw1.1.2.2.2.2.1
  have hsz := hw1.size
  have HW1 := Lib.hid hw1
  have HB1 := Lib.hid hb1
  have HK1 := Lib.hid hk1
  clear hk1
  clear hw1 hb1
  generalize hL : (xs ++ enc s.size).length = L at *
  have HL := Lib.hid hL
  have HLL : Hid (L ≤ 140000000000010) := Lib.hid (by rw [← hL, List.length_append]; have := HEL.out; omega)
  clear hL
  go_wp2_with (at_builtin; go_must (refine Lib.wpList_append_own_string _ rfl (.tmp 12) (.tmp 13) 49 9 rfl (g + 1) 5 i0 Tryz.underlying49 Tryz.underlying9 HI.out HZ0.out HZ1.out HZ2.out (.slice A L c) L ((xs ++ enc s.size).map bv) rfl (by have := HW1.out.1.2.1; unfold OwnN at this; rwa [HL.out] at this) s rfl (by unfold maxLen; have := HN.out; have := HLL.out; omega) (by have := HN.out; have := HLL.out; omega) (by omega) ?_; intro v' w2 h2 h3 _; have HG2 := Lib.hid h3; have HOW2 := Lib.hid h2; have HST : Hid (∀ b, P b → w2.heap[b]? = w1.heap[b]? ∧ v'.ownBlock ≠ some b) := Lib.hid (fun b hb => ⟨h3.block b (HW1.out.2 b hb).2.1 (fun e => (HW1.out.2 b hb).2.2 e.symm), fun e => own_not h2.2 (fun cs fz e2 => HTY.out b hb cs fz (by rw [← HK1.out b hb, ← h3.block b (HW1.out.2 b hb).2.1 (fun e => (HW1.out.2 b hb).2.2 e.symm)]; exact e2)) e⟩); clear h2 h3; obtain ⟨A', c', hv'⟩ : ∃ A' c', v' = .slice A' (L + s.size) c' := (by have h2 := HOW2.out; rcases h2.2 with ⟨rfl, h5⟩ | ⟨g', cap', cur, rfl, _⟩; exact ⟨none, 0, by rw [show L + s.size = 0 by omega]⟩; exact ⟨_, _, rfl⟩); subst hv'; have hcg : w2.cell? ⟨g, 0, none⟩ = some (.slice A L c) := (by have hb := (Below.refl (g + 1) w1).grown HG2.out (by omega) (fun k hk => (World.ownsRow.lt HW1.out.1.2.1 k hk).1); rw [hb.cell (p := ⟨g, 0, none⟩) (Nat.lt_succ_self g)]; exact HW1.out.1.1); have hfg : w2.frozen? ⟨g, 0, none⟩ = false := (by have hb := (Below.refl (g + 1) w1).grown HG2.out (by omega) (fun k hk => (World.ownsRow.lt HW1.out.1.2.1 k hk).1); rw [hb.frozen (p := ⟨g, 0, none⟩) (Nat.lt_succ_self g)]; exact HW1.out.1.2.2.2.2.1); clear hc0 hf0))
  have HG : Hid (Ws sp P g (w2.setCell ⟨g, 0, none⟩ (.slice A' (L + s.size) c')) (.slice A' (L + s.size) c') ((xs ++ enc s.size) ++ ofStr s) ∧ Below g w1 (w2.setCell ⟨g, 0, none⟩ (.slice A' (L + s.size) c')) ∧ ∀ b, P b → (w2.setCell ⟨g, 0, none⟩ (.slice A' (L + s.size) c')).heap[b]? = w1.heap[b]?) := Lib.hid (by
    have hb := (Below.refl (g + 1) w1).grown HG2.out (by omega) (fun k hk => (World.ownsRow.lt HW1.out.1.2.1 k hk).1)
    refine HW1.out.grow hb ?_ HST.out
    unfold OwnN
    rw [List.map_append, HSC.out, List.length_append, HL.out, HSL.out]
    exact HOW2.out)
  go_end0
  refine ⟨rfl, ⟨A', c', ?_⟩, HB1.out.trans HG.out.2.1, fun b hb => (HG.out.2.2 b hb).trans (HK1.out b hb)⟩
  rw [List.length_append, HL.out, HSL.out]
  exact HG.out.1
end Go.Proofs.YtdabdkedgigjdaaGreat
namespace Go.Proofs.YtdabdkedgigjdaaGreat
open Go.RowKit
def encT (s : ByteArray) : List B8 := enc s.size ++ ofStr s
def encsT (l : List ByteArray) : List B8 := (l.map encT).flatten
theorem encT_len (s : ByteArray) : (encT s).length ≤ 10 + s.size := by
  have := enc_len s.size
  unfold encT
  rw [List.length_append, ofStr_len]
  omega
theorem encsT_take (l : List ByteArray) (k : Nat) (h : k < l.length) : encsT (l.take (k + 1)) = encsT (l.take k) ++ encT (l.getD k ⟨#[]⟩) := by
  rw [List.take_succ_eq_append_getElem h, encsT, encsT, List.map_append, List.flatten_append]
  congr 1
  simp [h]
theorem encsT_len (l : List ByteArray) (M : Nat) (h : ∀ s ∈ l, s.size ≤ M) : (encsT l).length ≤ (10 + M) * l.length := by
  induction l with
  | nil => simp [encsT]
  | cons a l ih =>
    have h1 := encT_len a
    have h2 := h a (List.mem_cons_self ..)
    have h3 := ih (fun s hs => h s (List.mem_cons_of_mem _ hs))
    simp only [encsT, List.map_cons, List.flatten_cons, List.length_append, List.length_cons] at *
    rw [Nat.mul_succ]
    omega

set_option maxRecDepth 100000 in
set_option maxHeartbeats 1000000 in
theorem texts_s (sp : Bool) (P : Nat → Prop) (b : Nat) (hb : P b) (g : Nat) (v : Value) (xs : List B8) (W : World) (hw : Ws sp P g W v xs) (hty : ∀ b, P b → ∀ cs fz, W.heap[b]? ≠ some (.cells cs 5 fz)) (l : List ByteArray) (o n c : Nat) (hn : l.length = n) (hnm : n ≤ 10) (hxs : xs.length ≤ 100000000)
    (hsz : ∀ s ∈ l, s.size ≤ 1000000000) (hcell : ∀ k, k < n → W.cell? ⟨b, o + k, none⟩ = some (.string (l.getD k ⟨#[]⟩))) :
    Calls Tryz.prog 87 #[.pointer (some ⟨g, 0, none⟩), .slice (some ⟨b, o, none⟩) n c] W (WsPost sp P g W (.pointer (some ⟨g, 0, none⟩)) (xs ++ encsT l)) := by
  have HW := Lib.hid hw
  have HC := Lib.hid hcell
  have HN := Lib.hid hn
  have HTY := Lib.hid hty
  have HSZ := Lib.hid hsz
  clear hw hcell hn hty hsz
  go_enter Tryz.func87, Tryz.ntmps87
  go_wp2_with fail
  refine (none_s sp P g v xs _ HW.out).mono ?_
  rintro e w1 ⟨rfl, rfl⟩
  go_wp2_with fail
  go_loopw [12] (fun i wr => ∃ k : Nat, k ≤ n ∧ i = .int .i64 k ∧ Wsx sp P g wr (xs ++ encsT (l.take k)) ∧ Below g W wr ∧ ∀ b, P b → wr.heap[b]? = W.heap[b]?) (fun i _ => n - (intOf i).toNat)
  case atStart => exact ⟨0, Nat.zero_le _, rfl, by simpa [encsT] using Wsx.of HW.out, Below.refl _ _, fun _ _ => rfl⟩
  case round =>
    obtain ⟨k, hk, rfl, ⟨A', c', hwr⟩, hbe, hkb⟩ := hrel
    by_cases hlt : k < n
    · have hc' : wr.cell? ⟨b, o + k, none⟩ = some (.string (l.getD k ⟨#[]⟩)) := by
        rw [World.cell?_of_block (a := ⟨b, o + k, none⟩) (hkb b hb)]; exact HC.out k hlt
      have HE := Lib.hid (encsT_take l k (by rw [HN.out]; exact hlt))
      have HL : Hid ((encsT (l.take k)).length ≤ 10000000100) := Lib.hid (by
        have h1 := encsT_len (l.take k) 1000000000 (fun s hs => HSZ.out s (List.mem_of_mem_take hs))
        rw [List.length_take] at h1
        have h2 : min k l.length ≤ 10 := by omega
        have h3 := Nat.mul_le_mul_left (10 + 1000000000) h2
        omega)
      have HM : Hid ((l.getD k ⟨#[]⟩).size ≤ 1000000000) := Lib.hid (HSZ.out _ (by
        have h1 : k < l.length := by rw [HN.out]; exact hlt
        simp [h1]))
      have HWR := Lib.hid hwr
      have HBE := Lib.hid hbe
      have HKB := Lib.hid hkb
      clear hwr hbe hkb
      generalize l.getD k ⟨#[]⟩ = m at *
      go_wp2_with fail
      refine (text_s sp P g _ (xs ++ encsT (l.take k)) m _ HWR.out (fun b hb cs fz => by rw [HKB.out b hb]; exact HTY.out b hb cs fz) HM.out (by have := HL.out; rw [List.length_append]; omega)).mono ?_
      rintro e w2 ⟨rfl, hwx, hb2, hk2⟩
      have HWX := Lib.hid hwx
      have HB2 := Lib.hid (And.intro hb2 hk2)
      clear hwx hb2 hk2
      go_wp2_with fail
      go_roundw
      case rel => exact ⟨k + 1, by omega, by go_num, by rw [HE.out, encT, ← List.append_assoc, ← List.append_assoc]; exact HWX.out, HBE.out.trans HB2.out.1, fun b hb => (HB2.out.2 b hb).trans (HKB.out b hb)⟩
      case measure => simp [intOf]; omega
    · have hke : k = n := by omega
      subst hke
      have HWR : Hid (Wsx sp P g wr (xs ++ encsT l)) := Lib.hid (by
        have := (⟨A', c', hwr⟩ : Wsx sp P g wr (xs ++ encsT (l.take k)))
        rwa [List.take_of_length_le (by rw [HN.out]; exact Nat.le_refl _)] at this)
      have HBE := Lib.hid (And.intro hbe hkb)
      clear hwr hbe hkb
      go_wp2_with fail
      go_ret
      exact ⟨rfl, HWR.out, HBE.out.1, HBE.out.2⟩
/-- The same writer, seen beside a block that was laid since. -/
theorem Ws.fresh {sp : Bool} {P P' : Nat → Prop} {g : Nat} {w w' : World} {v : Value} {xs : List B8} (h : Ws sp P g w v xs) (k : Ok w w') (hP : ∀ b, P' b → (P b ∨ w.heap.size ≤ b) ∧ b < w'.heap.size) : Ws sp P' g w' v xs := by
  have hz := h.size
  obtain ⟨⟨c0, hown, c1, c2, f0, f1⟩, hold⟩ := h
  refine ⟨⟨k.cell c0, ?_, k.cell c1, k.cell c2, by rw [Below.frozen k (p := ⟨g, 0, none⟩) hz]; exact f0, by rw [Below.frozen k (p := ⟨g, 1, none⟩) hz]; exact f1⟩, fun b hb => ⟨?_, (hP b hb).2, ?_⟩⟩
  · unfold OwnN World.ownsRow at hown ⊢
    rcases hown with ⟨h3, h4 | ⟨gg, cap, cur, h4, h5, h6, h7⟩⟩
    · exact ⟨h3, .inl h4⟩
    · have hlt : gg < w.heap.size := (Array.getElem?_eq_some_iff.1 h6).1
      exact ⟨h3, .inr ⟨gg, cap, cur, h4, h5, by rw [k.block gg hlt]; exact h6, h7⟩⟩
  · rcases (hP b hb).1 with h1 | h1
    · exact (hold b h1).1
    · omega
  · rcases (hP b hb).1 with h1 | h1
    · exact (hold b h1).2.2
    rcases hown.2 with ⟨rfl, _⟩ | ⟨gg, cap, cur, rfl, _, h6, _⟩
    · intro e; cases e
    · intro e
      have hlt : gg < w.heap.size := (Array.getElem?_eq_some_iff.1 h6).1
      have e2 : gg = b := by simpa [Value.ownBlock] using e
      omega
set_option maxHeartbeats 400000 in
theorem newWriter_s (W : World) :
    Calls Tryz.prog 40 #[] W fun e w' => e = .returned (.pointer (some ⟨W.heap.size, 0, none⟩)) ∧ (∀ P : Nat → Prop, (∀ b, P b → b ≠ W.heap.size ∧ b < w'.heap.size) → Ws false P W.heap.size w' (.slice none 0 0) []) ∧ Ok W w' ∧ w'.heap.size = W.heap.size + 1 := by
  have HF : Hid (∀ P : Nat → Prop, (∀ b, P b → b ≠ W.heap.size ∧ b < (W.alloc (.cells #[.slice none 0 0, .bool false, .bool true] 123)).heap.size) → Ws false P W.heap.size (W.alloc (.cells #[.slice none 0 0, .bool false, .bool true] 123)) (.slice none 0 0) []) := Lib.hid (fun P h1 => by
    refine ⟨⟨?_, World.ownsRow_nil _ _ _ _, ?_, ?_, World.frozen?_alloc_at _ _ _ _ rfl, World.frozen?_alloc_at _ _ _ _ rfl⟩, fun b hb => ⟨(h1 b hb).1, (h1 b hb).2, by intro e; cases e⟩⟩ <;> (rw [World.cell?_alloc_at _ _ _ _ rfl]; rfl))
  go_enter Tryz.func40, Tryz.ntmps40
  go_wp2
  go_ret
  exact ⟨rfl, HF.out, (Ok.refl _).alloc _, by simp⟩
end Go.Proofs.YtdabdkedgigjdaaGreat
namespace Go.Proofs.YtdabdkedgigjdaaGreat
open Go.RowKit
theorem Ws.wr {P : Nat → Prop} {g : Nat} {w : World} {v : Value} {xs : List B8} (h : Ws false P g w v xs) : Wr g w v xs := ⟨h.1.1, h.1.2.1, h.1.2.2.1, h.1.2.2.2.1, h.1.2.2.2.2.1⟩
set_option maxHeartbeats 400000 in
theorem done_bad (P : Nat → Prop) (g : Nat) (v : Value) (xs : List B8) (W : World) (hw : Ws true P g W v xs) :
    Calls Tryz.prog 41 #[.pointer (some ⟨g, 0, none⟩)] W fun e w' => e = .returned (.tuple #[.slice none 0 0, .int .i64 2]) ∧ W = w' := by
  have HW := Lib.hid hw
  have h1 := hw.1.2.2.1
  clear hw
  go_enter Tryz.func41, Tryz.ntmps41
  go_wp2_with fail
  refine (none_s true P g v xs _ HW.out).mono ?_
  rintro e w1 ⟨rfl, rfl⟩
  go_wp2_with fail
  go_ret2
  exact ⟨rfl, rfl⟩
/-- The writer, whatever lies beside it. -/
def Wn (sp : Bool) (g : Nat) (w : World) (xs : List B8) : Prop := ∃ A c, Ws sp (fun _ => False) g w (.slice A xs.length c) xs
/-- A block that is none of bytes. -/
def NB (w : World) (b : Nat) : Prop := ∃ cs ty fz, ty ≠ 5 ∧ w.heap[b]? = some (.cells cs ty fz)
/-- What stands behind a call of the writer's. -/
structure Kp (g : Nat) (W w' : World) : Prop where
  below : Below g W w'
  keep : ∀ b, b ≠ g → NB W b → w'.heap[b]? = W.heap[b]?
theorem Wn.ws {sp : Bool} {g : Nat} {w : World} {xs : List B8} (h : Wn sp g w xs) : ∃ A c, Ws sp (fun b => b ≠ g ∧ NB w b) g w (.slice A xs.length c) xs := by
  obtain ⟨A, c, h⟩ := h
  refine ⟨A, c, h.1, fun b hb => ⟨hb.1, ?_, ?_⟩⟩
  · obtain ⟨cs, ty, fz, _, h2⟩ := hb.2
    exact (Array.getElem?_eq_some_iff.1 h2).1
  · refine own_not h.1.2.1.2 fun cs fz e => ?_
    obtain ⟨cs', ty, fz', h1, h2⟩ := hb.2
    rw [h2] at e
    cases e
    exact h1 rfl
theorem Wn.ok {sp : Bool} {g : Nat} {w w' : World} {xs : List B8} (h : Wn sp g w xs) (k : Ok w w') : Wn sp g w' xs := by
  obtain ⟨A, c, h⟩ := h
  exact ⟨A, c, h.fresh k fun b hb => hb.elim⟩
theorem Wn.lt {sp : Bool} {g : Nat} {w : World} {xs : List B8} (h : Wn sp g w xs) : g < w.heap.size := by
  obtain ⟨A, c, h⟩ := h
  exact h.size
def WnPost (sp : Bool) (g : Nat) (W : World) (xs : List B8) (e : Ending) (w' : World) : Prop := e = .returned (.pointer (some ⟨g, 0, none⟩)) ∧ Wn sp g w' xs ∧ Kp g W w'
theorem WnPost.of {sp : Bool} {g : Nat} {W w' : World} {xs : List B8} {e : Ending} (h : WsPost sp (fun b => b ≠ g ∧ NB W b) g W (.pointer (some ⟨g, 0, none⟩)) xs e w') : WnPost sp g W xs e w' := by
  obtain ⟨h1, ⟨A, c, h2⟩, h3, h4⟩ := h
  exact ⟨h1, ⟨A, c, h2.1, fun _ hf => hf.elim⟩, h3, fun b hb hn => h4 b ⟨hb, hn⟩⟩
theorem NB.not5 {w : World} {b : Nat} (h : NB w b) : ∀ cs fz, w.heap[b]? ≠ some (.cells cs 5 fz) := fun cs fz e => by
  obtain ⟨cs', ty, fz', h1, h2⟩ := h
  rw [h2] at e
  cases e
  exact h1 rfl
theorem cell_of_heap {w : World} {b ty : Nat} {cs : Array Value} {fz : Nat × Nat} (h : w.heap[b]? = some (.cells cs ty fz)) (i : Nat) : w.cell? ⟨b, i, none⟩ = cs[i]? := by
  simp [World.cell?, h]
theorem num1_n (sp : Bool) (g : Nat) (xs : List B8) (W : World) (h : Wn sp g W xs) (b : Nat) (hb : b ≠ g) (a0 : Int) (hh : W.heap[b]? = some (.cells #[.int .i64 a0] 3 (0, 0))) (hx : xs.length ≤ 100000000) :
    Calls Tryz.prog 86 #[.pointer (some ⟨g, 0, none⟩), .slice (some ⟨b, 0, none⟩) 1 1] W (WnPost (sp || [a0].any badN) g W (xs ++ encsI [a0])) := by
  obtain ⟨A, c, h⟩ := h.ws
  refine (numbers_s sp _ b ⟨hb, _, _, _, by decide, hh⟩ g _ xs W h [a0] 0 1 1 rfl (by decide) hx ?_).mono fun e w' k => WnPost.of k
  intro k hk
  rw [cell_of_heap hh]
  match k, hk with
  | 0, _ => rfl
theorem num5_n (sp : Bool) (g : Nat) (xs : List B8) (W : World) (h : Wn sp g W xs) (b : Nat) (hb : b ≠ g) (a0 a1 a2 a3 a4 : Int) (hh : W.heap[b]? = some (.cells #[.int .i64 a0, .int .i64 a1, .int .i64 a2, .int .i64 a3, .int .i64 a4] 3 (0, 0))) (hx : xs.length ≤ 100000000) :
    Calls Tryz.prog 86 #[.pointer (some ⟨g, 0, none⟩), .slice (some ⟨b, 0, none⟩) 5 5] W (WnPost (sp || [a0, a1, a2, a3, a4].any badN) g W (xs ++ encsI [a0, a1, a2, a3, a4])) := by
  obtain ⟨A, c, h⟩ := h.ws
  refine (numbers_s sp _ b ⟨hb, _, _, _, by decide, hh⟩ g _ xs W h [a0, a1, a2, a3, a4] 0 5 5 rfl (by decide) hx ?_).mono fun e w' k => WnPost.of k
  intro k hk
  rw [cell_of_heap hh]
  match k, hk with
  | 0, _ => rfl
  | 1, _ => rfl
  | 2, _ => rfl
  | 3, _ => rfl
  | 4, _ => rfl
theorem txt2_n (sp : Bool) (g : Nat) (xs : List B8) (W : World) (h : Wn sp g W xs) (b : Nat) (hb : b ≠ g) (s0 s1 : ByteArray) (hh : W.heap[b]? = some (.cells #[.string s0, .string s1] 9 (0, 0))) (hx : xs.length ≤ 100000000) (h0 : s0.size ≤ 1000000000) (h1 : s1.size ≤ 1000000000) :
    Calls Tryz.prog 87 #[.pointer (some ⟨g, 0, none⟩), .slice (some ⟨b, 0, none⟩) 2 2] W (WnPost sp g W (xs ++ encsT [s0, s1])) := by
  obtain ⟨A, c, h⟩ := h.ws
  refine (texts_s sp _ b ⟨hb, _, _, _, by decide, hh⟩ g _ xs W h (fun b hb => hb.2.not5) [s0, s1] 0 2 2 rfl (by decide) hx ?_ ?_).mono fun e w' k => WnPost.of k
  · intro s hs
    simp only [List.mem_cons, List.not_mem_nil, or_false] at hs
    rcases hs with rfl | rfl <;> assumption
  · intro k hk
    rw [cell_of_heap hh]
    match k, hk with
    | 0, _ => rfl
    | 1, _ => rfl
theorem blk_new {w : World} {n : Nat} {o : Obj} (h : w.heap.size = n) : (w.alloc o).heap[n]? = some o := h ▸ heap_alloc_new w o
theorem blk_old {w : World} {n : Nat} {o o' : Obj} (h : w.heap[n]? = some o) : (w.alloc o').heap[n]? = some o := by
  have hn : n < w.heap.size := (Array.getElem?_eq_some_iff.1 h).1
  rw [((Ok.refl w).alloc o').block n hn]; exact h
theorem blk_drew {w : World} {n : Nat} {o : Obj} (h : w.heap[n]? = some o) : w.drew.heap[n]? = some o := by
  rw [((Ok.refl w).drew).block n (Array.getElem?_eq_some_iff.1 h).1]; exact h
theorem blk_kp {g : Nat} {w w' : World} {n ty : Nat} {cs : Array Value} {fz : Nat × Nat} (k : Kp g w w') (hn : n ≠ g) (ht : ty ≠ 5) (h : w.heap[n]? = some (.cells cs ty fz)) : w'.heap[n]? = some (.cells cs ty fz) :=
  (k.keep n hn ⟨_, _, _, ht, h⟩).trans h
def OkG (g : Nat) (W w' : World) : Prop := Below g W w'
theorem OkG.alloc {g : Nat} {W w' : World} (h : OkG g W w') (hg : g < w'.heap.size) (o : Obj) : OkG g W (w'.alloc o) := Below.alloc h (Nat.le_of_lt hg) o
theorem OkG.drew {g : Nat} {W w' : World} (h : OkG g W w') : OkG g W w'.drew := Below.drew h
theorem OkG.kp {g : Nat} {W w w' : World} (h : OkG g W w) (k : Kp g w w') : OkG g W w' := Below.trans h k.below
end Go.Proofs.YtdabdkedgigjdaaGreat
namespace Go.Proofs.YtdabdkedgigjdaaGreat
open Go.RowKit
def encSc (x : Sc) : List B8 := [] ++ encsI [x.num] ++ encsT [x.sp.lo, x.sp.hi] ++ encsI [x.fr, x.to, x.ep, x.un, x.st]
def badSc (x : Sc) : Bool := false || [x.num].any badN || [x.fr, x.to, x.ep, x.un, x.st].any badN
theorem encSc_len1 (n : Int) : ([] ++ encsI [n]).length ≤ 1000 := by
  have := encsI_len [n]
  simp only [List.nil_append, List.length_cons, List.length_nil] at *
  omega
theorem encSc_len2 (n : Int) (lo hi : Str) (h1 : lo.size ≤ 1000) (h2 : hi.size ≤ 1000) : ([] ++ encsI [n] ++ encsT [lo, hi]).length ≤ 10000 := by
  have a := encSc_len1 n
  have b := encsT_len [lo, hi] 1000 (by intro s hs; simp only [List.mem_cons, List.not_mem_nil, or_false] at hs; rcases hs with rfl | rfl <;> assumption)
  rw [List.length_append]
  simp only [List.length_cons, List.length_nil] at b
  omega
theorem sc_raw {w : World} {p : Nat} {num fr tt ep un st : Int} {lo hi : Str} (h : w.heap[p]? = some (.cells #[.int .i64 num, .string lo, .string hi, .int .i64 fr, .int .i64 tt, .int .i64 ep, .int .i64 un, .int .u8 st] 52 (0, 0))) :
    w.cell? ⟨p, 0, none⟩ = some (.int .i64 num) ∧ w.cell? ⟨p, 1, none⟩ = some (.string lo) ∧ w.cell? ⟨p, 2, none⟩ = some (.string hi) ∧ w.cell? ⟨p, 3, none⟩ = some (.int .i64 fr) ∧ w.cell? ⟨p, 4, none⟩ = some (.int .i64 tt) ∧ w.cell? ⟨p, 5, none⟩ = some (.int .i64 ep) ∧ w.cell? ⟨p, 6, none⟩ = some (.int .i64 un) ∧ w.cell? ⟨p, 7, none⟩ = some (.int .u8 st) := by
  refine ⟨?_, ?_, ?_, ?_, ?_, ?_, ?_, ?_⟩ <;> (rw [cell_of_heap h]; rfl)
def ScWP (g : Nat) (W : World) (x : Sc) (e : Ending) (w' : World) : Prop := e = .returned (.pointer (some ⟨g, 0, none⟩)) ∧ Wn (badSc x) g w' (encSc x) ∧ OkG g W w'
set_option maxRecDepth 100000 in
set_option maxHeartbeats 4000000 in
theorem scWrite_w (g : Nat) (W : World) (x : Sc) (h : Wn false g W []) (h1 : x.sp.lo.size ≤ 1000) (h2 : x.sp.hi.size ≤ 1000) (hst : 0 ≤ x.st ∧ x.st ≤ 255) :
    Calls Tryz.prog 39 #[.pointer (some ⟨g, 0, none⟩), scV x] W (ScWP g W x) := by
  obtain ⟨num, ⟨lo, hi⟩, fr, tt, ep, un, st⟩ := x
  unfold ScWP badSc encSc scV
  simp only at h1 h2 hst ⊢
  obtain ⟨s0, s1⟩ := hst
  have hg := h.lt
  have HL1 := Lib.hid (encSc_len1 num)
  have HL2 := Lib.hid (encSc_len2 num lo hi h1 h2)
  obtain ⟨p, hp⟩ : ∃ p, W.heap.size = p := ⟨_, rfl⟩
  have hgp : g < p := by omega
  have HP := Lib.hid (blk_new (o := .cells #[.int .i64 num, .string lo, .string hi, .int .i64 fr, .int .i64 tt, .int .i64 ep, .int .i64 un, .int .u8 st] 52) hp)
  have HB := Lib.hid (OkG.alloc (g := g) (Below.refl g W) hg (.cells #[.int .i64 num, .string lo, .string hi, .int .i64 fr, .int .i64 tt, .int .i64 ep, .int .i64 un, .int .u8 st] 52))
  have HW := Lib.hid (h.ok ((Ok.refl W).alloc (.cells #[.int .i64 num, .string lo, .string hi, .int .i64 fr, .int .i64 tt, .int .i64 ep, .int .i64 un, .int .u8 st] 52)))
  have HSZ : Hid ((W.alloc (.cells #[.int .i64 num, .string lo, .string hi, .int .i64 fr, .int .i64 tt, .int .i64 ep, .int .i64 un, .int .u8 st] 52)).heap.size = p + 1) := Lib.hid (by simp [hp])
  have HWS : Hid (IntKind.i64.wrap st = st) := Lib.hid (IntWalk.i64_in _ (by omega))
  clear h hg
  go_enter Tryz.func39, Tryz.ntmps39
  go_wp2_with fail
  clear hp
  generalize W.alloc (.cells #[.int .i64 num, .string lo, .string hi, .int .i64 fr, .int .i64 tt, .int .i64 ep, .int .i64 un, .int .u8 st] 52) = V at *
  have hgv : g < V.heap.size := by have := HSZ.out; omega
  have hpb := HP.out
  obtain ⟨B0, B1, B2, B3, B4, B5, B6, B7⟩ := sc_raw HP.out
  go_region_held3 (fun w' => w'.cell? ⟨p, 0, none⟩ = some (.int .i64 num) ∧ w'.cell? ⟨p, 1, none⟩ = some (.string lo) ∧ w'.cell? ⟨p, 2, none⟩ = some (.string hi) ∧ w'.cell? ⟨p, 3, none⟩ = some (.int .i64 fr) ∧ w'.cell? ⟨p, 4, none⟩ = some (.int .i64 tt) ∧ w'.cell? ⟨p, 5, none⟩ = some (.int .i64 ep) ∧ w'.cell? ⟨p, 6, none⟩ = some (.int .i64 un) ∧ w'.cell? ⟨p, 7, none⟩ = some (.int .u8 st))
    ((refine sc_raw ?_; (repeat' (first | (with_reducible assumption) | ((with_reducible refine blk_new ?_); (first | rfl | (with_reducible assumption) | (simp; done))) | (with_reducible refine blk_old ?_) | (with_reducible refine blk_drew ?_) | ((with_reducible apply blk_kp (g := g)); (with_reducible assumption); omega; decide)))))
    (first
      | (go_at_call 86; (with_reducible refine (num1_n false g [] _ (HW.out.ok ?_) _ ?_ num ?_ ?_).mono ?_); (focus ((repeat (first | (with_reducible exact Ok.refl _) | (with_reducible refine Ok.drew ?_) | (with_reducible refine Ok.alloc ?_ _))); done)); omega; (focus ((repeat' (first | (with_reducible assumption) | ((with_reducible refine blk_new ?_); (first | rfl | (with_reducible assumption) | (simp; done))) | (with_reducible refine blk_old ?_) | (with_reducible refine blk_drew ?_) | ((with_reducible apply blk_kp (g := g)); (with_reducible assumption); omega; decide))); done)); (focus (simp; done)); rintro e w1 ⟨rfl, hw1, k1⟩; have HW1 := Lib.hid hw1; have z1 := hw1.lt)
      | (go_at_call 87; (with_reducible refine (txt2_n _ g _ _ (HW1.out.ok ?_) _ ?_ lo hi ?_ ?_ ?_ ?_).mono ?_); (focus ((repeat (first | (with_reducible exact Ok.refl _) | (with_reducible refine Ok.drew ?_) | (with_reducible refine Ok.alloc ?_ _))); done)); omega; (focus ((repeat' (first | (with_reducible assumption) | ((with_reducible refine blk_new ?_); (first | rfl | (with_reducible assumption) | (simp; done))) | (with_reducible refine blk_old ?_) | (with_reducible refine blk_drew ?_) | ((with_reducible apply blk_kp (g := g)); (with_reducible assumption); omega; decide))); done)); (have := HL1.out; omega); omega; omega; rintro e w2 ⟨rfl, hw2, k2⟩; have HW2 := Lib.hid hw2; have z2 := hw2.lt)
      | (go_at_call 86; (with_reducible refine (num5_n _ g _ _ (HW2.out.ok ?_) _ ?_ fr tt ep un (IntKind.i64.wrap st) ?_ ?_).mono ?_); (focus ((repeat (first | (with_reducible exact Ok.refl _) | (with_reducible refine Ok.drew ?_) | (with_reducible refine Ok.alloc ?_ _))); done)); omega; (focus ((repeat' (first | (with_reducible assumption) | ((with_reducible refine blk_new ?_); (first | rfl | (with_reducible assumption) | (simp; done))) | (with_reducible refine blk_old ?_) | (with_reducible refine blk_drew ?_) | ((with_reducible apply blk_kp (g := g)); (with_reducible assumption); omega; decide))); done)); (have := HL2.out; omega); rintro e w3 ⟨rfl, hw3, k3⟩; rw [HWS.out] at hw3; have HW3 := Lib.hid hw3))
  all_goals
    go_wp2_with fail
    go_ret
    refine ⟨rfl, HW3.out, ?_⟩
    have hb := HB.out
    repeat (first | (with_reducible exact hb) | (with_reducible refine OkG.kp ?_ (by assumption)) | (with_reducible refine OkG.alloc ?_ (by first | omega | (simp; omega)) _) | (with_reducible refine OkG.drew ?_))
end Go.Proofs.YtdabdkedgigjdaaGreat
