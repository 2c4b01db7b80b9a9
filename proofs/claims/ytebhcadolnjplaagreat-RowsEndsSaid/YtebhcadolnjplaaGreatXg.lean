/- The writer's calls, spoilt or not. -/
import Derived.Test.YtebhcadolnjplaaGreatXf
import Derived.Lib.AppendStr
namespace Go.Proofs.YtebhcadolnjplaaGreat
open Go.RowKit

/-- A text's bytes. -/
def ofStr (s : ByteArray) : List B8 := s.data.toList.map fun b => BitVec.ofNat 8 b.toNat
theorem ofStr_len (s : ByteArray) : (ofStr s).length = s.size := by simp [ofStr]
theorem ofStr_cells (s : ByteArray) : (ofStr s).map bv = Lib.strCells s := by
  unfold ofStr Lib.strCells
  rw [List.map_map]
  apply List.map_congr_left
  intro b _
  have := b.toNat_lt
  simp only [Function.comp, bv, ub, BitVec.toNat_ofNat]
  rw [Nat.mod_eq_of_lt (by simpa using this)]

set_option maxRecDepth 100000 in
set_option maxHeartbeats 1000000 in
theorem text_w (g : Nat) (v : Value) (xs : List B8) (s : ByteArray) (W : World) (hw : Wr g W v xs) (hs : s.size ≤ 1000000000) (hx : xs.length ≤ 140000000000000) :
    Calls Tryz.prog 130 #[.pointer (some ⟨g, 0, none⟩), .string s] W (WrPost g W (.tuple #[]) (xs ++ enc s.size ++ ofStr s)) := by
  have HW := Lib.hid hw
  clear hw
  obtain ⟨i0, hi, hz0, hz1, hz2⟩ := info_parts info5
  have HI := Lib.hid hi
  have HZ0 := Lib.hid hz0
  have HZ1 := Lib.hid hz1
  have HZ2 := Lib.hid hz2
  clear hi hz0 hz1 hz2
  have HEL := Lib.hid (enc_len s.size)
  have HSL := Lib.hid (ofStr_len s)
  have HSC := Lib.hid (ofStr_cells s)
  have HN : Hid (s.size = s.size) := Lib.hid rfl
  go_enter Tryz.func130, Tryz.ntmps130
  go_wp2_with fail
  refine (number_w g v xs s.size _ HW.out (by omega) (by omega)).mono ?_
  rintro e w1 ⟨rfl, ⟨A, c, hw1⟩, hb1⟩
  have hc0 := hw1.1
  have hf0 := hw1.2.2.2.2
  have hsz := hw1.size
  have HW1 := Lib.hid hw1
  have HB1 := Lib.hid hb1
  clear hw1 hb1
  generalize hL : (xs ++ enc s.size).length = L at *
  have HL := Lib.hid hL
  have HLL : Hid (L ≤ 140000000000010) := Lib.hid (by rw [← hL, List.length_append]; have := HEL.out; omega)
  clear hL
  go_wp2_with (at_builtin; go_must (refine Lib.wpList_append_own_string _ rfl (.tmp 12) (.tmp 13) 50 9 rfl (g + 1) 5 i0 Tryz.underlying50 Tryz.underlying9 HI.out HZ0.out HZ1.out HZ2.out (.slice A L c) L ((xs ++ enc s.size).map bv) rfl (by have := HW1.out.2.1; unfold OwnN at this; rwa [HL.out] at this) s rfl (by unfold maxLen; have := HN.out; have := HLL.out; omega) (by have := HN.out; have := HLL.out; omega) (by omega) ?_; intro v' w2 h2 h3 _; have HG2 := Lib.hid h3; have HOW2 := Lib.hid h2; clear h2 h3; obtain ⟨A', c', hv'⟩ : ∃ A' c', v' = .slice A' (L + s.size) c' := (by have h2 := HOW2.out; rcases h2.2 with ⟨rfl, h5⟩ | ⟨g', cap', cur, rfl, _⟩; exact ⟨none, 0, by rw [show L + s.size = 0 by omega]⟩; exact ⟨_, _, rfl⟩); subst hv'; have hcg : w2.cell? ⟨g, 0, none⟩ = some (.slice A L c) := (by have hb := (Below.refl (g + 1) w1).grown HG2.out (by omega) (fun k hk => (World.ownsRow.lt HW1.out.2.1 k hk).1); rw [hb.cell (p := ⟨g, 0, none⟩) (Nat.lt_succ_self g)]; exact HW1.out.1); have hfg : w2.frozen? ⟨g, 0, none⟩ = false := (by have hb := (Below.refl (g + 1) w1).grown HG2.out (by omega) (fun k hk => (World.ownsRow.lt HW1.out.2.1 k hk).1); rw [hb.frozen (p := ⟨g, 0, none⟩) (Nat.lt_succ_self g)]; exact HW1.out.2.2.2.2); clear hc0 hf0))
  have HG : Hid (Wr g (w2.setCell ⟨g, 0, none⟩ (.slice A' (L + s.size) c')) (.slice A' (L + s.size) c') ((xs ++ enc s.size) ++ ofStr s) ∧ Below g w1 (w2.setCell ⟨g, 0, none⟩ (.slice A' (L + s.size) c'))) := Lib.hid (by
    have hb := (Below.refl (g + 1) w1).grown HG2.out (by omega) (fun k hk => (World.ownsRow.lt HW1.out.2.1 k hk).1)
    refine HW1.out.grow hb ?_
    unfold OwnN
    rw [List.map_append, HSC.out, List.length_append, HL.out, HSL.out]
    exact HOW2.out)
  go_end0
  refine ⟨rfl, ⟨A', c', ?_⟩, HB1.out.trans HG.out.2⟩
  rw [List.length_append, HL.out, HSL.out]
  exact HG.out.1
end Go.Proofs.YtebhcadolnjplaaGreat
namespace Go.Proofs.YtebhcadolnjplaaGreat
open Go.RowKit
/-- Bytes appended; and what stays. -/
theorem wpList_app2 {ops : Array Oper} {rest : List Oper} {o : Oper} {a : Act} {w : World} {Q : Exit → Act → World → Prop} (hgd : o.guard = none) (s x : Operand)
    (ho : o.op = .call { callee := .builtin .append, args := #[s, x], argTypes := #[50, 50] })
    (base : Nat) (v : Value) (xs ys : List B8) (vx : Value) (hs : a.eval s = v) (hx : a.eval x = vx) (hown : OwnN w base v xs) (hy : BytesIn w vx ys)
    (hlen : xs.length + ys.length ≤ 140737488351232) (hbase : base ≤ w.heap.size)
    (h : ∀ A c w', OwnN w' base (.slice A (xs.length + ys.length) c) (xs ++ ys) → Below base w w' → (∀ b, b < w.heap.size → v.ownBlock ≠ some b → w'.heap[b]? = w.heap[b]? ∧ (Value.slice A (xs.length + ys.length) c).ownBlock ≠ some b) → wpList Tryz.prog ops Q rest (a.put o.dst (.slice A (xs.length + ys.length) c)) w') : wpList Tryz.prog ops Q (o :: rest) a w := by
  obtain ⟨i0, hi, hz0, hz1, hz2⟩ := info_parts info5
  have hlate : ∀ v' w', w'.ownsRow base 5 1 v' (xs.length + ys.length) (xs.map bv ++ ys.map bv) → w.grownBy w' v.ownBlock → (v'.ownBlock = v.ownBlock ∨ v'.ownBlock = some w.heap.size) → wpList Tryz.prog ops Q rest (a.put o.dst v') w' := by
    intro v' w' h2 h3 h5
    have hst : ∀ b, b < w.heap.size → v.ownBlock ≠ some b → w'.heap[b]? = w.heap[b]? ∧ v'.ownBlock ≠ some b := fun b h6 h7 => ⟨h3.block b h6 (fun e => h7 e.symm), by rcases h5 with h5 | h5 <;> rw [h5]; exact h7; exact fun h => by cases h; omega⟩
    have hb : Below base w w' := (Below.refl base w).grown h3 hbase (fun k hk => (World.ownsRow.lt hown k hk).1)
    have h2' : OwnN w' base v' (xs ++ ys) := by unfold OwnN; rw [List.map_append, List.length_append]; exact h2
    obtain ⟨A, c, rfl⟩ := h2'.form
    rw [List.length_append] at h2' hst ⊢
    exact h A c w' h2' hb hst
  rcases hy with ⟨rfl, A, c, rfl, hA⟩ | ⟨b, off, c, rfl, _, hm, hc⟩
  · cases A with
    | some ad =>
      refine wpList_append_own_at _ hgd s x 50 ho base 5 i0 (.int .u8 0) 1 1 Tryz.underlying50 hi hz0 hz1 hz2 rfl (by decide) _ xs.length (xs.map bv) hs hown ad 0 c [] hx rfl (fun j u hu => by simp at hu) (fun u hu => by simp at hu) (by unfold maxLen; simp at hlen; omega) (by simp at hlen; omega) hbase ?_
      intro v' w' h2 h3 _ h5
      exact hlate v' w' h2 h3 h5
    | none =>
      obtain rfl := hA rfl
      refine wpList_append_own_none hgd s x 50 ho base 5 i0 1 Tryz.underlying50 hi _ xs.length (xs.map bv) hs hown hx ?_
      exact hlate v w (by have := hown; unfold OwnN at this; simpa using this) ⟨rfl, rfl, rfl, Nat.le_refl _, fun _ _ _ => rfl⟩ (.inl rfl)
  · refine wpList_append_own_at _ hgd s x 50 ho base 5 i0 (.int .u8 0) 1 1 Tryz.underlying50 hi hz0 hz1 hz2 rfl (by decide) _ xs.length (xs.map bv) hs hown ⟨b, off, none⟩ ys.length c (ys.map bv) hx (by simp) ?_ ?_ (by unfold maxLen; omega) (by omega) hbase ?_
    · intro j u hu
      have hj : j < ys.length := by
        by_cases hl : j < ys.length
        · exact hl
        · rw [List.getElem?_eq_none (by simp; omega)] at hu; cases hu
      have e : (⟨b, off, none⟩ : Addr).add j = ⟨b, off + j, none⟩ := by unfold Addr.add; split <;> simp_all
      rw [e, hc j hj, ← hu]
      simp [hj, bv]
    · intro u hu
      obtain ⟨y, _, rfl⟩ := List.mem_map.1 hu
      rfl
    · intro v' w' h2 h3 _ h5
      exact hlate v' w' h2 h3 h5
/-- The writer of bytes at block g, spoilt or not; and a block b that it does not touch. -/
def Ws (sp : Bool) (P : Nat → Prop) (g : Nat) (w : World) (v : Value) (xs : List B8) : Prop :=
  (w.cell? ⟨g, 0, none⟩ = some v ∧ OwnN w (g + 1) v xs ∧ w.cell? ⟨g, 1, none⟩ = some (.bool sp) ∧ w.cell? ⟨g, 2, none⟩ = some (.bool true) ∧ w.frozen? ⟨g, 0, none⟩ = false ∧ w.frozen? ⟨g, 1, none⟩ = false) ∧ ∀ b, P b → b ≠ g ∧ b < w.heap.size ∧ v.ownBlock ≠ some b
def WsPost (sp : Bool) (P : Nat → Prop) (g : Nat) (w : World) (res : Value) (ys : List B8) (e : Ending) (w' : World) : Prop :=
  e = .returned res ∧ (∃ A c, Ws sp P g w' (.slice A ys.length c) ys) ∧ Below g w w' ∧ ∀ b, P b → w'.heap[b]? = w.heap[b]?
theorem Ws.form {sp : Bool} {P : Nat → Prop} {g : Nat} {w : World} {v : Value} {xs : List B8} (h : Ws sp P g w v xs) : ∃ A c, v = .slice A xs.length c := h.1.2.1.form
theorem Ws.size {sp : Bool} {P : Nat → Prop} {g : Nat} {w : World} {v : Value} {xs : List B8} (h : Ws sp P g w v xs) : g < w.heap.size := World.block_lt_of_cell? _ _ h.1.1
theorem Ws.grow {sp : Bool} {P : Nat → Prop} {g : Nat} {w w' : World} {v : Value} {xs ys : List B8} {A : Option Addr} {n c : Nat} (h : Ws sp P g w v xs) (hb : Below (g + 1) w w') (ho : OwnN w' (g + 1) (.slice A n c) ys) (hs : ∀ b, P b → w'.heap[b]? = w.heap[b]? ∧ (Value.slice A n c).ownBlock ≠ some b) :
    Ws sp P g (w'.setCell ⟨g, 0, none⟩ (.slice A n c)) (.slice A n c) ys ∧ Below g w (w'.setCell ⟨g, 0, none⟩ (.slice A n c)) ∧ ∀ b, P b → (w'.setCell ⟨g, 0, none⟩ (.slice A n c)).heap[b]? = w.heap[b]? := by
  have c0 : w'.cell? ⟨g, 0, none⟩ = some v := by rw [hb.cell (p := ⟨g, 0, none⟩) (Nat.lt_succ_self g)]; exact h.1.1
  have c1 : w'.cell? ⟨g, 1, none⟩ = some (.bool sp) := by rw [hb.cell (p := ⟨g, 1, none⟩) (Nat.lt_succ_self g)]; exact h.1.2.2.1
  have c2 : w'.cell? ⟨g, 2, none⟩ = some (.bool true) := by rw [hb.cell (p := ⟨g, 2, none⟩) (Nat.lt_succ_self g)]; exact h.1.2.2.2.1
  have f0 : w'.frozen? ⟨g, 0, none⟩ = false := by rw [hb.frozen (p := ⟨g, 0, none⟩) (Nat.lt_succ_self g)]; exact h.1.2.2.2.2.1
  have f1 : w'.frozen? ⟨g, 1, none⟩ = false := by rw [hb.frozen (p := ⟨g, 1, none⟩) (Nat.lt_succ_self g)]; exact h.1.2.2.2.2.2
  have hz : w.heap.size ≤ w'.heap.size := hb.size
  refine ⟨⟨⟨by go_simp, ?_, by go_simp, by go_simp, by go_simp, by go_simp⟩, fun b hb => ⟨(h.2 b hb).1, by simp [World.setCell]; exact Nat.lt_of_lt_of_le (h.2 b hb).2.1 hz, (hs b hb).2⟩⟩, (hb.mono (Nat.le_succ g)).setCell (Nat.le_refl _) _, fun b hb => by rw [Below.heap_setCell _ _ _ _ (h.2 b hb).1]; exact (hs b hb).1⟩
  refine World.ownsRow.kept (row := some g) ho ⟨rfl, rfl, rfl, by simp [World.setCell], fun k _ hk => heap_setCell_other w' ⟨g, 0, none⟩ k _ (fun e => hk (by simp [e]))⟩ ?_
  rcases ho.2 with ⟨h1, _⟩ | ⟨g', cap', cur, h1, hg', _⟩
  · exact .inl (by rw [h1]; rfl)
  · refine .inr (by rw [h1]; simp [Value.ownBlock]; omega)
end Go.Proofs.YtebhcadolnjplaaGreat
namespace Go.Proofs.YtebhcadolnjplaaGreat
open Go.RowKit
theorem own_eq (A : Option Addr) (p q p' q' : Nat) : (Value.slice A p q).ownBlock = (Value.slice A p' q').ownBlock := by cases A <;> rfl
set_option maxRecDepth 100000 in
set_option maxHeartbeats 1000000 in
theorem number_s (sp : Bool) (P : Nat → Prop) (g : Nat) (v : Value) (xs : List B8) (n : Nat) (W : World) (hw : Ws sp P g W v xs) (hn : n ≤ 4611686018427387903) (hx : xs.length ≤ 140737488350000) :
    Calls Tryz.prog 129 #[.pointer (some ⟨g, 0, none⟩), .int .i64 (n : Int)] W (WsPost sp P g W (.tuple #[]) (xs ++ enc n)) := by
  have HW := Lib.hid hw
  have HE : Hid (enc n = [] ++ encF 9 n) := Lib.hid rfl
  have hn0 : decide ((n : Int) < 0) = false := decide_eq_false (by omega)
  have hn1 : decide ((4611686018427387903 : Int) < (n : Int)) = false := decide_eq_false (by omega)
  clear hw
  go_enter Tryz.func129, Tryz.ntmps129
  have HN : Hid (n < 128 ^ 10) := Lib.hid (by omega)
  go_wp2_with fail
  clear hn0 hn1
  go_loopw [1] (fun i wr => ∃ (m f : Nat) (pre : List B8), i = .int .i64 m ∧ m ≤ 4611686018427387903 ∧ m < 128 ^ (f + 1) ∧ enc n = pre ++ encF f m ∧ (∃ A c, Ws sp P g wr (.slice A (xs ++ pre).length c) (xs ++ pre)) ∧ Below g W wr ∧ ∀ b, P b → wr.heap[b]? = W.heap[b]?) (fun i _ => (intOf i).toNat)
  case atStart =>
    obtain ⟨A, c, rfl⟩ := HW.out.form
    exact ⟨n, 9, [], rfl, hn, HN.out, HE.out, ⟨A, c, by simpa using HW.out⟩, Below.refl _ _, fun _ _ => rfl⟩
  case round =>
    obtain ⟨m, f, pre, rfl, hm, hmf, hpre, ⟨A, c, hwr⟩, hbe, hkb⟩ := hrel
    have hL0 : ∃ L, (xs ++ pre).length = L := ⟨_, rfl⟩
    obtain ⟨L, hL⟩ := hL0
    rw [hL] at hwr
    have HLL := Lib.hid hL
    have HPL : Hid ((xs ++ pre).length ≤ 140737488350010) := Lib.hid (by
      have h1 := congrArg List.length hpre
      have h2 := enc_len n
      rw [List.length_append] at h1 ⊢; omega)
    clear hL
    have hc0 := hwr.1.1
    have hsz := hwr.size
    have HWR := Lib.hid hwr
    have HBE := Lib.hid hbe
    have HKB := Lib.hid hkb
    clear hkb
    have HPRE := Lib.hid hpre
    clear hwr hbe hpre
    by_cases hlt : 127 < m
    · have hf : ∃ f', f = f' + 1 := by
        cases f with
        | zero => simp at hmf; omega
        | succ f' => exact ⟨f', rfl⟩
      obtain ⟨f', rfl⟩ := hf
      have HEN := Lib.hid (encF_more f' m hlt)
      have HMF : Hid (m / 128 < 128 ^ (f' + 1)) := Lib.hid (by
        rw [Nat.pow_succ] at hmf
        exact Nat.div_lt_of_lt_mul (by rw [Nat.mul_comm]; exact hmf))
      clear hmf
      have hd1 : decide ((127 : Int) < (m : Int)) = true := decide_eq_true (by omega)
      have h1 := and127 m hm
      have h2 : bits .or .i64 ((m : Int) % 128) 128 = ub (BitVec.ofNat 8 (m % 128 + 128)) := by have := or128 m; rwa [show (((m % 128 : Nat)) : Int) = (m : Int) % 128 from by simp] at this
      have HNEW : Hid (BytesIn (wr.alloc (.cells #[.int .u8 (ub (BitVec.ofNat 8 (m % 128 + 128)))] 5)) (.slice (some ⟨wr.heap.size, 0, none⟩) 1 1) [BitVec.ofNat 8 (m % 128 + 128)]) := Lib.hid (bytes_new wr _ _ 5 _ _ _ 1 rfl rfl (by decide) (by simp) rfl)
      generalize BitVec.ofNat 8 (m % 128 + 128) = y at *
      have hy2 : ub y % 256 = ub y := by have := ub_lo y; have := ub_hi y; omega
      have HOKA : Hid (Ok wr (wr.alloc (.cells #[.int .u8 (ub y)] 5))) := Lib.hid ((Ok.refl wr).alloc _)
      have HOW : Hid (OwnN (wr.alloc (.cells #[.int .u8 (ub y)] 5)) (g + 1) (.slice A L c) (xs ++ pre)) := Lib.hid (World.ownsRow.alloc HWR.out.1.2.1 _)
      have HCG : Hid ((wr.alloc (.cells #[.int .u8 (ub y)] 5)).cell? ⟨g, 0, none⟩ = some (.slice A L c)) := Lib.hid (HOKA.out.cell hc0)
      have HFG : Hid ((wr.alloc (.cells #[.int .u8 (ub y)] 5)).frozen? ⟨g, 0, none⟩ = false) := Lib.hid (by rw [Below.frozen HOKA.out (p := ⟨g, 0, none⟩) hsz]; exact HWR.out.1.2.2.2.2.1)
      go_wp2_with (at_builtin; go_must (refine wpList_app2 rfl (.tmp 19) (.tmp 24) rfl (g + 1) (.slice A L c) (xs ++ pre) [y] (.slice (some ⟨wr.heap.size, 0, none⟩) 1 1) rfl rfl HOW.out HNEW.out (by have := HPL.out; have := HLL.out; simp only [List.length_singleton]; omega) (by rw [World.size_alloc]; omega) ?_; intro A' c' w2 hown2 hbel2 hst2; have HST2 := Lib.hid (fun b (hb : P b) => hst2 b (by rw [World.size_alloc]; have := (HWR.out.2 b hb).2.1; omega) (HWR.out.2 b hb).2.2); clear hst2; have HOWN2 := Lib.hid hown2; have HBEL2 := Lib.hid hbel2; clear hown2 hbel2; rw [HLL.out]; have hcg : w2.cell? ⟨g, 0, none⟩ = some (.slice A L c) := (by rw [HBEL2.out.cell (p := ⟨g, 0, none⟩) (Nat.lt_succ_self g)]; exact HCG.out); have hfg : w2.frozen? ⟨g, 0, none⟩ = false := (by rw [HBEL2.out.frozen (p := ⟨g, 0, none⟩) (Nat.lt_succ_self g)]; exact HFG.out)))
      have HG : Hid (Ws sp P g (w2.setCell ⟨g, 0, none⟩ (.slice A' (L + 1) c')) (.slice A' (L + 1) c') ((xs ++ pre) ++ [y]) ∧ Below g wr (w2.setCell ⟨g, 0, none⟩ (.slice A' (L + 1) c')) ∧ ∀ b, P b → (w2.setCell ⟨g, 0, none⟩ (.slice A' (L + 1) c')).heap[b]? = wr.heap[b]?) := Lib.hid (by
        have h3 := HOWN2.out
        rw [HLL.out] at h3
        have hbb : Below (g + 1) wr w2 := (Below.mono HOKA.out (show g + 1 ≤ wr.heap.size from hsz)).trans HBEL2.out
        exact HWR.out.grow hbb h3 fun b hb => ⟨(HST2.out b hb).1.trans (HOKA.out.block b (HWR.out.2 b hb).2.1), by rw [own_eq _ _ _ ((xs ++ pre).length + [y].length) c']; exact (HST2.out b hb).2⟩)
      refine ⟨⟨m / 128, f', pre ++ [y], by go_num, by omega, HMF.out, ?_, ⟨A', c', ?_⟩, HBE.out.trans HG.out.2.1, fun b hb => (HG.out.2.2 b hb).trans (HKB.out b hb)⟩, by simp [intOf]; omega⟩
      · rw [HPRE.out, HEN.out]; simp
      · have h4 := HG.out.1
        rw [← List.append_assoc, List.length_append, HLL.out]
        exact h4
    · have HEN := Lib.hid (encF_last f m hlt)
      clear hmf
      have hd1 : decide ((127 : Int) < (m : Int)) = false := decide_eq_false (by omega)
      have HY : Hid ((m : Int) = ub (BitVec.ofNat 8 m)) := Lib.hid (by rw [ub, BitVec.toNat_ofNat]; omega)
      have HNEW : Hid (BytesIn (wr.alloc (.cells #[.int .u8 (m : Int)] 5)) (.slice (some ⟨wr.heap.size, 0, none⟩) 1 1) [BitVec.ofNat 8 m]) := Lib.hid (bytes_new wr _ _ 5 _ _ _ 1 rfl rfl (by decide) (by simp) (by simp [HY.out.symm]))
      generalize BitVec.ofNat 8 m = y at *
      have HOKA : Hid (Ok wr (wr.alloc (.cells #[.int .u8 (m : Int)] 5))) := Lib.hid ((Ok.refl wr).alloc _)
      have HOW : Hid (OwnN (wr.alloc (.cells #[.int .u8 (m : Int)] 5)) (g + 1) (.slice A L c) (xs ++ pre)) := Lib.hid (World.ownsRow.alloc HWR.out.1.2.1 _)
      have HCG : Hid ((wr.alloc (.cells #[.int .u8 (m : Int)] 5)).cell? ⟨g, 0, none⟩ = some (.slice A L c)) := Lib.hid (HOKA.out.cell hc0)
      have HFG : Hid ((wr.alloc (.cells #[.int .u8 (m : Int)] 5)).frozen? ⟨g, 0, none⟩ = false) := Lib.hid (by rw [Below.frozen HOKA.out (p := ⟨g, 0, none⟩) hsz]; exact HWR.out.1.2.2.2.2.1)
      go_wp2_with (at_builtin; go_must (refine wpList_app2 rfl (.tmp 34) (.tmp 37) rfl (g + 1) (.slice A L c) (xs ++ pre) [y] (.slice (some ⟨wr.heap.size, 0, none⟩) 1 1) rfl rfl HOW.out HNEW.out (by have := HPL.out; have := HLL.out; simp only [List.length_singleton]; omega) (by rw [World.size_alloc]; omega) ?_; intro A' c' w2 hown2 hbel2 hst2; have HST2 := Lib.hid (fun b (hb : P b) => hst2 b (by rw [World.size_alloc]; have := (HWR.out.2 b hb).2.1; omega) (HWR.out.2 b hb).2.2); clear hst2; have HOWN2 := Lib.hid hown2; have HBEL2 := Lib.hid hbel2; clear hown2 hbel2; rw [HLL.out]; have hcg : w2.cell? ⟨g, 0, none⟩ = some (.slice A L c) := (by rw [HBEL2.out.cell (p := ⟨g, 0, none⟩) (Nat.lt_succ_self g)]; exact HCG.out); have hfg : w2.frozen? ⟨g, 0, none⟩ = false := (by rw [HBEL2.out.frozen (p := ⟨g, 0, none⟩) (Nat.lt_succ_self g)]; exact HFG.out)))
      have HG : Hid (Ws sp P g (w2.setCell ⟨g, 0, none⟩ (.slice A' (L + 1) c')) (.slice A' (L + 1) c') ((xs ++ pre) ++ [y]) ∧ Below g wr (w2.setCell ⟨g, 0, none⟩ (.slice A' (L + 1) c')) ∧ ∀ b, P b → (w2.setCell ⟨g, 0, none⟩ (.slice A' (L + 1) c')).heap[b]? = wr.heap[b]?) := Lib.hid (by
        have h3 := HOWN2.out
        rw [HLL.out] at h3
        have hbb : Below (g + 1) wr w2 := (Below.mono HOKA.out (show g + 1 ≤ wr.heap.size from hsz)).trans HBEL2.out
        exact HWR.out.grow hbb h3 fun b hb => ⟨(HST2.out b hb).1.trans (HOKA.out.block b (HWR.out.2 b hb).2.1), by rw [own_eq _ _ _ ((xs ++ pre).length + [y].length) c']; exact (HST2.out b hb).2⟩)
      go_end0
      refine ⟨rfl, ⟨A', c', ?_⟩, HBE.out.trans HG.out.2.1, fun b hb => (HG.out.2.2 b hb).trans (HKB.out b hb)⟩
      rw [HPRE.out, HEN.out, ← List.append_assoc, List.length_append, HLL.out]
      exact HG.out.1

set_option maxHeartbeats 400000 in
/-- A number that is none spoils the writer. -/
theorem number_bad (sp : Bool) (P : Nat → Prop) (g : Nat) (v : Value) (xs : List B8) (n : Int) (W : World) (hw : Ws sp P g W v xs) (hn : n < 0 ∨ 4611686018427387903 < n) :
    Calls Tryz.prog 129 #[.pointer (some ⟨g, 0, none⟩), .int .i64 n] W (WsPost true P g W (.tuple #[]) xs) := by
  obtain ⟨A, c, rfl⟩ := hw.form
  have hz := hw.size
  obtain ⟨⟨c0, hown, c1, c2, f0, f1⟩, hb⟩ := hw
  have HG : Hid (WsPost true P g W (.tuple #[]) xs (.returned (.tuple #[])) (W.setCell ⟨g, 1, none⟩ (.bool true))) := Lib.hid (by
    refine ⟨rfl, ⟨A, c, ⟨by go_simp, ?_, by go_simp, by go_simp, by go_simp, by go_simp⟩, fun b k => ⟨(hb b k).1, by simp [World.setCell]; exact (hb b k).2.1, (hb b k).2.2⟩⟩, (Below.refl g W).setCell (Nat.le_refl _) _, fun b k => Below.heap_setCell _ _ _ _ (hb b k).1⟩
    refine World.ownsRow.kept (row := some g) hown ⟨rfl, rfl, rfl, by simp [World.setCell], fun k _ hk => heap_setCell_other W ⟨g, 1, none⟩ k _ (fun e => hk (by simp [e]))⟩ ?_
    rcases hown.2 with ⟨h1, _⟩ | ⟨g', cap', cur, h1, hg', _⟩
    · exact .inl (by rw [h1]; rfl)
    · refine .inr (by rw [h1]; simp [Value.ownBlock]; omega))
  clear hown c2 hb f0 c0
  rcases hn with hn | hn
  · have hd : decide (n < 0) = true := decide_eq_true hn
    go_enter Tryz.func129, Tryz.ntmps129
    go_wp2_with fail
    go_end0
    exact HG.out
  · have hd : decide (n < 0) = false := decide_eq_false (by omega)
    have hd1 : decide ((4611686018427387903 : Int) < n) = true := decide_eq_true hn
    go_enter Tryz.func129, Tryz.ntmps129
    go_wp2_with fail
    go_end0
    exact HG.out
end Go.Proofs.YtebhcadolnjplaaGreat
namespace Go.Proofs.YtebhcadolnjplaaGreat
open Go.RowKit
def badN (n : Int) : Bool := decide (n < 0) || decide (4611686018427387903 < n)
def encI (n : Int) : List B8 := if badN n then [] else enc n.toNat
def encsI (l : List Int) : List B8 := (l.map encI).flatten
theorem encI_len (n : Int) : (encI n).length ≤ 10 := by
  unfold encI
  split
  · simp
  · exact enc_len _
theorem encsI_len (l : List Int) : (encsI l).length ≤ 10 * l.length := by
  induction l with
  | nil => simp [encsI]
  | cons a l ih =>
    have := encI_len a
    simp only [encsI, List.map_cons, List.flatten_cons, List.length_append, List.length_cons] at *
    omega
theorem encsI_take (l : List Int) (k : Nat) (h : k < l.length) : encsI (l.take (k + 1)) = encsI (l.take k) ++ encI (l.getD k 0) := by
  rw [List.take_succ_eq_append_getElem h, encsI, encsI, List.map_append, List.flatten_append]
  congr 1
  simp [h]
theorem bad_take (l : List Int) (k : Nat) (h : k < l.length) : (l.take (k + 1)).any badN = ((l.take k).any badN || badN (l.getD k 0)) := by
  rw [List.take_succ_eq_append_getElem h, List.any_append]
  congr 1
  simp [h]
theorem number_any (sp : Bool) (P : Nat → Prop) (g : Nat) (v : Value) (xs : List B8) (n : Int) (W : World) (hw : Ws sp P g W v xs) (hx : xs.length ≤ 140737488350000) :
    Calls Tryz.prog 129 #[.pointer (some ⟨g, 0, none⟩), .int .i64 n] W (WsPost (sp || badN n) P g W (.tuple #[]) (xs ++ encI n)) := by
  by_cases h : badN n = true
  · have h2 : n < 0 ∨ 4611686018427387903 < n := by unfold badN at h; simpa using h
    rw [encI, if_pos h, h, Bool.or_true, List.append_nil]
    exact number_bad sp P g v xs n W hw h2
  · have h1 : badN n = false := by simpa using h
    have h2 : ¬ n < 0 ∧ ¬ 4611686018427387903 < n := by unfold badN at h1; simpa using h1
    obtain ⟨m, rfl⟩ : ∃ m : Nat, n = m := ⟨n.toNat, by omega⟩
    rw [encI, if_neg h, h1, Bool.or_false]
    exact number_s sp P g v xs m W hw (by omega) hx
set_option maxHeartbeats 400000 in
theorem none_s (sp : Bool) (P : Nat → Prop) (g : Nat) (v : Value) (xs : List B8) (W : World) (hw : Ws sp P g W v xs) :
    Calls Tryz.prog 83 #[.pointer (some ⟨g, 0, none⟩)] W fun e w' => e = .returned (.bool false) ∧ W = w' := by
  have hc := hw.1.2.2.2.1
  clear hw
  go_enter Tryz.func83, Tryz.ntmps83
  go_wp2
  go_ret
  exact ⟨rfl, rfl⟩
def Wsx (sp : Bool) (P : Nat → Prop) (g : Nat) (w : World) (xs : List B8) : Prop := ∃ A c, Ws sp P g w (.slice A xs.length c) xs
theorem Wsx.of {sp : Bool} {P : Nat → Prop} {g : Nat} {w : World} {v : Value} {xs : List B8} (h : Ws sp P g w v xs) : Wsx sp P g w xs := by
  obtain ⟨A, c, rfl⟩ := h.form
  exact ⟨A, c, h⟩

set_option maxRecDepth 100000 in
set_option maxHeartbeats 1000000 in
theorem numbers_s (sp : Bool) (P : Nat → Prop) (b : Nat) (hb : P b) (g : Nat) (v : Value) (xs : List B8) (W : World) (hw : Ws sp P g W v xs) (l : List Int) (o n c : Nat) (hn : l.length = n) (hnm : n ≤ 1000000) (hxs : xs.length ≤ 100000000)
    (hcell : ∀ k, k < n → W.cell? ⟨b, o + k, none⟩ = some (.int .i64 (l.getD k 0))) :
    Calls Tryz.prog 81 #[.pointer (some ⟨g, 0, none⟩), .slice (some ⟨b, o, none⟩) n c] W (WsPost (sp || l.any badN) P g W (.pointer (some ⟨g, 0, none⟩)) (xs ++ encsI l)) := by
  have HW := Lib.hid hw
  have HC := Lib.hid hcell
  have HN := Lib.hid hn
  clear hw hcell hn
  go_enter Tryz.func81, Tryz.ntmps81
  go_wp2_with fail
  refine (none_s sp P g v xs _ HW.out).mono ?_
  rintro e w1 ⟨rfl, rfl⟩
  go_wp2_with fail
  go_loopw [12] (fun i wr => ∃ k : Nat, k ≤ n ∧ i = .int .i64 k ∧ Wsx (sp || (l.take k).any badN) P g wr (xs ++ encsI (l.take k)) ∧ Below g W wr ∧ ∀ b, P b → wr.heap[b]? = W.heap[b]?) (fun i _ => n - (intOf i).toNat)
  case atStart => exact ⟨0, Nat.zero_le _, rfl, by simpa [encsI] using Wsx.of HW.out, Below.refl _ _, fun _ _ => rfl⟩
  case round =>
    obtain ⟨k, hk, rfl, ⟨A', c', hwr⟩, hbe, hkb⟩ := hrel
    by_cases hlt : k < n
    · have hc' : wr.cell? ⟨b, o + k, none⟩ = some (.int .i64 (l.getD k 0)) := by
        rw [World.cell?_of_block (a := ⟨b, o + k, none⟩) (hkb b hb)]; exact HC.out k hlt
      have HE := Lib.hid (encsI_take l k (by rw [HN.out]; exact hlt))
      have HBD := Lib.hid (bad_take l k (by rw [HN.out]; exact hlt))
      have HL : Hid ((encsI (l.take k)).length ≤ 10 * k) := Lib.hid (by have := encsI_len (l.take k); rw [List.length_take] at this; omega)
      have HWR := Lib.hid hwr
      have HBE := Lib.hid hbe
      have HKB := Lib.hid hkb
      clear hwr hbe hkb
      generalize l.getD k 0 = m at *
      go_wp2_with fail
      refine (number_any _ P g _ (xs ++ encsI (l.take k)) m _ HWR.out (by have := HL.out; rw [List.length_append]; omega)).mono ?_
      rintro e w2 ⟨rfl, hwx, hb2, hk2⟩
      have HWX := Lib.hid hwx
      have HB2 := Lib.hid (And.intro hb2 hk2)
      clear hwx hb2 hk2
      go_wp2_with fail
      go_roundw
      case rel => exact ⟨k + 1, by omega, by go_num, by rw [HE.out, HBD.out, ← List.append_assoc, ← Bool.or_assoc]; exact HWX.out, HBE.out.trans HB2.out.1, fun b hb => (HB2.out.2 b hb).trans (HKB.out b hb)⟩
      case measure => simp [intOf]; omega
    · have hke : k = n := by omega
      subst hke
      have HWR : Hid (Wsx (sp || l.any badN) P g wr (xs ++ encsI l)) := Lib.hid (by
        have := (⟨A', c', hwr⟩ : Wsx (sp || (l.take k).any badN) P g wr (xs ++ encsI (l.take k)))
        rwa [List.take_of_length_le (by rw [HN.out]; exact Nat.le_refl _)] at this)
      have HBE := Lib.hid (And.intro hbe hkb)
      clear hwr hbe hkb
      go_wp2_with fail
      go_ret
      exact ⟨rfl, HWR.out, HBE.out.1, HBE.out.2⟩
end Go.Proofs.YtebhcadolnjplaaGreat
