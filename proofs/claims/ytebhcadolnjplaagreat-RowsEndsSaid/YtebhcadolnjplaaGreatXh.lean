/- Done, and a handoff written. -/
import Derived.Test.YtebhcadolnjplaaGreatXg
import Derived.Deep.RegionHeld3
namespace Go.Proofs.YtebhcadolnjplaaGreat
open Go.RowKit
theorem own_not {w : World} {b B n : Nat} {v : Value} {xs : List Value} (h : (v = .slice none 0 0 ∧ n = 0) ∨ ∃ g cap cur, v = .slice (some ⟨g, 0, none⟩) n cap ∧ B ≤ g ∧ w.heap[g]? = some (.cells cur 5 (0, 0)) ∧ n ≤ cap ∧ cap ≤ maxLen ∧ cur.size = cap * 1 ∧ cur.toList.take (n * 1) = xs) (hty : ∀ cs fz, w.heap[b]? ≠ some (.cells cs 5 fz)) : v.ownBlock ≠ some b := by
  rcases h with ⟨rfl, _⟩ | ⟨g, cap, cur, rfl, _, h8, _⟩
  · intro e; cases e
  · intro e
    have e2 : g = b := by simpa [Value.ownBlock] using e
    subst e2
    exact hty _ _ h8
set_option maxRecDepth 100000 in
set_option maxHeartbeats 1000000 in
theorem text_s (sp : Bool) (P : Nat → Prop) (g : Nat) (v : Value) (xs : List B8) (s : ByteArray) (W : World) (hw : Ws sp P g W v xs) (hty : ∀ b, P b → ∀ cs fz, W.heap[b]? ≠ some (.cells cs 5 fz)) (hs : s.size ≤ 1000000000) (hx : xs.length ≤ 140000000000000) :
    Calls Tryz.prog 130 #[.pointer (some ⟨g, 0, none⟩), .string s] W (WsPost sp P g W (.tuple #[]) (xs ++ enc s.size ++ ofStr s)) := by
  have HW := Lib.hid hw
  have HTY := Lib.hid hty
  clear hw hty
  obtain ⟨i0, hi, hz0, hz1, hz2⟩ := info_parts info5
  have HI := Lib.hid hi
  have HZ0 := Lib.hid hz0
  have HZ1 := Lib.hid hz1
  have HZ2 := Lib.hid hz2
  clear hi hz0 hz1 hz2
  have HEL := Lib.hid (enc_len s.size)
  have HSL := Lib.hid (ofStr_len s)
  have HSC := Lib.hid (ofStr_cells s)
  have HN : Hid (s.size = s.size) := Lib.hid rfl
  go_enter Tryz.func130, Tryz.ntmps130
  go_wp2_with fail
  refine (number_s sp P g v xs s.size _ HW.out (by omega) (by omega)).mono ?_
  rintro e w1 ⟨rfl, ⟨A, c, hw1⟩, hb1, hk1⟩
  have hc0 := hw1.1.1
  have hf0 := hw1.1.2.2.2.2.1
  have hsz := hw1.size
  have HW1 := Lib.hid hw1
  have HB1 := Lib.hid hb1
  have HK1 := Lib.hid hk1
  clear hk1
  clear hw1 hb1
  generalize hL : (xs ++ enc s.size).length = L at *
  have HL := Lib.hid hL
  have HLL : Hid (L ≤ 140000000000010) := Lib.hid (by rw [← hL, List.length_append]; have := HEL.out; omega)
  clear hL
  go_wp2_with (at_builtin; go_must (refine Lib.wpList_append_own_string _ rfl (.tmp 12) (.tmp 13) 50 9 rfl (g + 1) 5 i0 Tryz.underlying50 Tryz.underlying9 HI.out HZ0.out HZ1.out HZ2.out (.slice A L c) L ((xs ++ enc s.size).map bv) rfl (by have := HW1.out.1.2.1; unfold OwnN at this; rwa [HL.out] at this) s rfl (by unfold maxLen; have := HN.out; have := HLL.out; omega) (by have := HN.out; have := HLL.out; omega) (by omega) ?_; intro v' w2 h2 h3 _; have HG2 := Lib.hid h3; have HOW2 := Lib.hid h2; have HST : Hid (∀ b, P b → w2.heap[b]? = w1.heap[b]? ∧ v'.ownBlock ≠ some b) := Lib.hid (fun b hb => ⟨h3.block b (HW1.out.2 b hb).2.1 (fun e => (HW1.out.2 b hb).2.2 e.symm), fun e => own_not h2.2 (fun cs fz e2 => HTY.out b hb cs fz (by rw [← HK1.out b hb, ← h3.block b (HW1.out.2 b hb).2.1 (fun e => (HW1.out.2 b hb).2.2 e.symm)]; exact e2)) e⟩); clear h2 h3; obtain ⟨A', c', hv'⟩ : ∃ A' c', v' = .slice A' (L + s.size) c' := (by have h2 := HOW2.out; rcases h2.2 with ⟨rfl, h5⟩ | ⟨g', cap', cur, rfl, _⟩; exact ⟨none, 0, by rw [show L + s.size = 0 by omega]⟩; exact ⟨_, _, rfl⟩); subst hv'; have hcg : w2.cell? ⟨g, 0, none⟩ = some (.slice A L c) := (by have hb := (Below.refl (g + 1) w1).grown HG2.out (by omega) (fun k hk => (World.ownsRow.lt HW1.out.1.2.1 k hk).1); rw [hb.cell (p := ⟨g, 0, none⟩) (Nat.lt_succ_self g)]; exact HW1.out.1.1); have hfg : w2.frozen? ⟨g, 0, none⟩ = false := (by have hb := (Below.refl (g + 1) w1).grown HG2.out (by omega) (fun k hk => (World.ownsRow.lt HW1.out.1.2.1 k hk).1); rw [hb.frozen (p := ⟨g, 0, none⟩) (Nat.lt_succ_self g)]; exact HW1.out.1.2.2.2.2.1); clear hc0 hf0))
  have HG : Hid (Ws sp P g (w2.setCell ⟨g, 0, none⟩ (.slice A' (L + s.size) c')) (.slice A' (L + s.size) c') ((xs ++ enc s.size) ++ ofStr s) ∧ Below g w1 (w2.setCell ⟨g, 0, none⟩ (.slice A' (L + s.size) c')) ∧ ∀ b, P b → (w2.setCell ⟨g, 0, none⟩ (.slice A' (L + s.size) c')).heap[b]? = w1.heap[b]?) := Lib.hid (by
    have hb := (Below.refl (g + 1) w1).grown HG2.out (by omega) (fun k hk => (World.ownsRow.lt HW1.out.1.2.1 k hk).1)
    refine HW1.out.grow hb ?_ HST.out
    unfold OwnN
    rw [List.map_append, HSC.out, List.length_append, HL.out, HSL.out]
    exact HOW2.out)
  go_end0
  refine ⟨rfl, ⟨A', c', ?_⟩, HB1.out.trans HG.out.2.1, fun b hb => (HG.out.2.2 b hb).trans (HK1.out b hb)⟩
  rw [List.length_append, HL.out, HSL.out]
  exact HG.out.1
end Go.Proofs.YtebhcadolnjplaaGreat
namespace Go.Proofs.YtebhcadolnjplaaGreat
open Go.RowKit
def encT (s : ByteArray) : List B8 := enc s.size ++ ofStr s
def encsT (l : List ByteArray) : List B8 := (l.map encT).flatten
theorem encT_len (s : ByteArray) : (encT s).length ≤ 10 + s.size := by
  have := enc_len s.size
  unfold encT
  rw [List.length_append, ofStr_len]
  omega
theorem encsT_take (l : List ByteArray) (k : Nat) (h : k < l.length) : encsT (l.take (k + 1)) = encsT (l.take k) ++ encT (l.getD k ⟨#[]⟩) := by
  rw [List.take_succ_eq_append_getElem h, encsT, encsT, List.map_append, List.flatten_append]
  congr 1
  simp [h]
theorem encsT_len (l : List ByteArray) (M : Nat) (h : ∀ s ∈ l, s.size ≤ M) : (encsT l).length ≤ (10 + M) * l.length := by
  induction l with
  | nil => simp [encsT]
  | cons a l ih =>
    have h1 := encT_len a
    have h2 := h a (List.mem_cons_self ..)
    have h3 := ih (fun s hs => h s (List.mem_cons_of_mem _ hs))
    simp only [encsT, List.map_cons, List.flatten_cons, List.length_append, List.length_cons] at *
    rw [Nat.mul_succ]
    omega

set_option maxRecDepth 100000 in
set_option maxHeartbeats 1000000 in
theorem texts_s (sp : Bool) (P : Nat → Prop) (b : Nat) (hb : P b) (g : Nat) (v : Value) (xs : List B8) (W : World) (hw : Ws sp P g W v xs) (hty : ∀ b, P b → ∀ cs fz, W.heap[b]? ≠ some (.cells cs 5 fz)) (l : List ByteArray) (o n c : Nat) (hn : l.length = n) (hnm : n ≤ 10) (hxs : xs.length ≤ 100000000)
    (hsz : ∀ s ∈ l, s.size ≤ 1000000000) (hcell : ∀ k, k < n → W.cell? ⟨b, o + k, none⟩ = some (.string (l.getD k ⟨#[]⟩))) :
    Calls Tryz.prog 82 #[.pointer (some ⟨g, 0, none⟩), .slice (some ⟨b, o, none⟩) n c] W (WsPost sp P g W (.pointer (some ⟨g, 0, none⟩)) (xs ++ encsT l)) := by
  have HW := Lib.hid hw
  have HC := Lib.hid hcell
  have HN := Lib.hid hn
  have HTY := Lib.hid hty
  have HSZ := Lib.hid hsz
  clear hw hcell hn hty hsz
  go_enter Tryz.func82, Tryz.ntmps82
  go_wp2_with fail
  refine (none_s sp P g v xs _ HW.out).mono ?_
  rintro e w1 ⟨rfl, rfl⟩
  go_wp2_with fail
  go_loopw [12] (fun i wr => ∃ k : Nat, k ≤ n ∧ i = .int .i64 k ∧ Wsx sp P g wr (xs ++ encsT (l.take k)) ∧ Below g W wr ∧ ∀ b, P b → wr.heap[b]? = W.heap[b]?) (fun i _ => n - (intOf i).toNat)
  case atStart => exact ⟨0, Nat.zero_le _, rfl, by simpa [encsT] using Wsx.of HW.out, Below.refl _ _, fun _ _ => rfl⟩
  case round =>
    obtain ⟨k, hk, rfl, ⟨A', c', hwr⟩, hbe, hkb⟩ := hrel
    by_cases hlt : k < n
    · have hc' : wr.cell? ⟨b, o + k, none⟩ = some (.string (l.getD k ⟨#[]⟩)) := by
        rw [World.cell?_of_block (a := ⟨b, o + k, none⟩) (hkb b hb)]; exact HC.out k hlt
      have HE := Lib.hid (encsT_take l k (by rw [HN.out]; exact hlt))
      have HL : Hid ((encsT (l.take k)).length ≤ 10000000100) := Lib.hid (by
        have h1 := encsT_len (l.take k) 1000000000 (fun s hs => HSZ.out s (List.mem_of_mem_take hs))
        rw [List.length_take] at h1
        have h2 : min k l.length ≤ 10 := by omega
        have h3 := Nat.mul_le_mul_left (10 + 1000000000) h2
        omega)
      have HM : Hid ((l.getD k ⟨#[]⟩).size ≤ 1000000000) := Lib.hid (HSZ.out _ (by
        have h1 : k < l.length := by rw [HN.out]; exact hlt
        simp [h1]))
      have HWR := Lib.hid hwr
      have HBE := Lib.hid hbe
      have HKB := Lib.hid hkb
      clear hwr hbe hkb
      generalize l.getD k ⟨#[]⟩ = m at *
      go_wp2_with fail
      refine (text_s sp P g _ (xs ++ encsT (l.take k)) m _ HWR.out (fun b hb cs fz => by rw [HKB.out b hb]; exact HTY.out b hb cs fz) HM.out (by have := HL.out; rw [List.length_append]; omega)).mono ?_
      rintro e w2 ⟨rfl, hwx, hb2, hk2⟩
      have HWX := Lib.hid hwx
      have HB2 := Lib.hid (And.intro hb2 hk2)
      clear hwx hb2 hk2
      go_wp2_with fail
      go_roundw
      case rel => exact ⟨k + 1, by omega, by go_num, by rw [HE.out, encT, ← List.append_assoc, ← List.append_assoc]; exact HWX.out, HBE.out.trans HB2.out.1, fun b hb => (HB2.out.2 b hb).trans (HKB.out b hb)⟩
      case measure => simp [intOf]; omega
    · have hke : k = n := by omega
      subst hke
      have HWR : Hid (Wsx sp P g wr (xs ++ encsT l)) := Lib.hid (by
        have := (⟨A', c', hwr⟩ : Wsx sp P g wr (xs ++ encsT (l.take k)))
        rwa [List.take_of_length_le (by rw [HN.out]; exact Nat.le_refl _)] at this)
      have HBE := Lib.hid (And.intro hbe hkb)
      clear hwr hbe hkb
      go_wp2_with fail
      go_ret
      exact ⟨rfl, HWR.out, HBE.out.1, HBE.out.2⟩
/-- The same writer, seen beside a block that was laid since. -/
theorem Ws.fresh {sp : Bool} {P P' : Nat → Prop} {g : Nat} {w w' : World} {v : Value} {xs : List B8} (h : Ws sp P g w v xs) (k : Ok w w') (hP : ∀ b, P' b → (P b ∨ w.heap.size ≤ b) ∧ b < w'.heap.size) : Ws sp P' g w' v xs := by
  have hz := h.size
  obtain ⟨⟨c0, hown, c1, c2, f0, f1⟩, hold⟩ := h
  refine ⟨⟨k.cell c0, ?_, k.cell c1, k.cell c2, by rw [Below.frozen k (p := ⟨g, 0, none⟩) hz]; exact f0, by rw [Below.frozen k (p := ⟨g, 1, none⟩) hz]; exact f1⟩, fun b hb => ⟨?_, (hP b hb).2, ?_⟩⟩
  · unfold OwnN World.ownsRow at hown ⊢
    rcases hown with ⟨h3, h4 | ⟨gg, cap, cur, h4, h5, h6, h7⟩⟩
    · exact ⟨h3, .inl h4⟩
    · have hlt : gg < w.heap.size := (Array.getElem?_eq_some_iff.1 h6).1
      exact ⟨h3, .inr ⟨gg, cap, cur, h4, h5, by rw [k.block gg hlt]; exact h6, h7⟩⟩
  · rcases (hP b hb).1 with h1 | h1
    · exact (hold b h1).1
    · omega
  · rcases (hP b hb).1 with h1 | h1
    · exact (hold b h1).2.2
    rcases hown.2 with ⟨rfl, _⟩ | ⟨gg, cap, cur, rfl, _, h6, _⟩
    · intro e; cases e
    · intro e
      have hlt : gg < w.heap.size := (Array.getElem?_eq_some_iff.1 h6).1
      have e2 : gg = b := by simpa [Value.ownBlock] using e
      omega
set_option maxHeartbeats 400000 in
theorem newWriter_s (W : World) :
    Calls Tryz.prog 37 #[] W fun e w' => e = .returned (.pointer (some ⟨W.heap.size, 0, none⟩)) ∧ (∀ P : Nat → Prop, (∀ b, P b → b ≠ W.heap.size ∧ b < w'.heap.size) → Ws false P W.heap.size w' (.slice none 0 0) []) ∧ Ok W w' ∧ w'.heap.size = W.heap.size + 1 := by
  have HF : Hid (∀ P : Nat → Prop, (∀ b, P b → b ≠ W.heap.size ∧ b < (W.alloc (.cells #[.slice none 0 0, .bool false, .bool true] 144)).heap.size) → Ws false P W.heap.size (W.alloc (.cells #[.slice none 0 0, .bool false, .bool true] 144)) (.slice none 0 0) []) := Lib.hid (fun P h1 => by
    refine ⟨⟨?_, World.ownsRow_nil _ _ _ _, ?_, ?_, World.frozen?_alloc_at _ _ _ _ rfl, World.frozen?_alloc_at _ _ _ _ rfl⟩, fun b hb => ⟨(h1 b hb).1, (h1 b hb).2, by intro e; cases e⟩⟩ <;> (rw [World.cell?_alloc_at _ _ _ _ rfl]; rfl))
  go_enter Tryz.func37, Tryz.ntmps37
  go_wp2
  go_ret
  exact ⟨rfl, HF.out, (Ok.refl _).alloc _, by simp⟩
end Go.Proofs.YtebhcadolnjplaaGreat
namespace Go.Proofs.YtebhcadolnjplaaGreat
open Go.RowKit
theorem Ws.wr {P : Nat → Prop} {g : Nat} {w : World} {v : Value} {xs : List B8} (h : Ws false P g w v xs) : Wr g w v xs := ⟨h.1.1, h.1.2.1, h.1.2.2.1, h.1.2.2.2.1, h.1.2.2.2.2.1⟩
set_option maxHeartbeats 400000 in
theorem done_bad (P : Nat → Prop) (g : Nat) (v : Value) (xs : List B8) (W : World) (hw : Ws true P g W v xs) :
    Calls Tryz.prog 38 #[.pointer (some ⟨g, 0, none⟩)] W fun e w' => e = .returned (.tuple #[.slice none 0 0, .int .i64 2]) ∧ W = w' := by
  have HW := Lib.hid hw
  have h1 := hw.1.2.2.1
  clear hw
  go_enter Tryz.func38, Tryz.ntmps38
  go_wp2_with fail
  refine (none_s true P g v xs _ HW.out).mono ?_
  rintro e w1 ⟨rfl, rfl⟩
  go_wp2_with fail
  go_ret2
  exact ⟨rfl, rfl⟩
/-- The writer, whatever lies beside it. -/
def Wn (sp : Bool) (g : Nat) (w : World) (xs : List B8) : Prop := ∃ A c, Ws sp (fun _ => False) g w (.slice A xs.length c) xs
/-- A block that is none of bytes. -/
def NB (w : World) (b : Nat) : Prop := ∃ cs ty fz, ty ≠ 5 ∧ w.heap[b]? = some (.cells cs ty fz)
/-- What stands behind a call of the writer's. -/
structure Kp (g : Nat) (W w' : World) : Prop where
  below : Below g W w'
  keep : ∀ b, b ≠ g → NB W b → w'.heap[b]? = W.heap[b]?
theorem Wn.ws {sp : Bool} {g : Nat} {w : World} {xs : List B8} (h : Wn sp g w xs) : ∃ A c, Ws sp (fun b => b ≠ g ∧ NB w b) g w (.slice A xs.length c) xs := by
  obtain ⟨A, c, h⟩ := h
  refine ⟨A, c, h.1, fun b hb => ⟨hb.1, ?_, ?_⟩⟩
  · obtain ⟨cs, ty, fz, _, h2⟩ := hb.2
    exact (Array.getElem?_eq_some_iff.1 h2).1
  · refine own_not h.1.2.1.2 fun cs fz e => ?_
    obtain ⟨cs', ty, fz', h1, h2⟩ := hb.2
    rw [h2] at e
    cases e
    exact h1 rfl
theorem Wn.ok {sp : Bool} {g : Nat} {w w' : World} {xs : List B8} (h : Wn sp g w xs) (k : Ok w w') : Wn sp g w' xs := by
  obtain ⟨A, c, h⟩ := h
  exact ⟨A, c, h.fresh k fun b hb => hb.elim⟩
theorem Wn.lt {sp : Bool} {g : Nat} {w : World} {xs : List B8} (h : Wn sp g w xs) : g < w.heap.size := by
  obtain ⟨A, c, h⟩ := h
  exact h.size
def WnPost (sp : Bool) (g : Nat) (W : World) (xs : List B8) (e : Ending) (w' : World) : Prop := e = .returned (.pointer (some ⟨g, 0, none⟩)) ∧ Wn sp g w' xs ∧ Kp g W w'
theorem WnPost.of {sp : Bool} {g : Nat} {W w' : World} {xs : List B8} {e : Ending} (h : WsPost sp (fun b => b ≠ g ∧ NB W b) g W (.pointer (some ⟨g, 0, none⟩)) xs e w') : WnPost sp g W xs e w' := by
  obtain ⟨h1, ⟨A, c, h2⟩, h3, h4⟩ := h
  exact ⟨h1, ⟨A, c, h2.1, fun _ hf => hf.elim⟩, h3, fun b hb hn => h4 b ⟨hb, hn⟩⟩
theorem NB.not5 {w : World} {b : Nat} (h : NB w b) : ∀ cs fz, w.heap[b]? ≠ some (.cells cs 5 fz) := fun cs fz e => by
  obtain ⟨cs', ty, fz', h1, h2⟩ := h
  rw [h2] at e
  cases e
  exact h1 rfl
theorem cell_of_heap {w : World} {b ty : Nat} {cs : Array Value} {fz : Nat × Nat} (h : w.heap[b]? = some (.cells cs ty fz)) (i : Nat) : w.cell? ⟨b, i, none⟩ = cs[i]? := by
  simp [World.cell?, h]
theorem num1_n (sp : Bool) (g : Nat) (xs : List B8) (W : World) (h : Wn sp g W xs) (b : Nat) (hb : b ≠ g) (a0 : Int) (hh : W.heap[b]? = some (.cells #[.int .i64 a0] 3 (0, 0))) (hx : xs.length ≤ 100000000) :
    Calls Tryz.prog 81 #[.pointer (some ⟨g, 0, none⟩), .slice (some ⟨b, 0, none⟩) 1 1] W (WnPost (sp || [a0].any badN) g W (xs ++ encsI [a0])) := by
  obtain ⟨A, c, h⟩ := h.ws
  refine (numbers_s sp _ b ⟨hb, _, _, _, by decide, hh⟩ g _ xs W h [a0] 0 1 1 rfl (by decide) hx ?_).mono fun e w' k => WnPost.of k
  intro k hk
  rw [cell_of_heap hh]
  match k, hk with
  | 0, _ => rfl
theorem num5_n (sp : Bool) (g : Nat) (xs : List B8) (W : World) (h : Wn sp g W xs) (b : Nat) (hb : b ≠ g) (a0 a1 a2 a3 a4 : Int) (hh : W.heap[b]? = some (.cells #[.int .i64 a0, .int .i64 a1, .int .i64 a2, .int .i64 a3, .int .i64 a4] 3 (0, 0))) (hx : xs.length ≤ 100000000) :
    Calls Tryz.prog 81 #[.pointer (some ⟨g, 0, none⟩), .slice (some ⟨b, 0, none⟩) 5 5] W (WnPost (sp || [a0, a1, a2, a3, a4].any badN) g W (xs ++ encsI [a0, a1, a2, a3, a4])) := by
  obtain ⟨A, c, h⟩ := h.ws
  refine (numbers_s sp _ b ⟨hb, _, _, _, by decide, hh⟩ g _ xs W h [a0, a1, a2, a3, a4] 0 5 5 rfl (by decide) hx ?_).mono fun e w' k => WnPost.of k
  intro k hk
  rw [cell_of_heap hh]
  match k, hk with
  | 0, _ => rfl
  | 1, _ => rfl
  | 2, _ => rfl
  | 3, _ => rfl
  | 4, _ => rfl
theorem txt2_n (sp : Bool) (g : Nat) (xs : List B8) (W : World) (h : Wn sp g W xs) (b : Nat) (hb : b ≠ g) (s0 s1 : ByteArray) (hh : W.heap[b]? = some (.cells #[.string s0, .string s1] 9 (0, 0))) (hx : xs.length ≤ 100000000) (h0 : s0.size ≤ 1000000000) (h1 : s1.size ≤ 1000000000) :
    Calls Tryz.prog 82 #[.pointer (some ⟨g, 0, none⟩), .slice (some ⟨b, 0, none⟩) 2 2] W (WnPost sp g W (xs ++ encsT [s0, s1])) := by
  obtain ⟨A, c, h⟩ := h.ws
  refine (texts_s sp _ b ⟨hb, _, _, _, by decide, hh⟩ g _ xs W h (fun b hb => hb.2.not5) [s0, s1] 0 2 2 rfl (by decide) hx ?_ ?_).mono fun e w' k => WnPost.of k
  · intro s hs
    simp only [List.mem_cons, List.not_mem_nil, or_false] at hs
    rcases hs with rfl | rfl <;> assumption
  · intro k hk
    rw [cell_of_heap hh]
    match k, hk with
    | 0, _ => rfl
    | 1, _ => rfl
theorem blk_new {w : World} {n : Nat} {o : Obj} (h : w.heap.size = n) : (w.alloc o).heap[n]? = some o := h ▸ heap_alloc_new w o
theorem blk_old {w : World} {n : Nat} {o o' : Obj} (h : w.heap[n]? = some o) : (w.alloc o').heap[n]? = some o := by
  have hn : n < w.heap.size := (Array.getElem?_eq_some_iff.1 h).1
  rw [((Ok.refl w).alloc o').block n hn]; exact h
theorem blk_drew {w : World} {n : Nat} {o : Obj} (h : w.heap[n]? = some o) : w.drew.heap[n]? = some o := by
  rw [((Ok.refl w).drew).block n (Array.getElem?_eq_some_iff.1 h).1]; exact h
theorem blk_kp {g : Nat} {w w' : World} {n ty : Nat} {cs : Array Value} {fz : Nat × Nat} (k : Kp g w w') (hn : n ≠ g) (ht : ty ≠ 5) (h : w.heap[n]? = some (.cells cs ty fz)) : w'.heap[n]? = some (.cells cs ty fz) :=
  (k.keep n hn ⟨_, _, _, ht, h⟩).trans h
def OkG (g : Nat) (W w' : World) : Prop := Below g W w'
theorem OkG.alloc {g : Nat} {W w' : World} (h : OkG g W w') (hg : g < w'.heap.size) (o : Obj) : OkG g W (w'.alloc o) := Below.alloc h (Nat.le_of_lt hg) o
theorem OkG.drew {g : Nat} {W w' : World} (h : OkG g W w') : OkG g W w'.drew := Below.drew h
theorem OkG.kp {g : Nat} {W w w' : World} (h : OkG g W w) (k : Kp g w w') : OkG g W w' := Below.trans h k.below
end Go.Proofs.YtebhcadolnjplaaGreat
