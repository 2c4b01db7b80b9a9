/- Contracts of the writer's texts, and of the document's examples. -/
import Derived.Test.YtmbnknbbfipciaaG
import Derived.Lib.AppendStr
namespace Go.Proofs.Ytmbnknbbfipciaa
open Go.RowKit

/-- A text's bytes. -/
def ofStr (s : ByteArray) : List B8 := s.data.toList.map fun b => BitVec.ofNat 8 b.toNat
theorem ofStr_len (s : ByteArray) : (ofStr s).length = s.size := by simp [ofStr]
theorem ofStr_cells (s : ByteArray) : (ofStr s).map bv = Lib.strCells s := by
  unfold ofStr Lib.strCells
  rw [List.map_map]
  apply List.map_congr_left
  intro b _
  have := b.toNat_lt
  simp only [Function.comp, bv, ub, BitVec.toNat_ofNat]
  rw [Nat.mod_eq_of_lt (by simpa using this)]

set_option maxRecDepth 100000 in
set_option maxHeartbeats 1000000 in
theorem text_w (g : Nat) (v : Value) (xs : List B8) (s : ByteArray) (W : World) (hw : Wr g W v xs) (hs : s.size ≤ 1000000000) (hx : xs.length ≤ 140000000000000) :
    Calls Try.prog 37 #[.pointer (some ⟨g, 0, none⟩), .string s] W (WrPost g W (.tuple #[]) (xs ++ enc s.size ++ ofStr s)) := by
  have HW := Lib.hid hw
  clear hw
  obtain ⟨i0, hi, hz0, hz1, hz2⟩ := info_parts info5
  have HI := Lib.hid hi
  have HZ0 := Lib.hid hz0
  have HZ1 := Lib.hid hz1
  have HZ2 := Lib.hid hz2
  clear hi hz0 hz1 hz2
  have HEL := Lib.hid (enc_len s.size)
  have HSL := Lib.hid (ofStr_len s)
  have HSC := Lib.hid (ofStr_cells s)
  have HN : Hid (s.size = s.size) := Lib.hid rfl
  go_enter Try.func37, Try.ntmps37
  go_wp2_with fail
  refine (number_w g v xs s.size _ HW.out (by omega) (by omega)).mono ?_
  rintro e w1 ⟨rfl, ⟨A, c, hw1⟩, hb1⟩
  have hc0 := hw1.1
  have hf0 := hw1.2.2.2.2
  have hsz := hw1.size
  have HW1 := Lib.hid hw1
  have HB1 := Lib.hid hb1
  clear hw1 hb1
  generalize hL : (xs ++ enc s.size).length = L at *
  have HL := Lib.hid hL
  have HLL : Hid (L ≤ 140000000000010) := Lib.hid (by rw [← hL, List.length_append]; have := HEL.out; omega)
  clear hL
  go_wp2_with (at_builtin; go_must (refine Lib.wpList_append_own_string _ rfl (.tmp 12) (.tmp 13) 27 9 rfl (g + 1) 5 i0 Try.underlying27 Try.underlying9 HI.out HZ0.out HZ1.out HZ2.out (.slice A L c) L ((xs ++ enc s.size).map bv) rfl (by have := HW1.out.2.1; unfold OwnN at this; rwa [HL.out] at this) s rfl (by unfold maxLen; have := HN.out; have := HLL.out; omega) (by have := HN.out; have := HLL.out; omega) (by omega) ?_; intro v' w2 h2 h3 _; have HG2 := Lib.hid h3; have HOW2 := Lib.hid h2; clear h2 h3; obtain ⟨A', c', hv'⟩ : ∃ A' c', v' = .slice A' (L + s.size) c' := (by have h2 := HOW2.out; rcases h2.2 with ⟨rfl, h5⟩ | ⟨g', cap', cur, rfl, _⟩; exact ⟨none, 0, by rw [show L + s.size = 0 by omega]⟩; exact ⟨_, _, rfl⟩); subst hv'; have hcg : w2.cell? ⟨g, 0, none⟩ = some (.slice A L c) := (by have hb := (Below.refl (g + 1) w1).grown HG2.out (by omega) (fun k hk => (World.ownsRow.lt HW1.out.2.1 k hk).1); rw [hb.cell (p := ⟨g, 0, none⟩) (Nat.lt_succ_self g)]; exact HW1.out.1); have hfg : w2.frozen? ⟨g, 0, none⟩ = false := (by have hb := (Below.refl (g + 1) w1).grown HG2.out (by omega) (fun k hk => (World.ownsRow.lt HW1.out.2.1 k hk).1); rw [hb.frozen (p := ⟨g, 0, none⟩) (Nat.lt_succ_self g)]; exact HW1.out.2.2.2.2); clear hc0 hf0))
  have HG : Hid (Wr g (w2.setCell ⟨g, 0, none⟩ (.slice A' (L + s.size) c')) (.slice A' (L + s.size) c') ((xs ++ enc s.size) ++ ofStr s) ∧ Below g w1 (w2.setCell ⟨g, 0, none⟩ (.slice A' (L + s.size) c'))) := Lib.hid (by
    have hb := (Below.refl (g + 1) w1).grown HG2.out (by omega) (fun k hk => (World.ownsRow.lt HW1.out.2.1 k hk).1)
    refine HW1.out.grow hb ?_
    unfold OwnN
    rw [List.map_append, HSC.out, List.length_append, HL.out, HSL.out]
    exact HOW2.out)
  go_end0
  refine ⟨rfl, ⟨A', c', ?_⟩, HB1.out.trans HG.out.2⟩
  rw [List.length_append, HL.out, HSL.out]
  exact HG.out.1
end Go.Proofs.Ytmbnknbbfipciaa
