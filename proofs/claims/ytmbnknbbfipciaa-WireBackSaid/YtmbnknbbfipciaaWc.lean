/- Contracts of the writer's texts, rows and flags, whether it is spoilt or not. -/
import Derived.Test.YtmbnknbbfipciaaWb
namespace Go.Proofs.Ytmbnknbbfipciaa
open Go.RowKit

set_option maxRecDepth 100000 in
set_option maxHeartbeats 1000000 in
theorem text_s (sp : Bool) (g : Nat) (v : Value) (xs : List B8) (s : ByteArray) (W : World) (hw : Ws sp g W v xs) (hs : s.size ≤ 1000000000) (hx : xs.length ≤ 140000000000000) :
    Calls Try.prog 37 #[.pointer (some ⟨g, 0, none⟩), .string s] W (WsP sp g W (.tuple #[]) (xs ++ enc s.size ++ ofStr s)) := by
  have HW := Lib.hid hw
  clear hw
  obtain ⟨i0, hi, hz0, hz1, hz2⟩ := info_parts info5
  have HI := Lib.hid hi
  have HZ0 := Lib.hid hz0
  have HZ1 := Lib.hid hz1
  have HZ2 := Lib.hid hz2
  clear hi hz0 hz1 hz2
  have HEL := Lib.hid (enc_len s.size)
  have HSL := Lib.hid (ofStr_len s)
  have HSC := Lib.hid (ofStr_cells s)
  have HN : Hid (s.size = s.size) := Lib.hid rfl
  go_enter Try.func37, Try.ntmps37
  go_wp2_with fail
  refine (number_s sp g v xs s.size _ HW.out (by omega) (by omega)).mono ?_
  rintro e w1 ⟨rfl, ⟨A, c, hw1⟩, hb1⟩
  have hc0 := hw1.c0
  have hf0 := hw1.f0
  have hsz := hw1.size
  have HW1 := Lib.hid hw1
  have HB1 := Lib.hid hb1
  clear hw1 hb1
  generalize hL : (xs ++ enc s.size).length = L at *
  have HL := Lib.hid hL
  have HLL : Hid (L ≤ 140000000000010) := Lib.hid (by rw [← hL, List.length_append]; have := HEL.out; omega)
  clear hL
  go_wp2_with (at_builtin; go_must (refine Lib.wpList_append_own_string _ rfl (.tmp 12) (.tmp 13) 27 9 rfl (g + 1) 5 i0 Try.underlying27 Try.underlying9 HI.out HZ0.out HZ1.out HZ2.out (.slice A L c) L ((xs ++ enc s.size).map bv) rfl (by have := HW1.out.own; unfold OwnN at this; rwa [HL.out] at this) s rfl (by unfold maxLen; have := HN.out; have := HLL.out; omega) (by have := HN.out; have := HLL.out; omega) (by omega) ?_; intro v' w2 h2 h3 _; have HG2 := Lib.hid h3; have HOW2 := Lib.hid h2; clear h2 h3; obtain ⟨A', c', hv'⟩ : ∃ A' c', v' = .slice A' (L + s.size) c' := (by have h2 := HOW2.out; rcases h2.2 with ⟨rfl, h5⟩ | ⟨g', cap', cur, rfl, _⟩; exact ⟨none, 0, by rw [show L + s.size = 0 by omega]⟩; exact ⟨_, _, rfl⟩); subst hv'; have hcg : w2.cell? ⟨g, 0, none⟩ = some (.slice A L c) := (by have hb := (Below.refl (g + 1) w1).grown HG2.out (by omega) (fun k hk => (World.ownsRow.lt HW1.out.own k hk).1); rw [hb.cell (p := ⟨g, 0, none⟩) (Nat.lt_succ_self g)]; exact HW1.out.c0); have hfg : w2.frozen? ⟨g, 0, none⟩ = false := (by have hb := (Below.refl (g + 1) w1).grown HG2.out (by omega) (fun k hk => (World.ownsRow.lt HW1.out.own k hk).1); rw [hb.frozen (p := ⟨g, 0, none⟩) (Nat.lt_succ_self g)]; exact HW1.out.f0); clear hc0 hf0))
  have HG : Hid (Ws sp g (w2.setCell ⟨g, 0, none⟩ (.slice A' (L + s.size) c')) (.slice A' (L + s.size) c') ((xs ++ enc s.size) ++ ofStr s) ∧ Below g w1 (w2.setCell ⟨g, 0, none⟩ (.slice A' (L + s.size) c'))) := Lib.hid (by
    have hb := (Below.refl (g + 1) w1).grown HG2.out (by omega) (fun k hk => (World.ownsRow.lt HW1.out.own k hk).1)
    refine HW1.out.grow hb ?_
    unfold OwnN
    rw [List.map_append, HSC.out, List.length_append, HL.out, HSL.out]
    exact HOW2.out)
  go_end0
  refine ⟨rfl, ⟨A', c', ?_⟩, HB1.out.trans HG.out.2⟩
  rw [List.length_append, HL.out, HSL.out]
  exact HG.out.1

set_option maxRecDepth 100000 in
set_option maxHeartbeats 1000000 in
theorem row_s (sp : Bool) (g : Nat) (v : Value) (xs ys : List B8) (V : Value) (W : World) (hw : Ws sp g W v xs) (hy : BytesIn W V ys) (hB : ∀ A c, V = .slice (some A) ys.length c → 0 < ys.length → A.block < g) (hs : ys.length ≤ 1000000000) (hx : xs.length ≤ 140000000000000) :
    Calls Try.prog 34 #[.pointer (some ⟨g, 0, none⟩), V] W (WsP sp g W (.tuple #[]) (xs ++ enc ys.length ++ ys)) := by
  obtain ⟨A0, c0, rfl, _⟩ := hy.form
  have HY := Lib.hid hy
  have HW := Lib.hid hw
  have HBB := Lib.hid hB
  clear hw hy hB
  have HEL := Lib.hid (enc_len ys.length)
  generalize hn : ys.length = n at *
  have HN := Lib.hid hn
  clear hn
  go_enter Try.func34, Try.ntmps34
  go_wp2_with fail
  refine (number_s sp g v xs n _ HW.out (by omega) (by omega)).mono ?_
  rintro e w1 ⟨rfl, ⟨A, c, hw1⟩, hb1⟩
  have hc0 := hw1.c0
  have hf0 := hw1.f0
  have hsz := hw1.size
  have HW1 := Lib.hid hw1
  have HB1 := Lib.hid hb1
  have HY1 : Hid (BytesIn w1 (.slice A0 n c0) ys) := Lib.hid (by
    rcases HY.out with t | ⟨b, o, cc, e, hn, hm, hc⟩
    · exact .inl t
    · refine .inr ⟨b, o, cc, e, hn, hm, fun i hi => ?_⟩
      have hlt : b < g := by
        simp only [Value.slice.injEq] at e
        obtain ⟨rfl, h2, rfl⟩ := e
        exact HBB.out _ _ rfl (by have := HN.out; omega)
      rw [hb1.cell (p := ⟨b, o + i, none⟩) hlt]
      exact hc i hi)
  clear hw1 hb1
  generalize hL : (xs ++ enc n).length = L at *
  have HL := Lib.hid hL
  have HLL : Hid (L ≤ 140000000000010) := Lib.hid (by rw [← hL, List.length_append]; have := HEL.out; omega)
  clear hL
  go_wp2_with (at_builtin; go_must (refine wpList_app rfl (.tmp 12) (.tmp 13) rfl (g + 1) (.slice A L c) (xs ++ enc n) ys (.slice A0 n c0) rfl rfl HW1.out.own HY1.out (by rw [HL.out, HN.out]; have := HLL.out; omega) (by omega) ?_; intro A' c' w2 hown2 hbel2; have HOWN2 := Lib.hid hown2; have HBEL2 := Lib.hid hbel2; clear hown2 hbel2; rw [HL.out, HN.out]; have hcg : w2.cell? ⟨g, 0, none⟩ = some (.slice A L c) := (by rw [HBEL2.out.cell (p := ⟨g, 0, none⟩) (Nat.lt_succ_self g)]; exact HW1.out.c0); have hfg : w2.frozen? ⟨g, 0, none⟩ = false := (by rw [HBEL2.out.frozen (p := ⟨g, 0, none⟩) (Nat.lt_succ_self g)]; exact HW1.out.f0); clear hc0 hf0))
  have HG : Hid (Ws sp g (w2.setCell ⟨g, 0, none⟩ (.slice A' (L + n) c')) (.slice A' (L + n) c') ((xs ++ enc n) ++ ys) ∧ Below g w1 (w2.setCell ⟨g, 0, none⟩ (.slice A' (L + n) c'))) := Lib.hid (by
    have h3 := HOWN2.out
    rw [HL.out, HN.out] at h3
    exact HW1.out.grow HBEL2.out h3)
  go_end0
  refine ⟨rfl, ⟨A', c', ?_⟩, HB1.out.trans HG.out.2⟩
  rw [List.length_append, HL.out, HN.out]
  exact HG.out.1

set_option maxRecDepth 100000 in
set_option maxHeartbeats 1000000 in
theorem flag_s (sp : Bool) (g : Nat) (v : Value) (xs : List B8) (b : Bool) (W : World) (hw : Ws sp g W v xs) (hx : xs.length ≤ 140000000000000) :
    Calls Try.prog 35 #[.pointer (some ⟨g, 0, none⟩), .bool b] W (WsP sp g W (.tuple #[]) (xs ++ (Item.flag b).enc)) := by
  obtain ⟨A, c, rfl⟩ := hw.form
  have hc0 := hw.c0
  have hf0 := hw.f0
  have hsz := hw.size
  have HW := Lib.hid hw
  clear hw
  generalize hL : xs.length = L at *
  have HL := Lib.hid hL
  clear hL
  cases b
  all_goals
    simp only [Item.enc, if_true, Bool.false_eq_true, if_false]
    have HX : Hid (L ≤ 140000000000000) := Lib.hid hx
    have HOKA : ∀ k : Nat, Hid (Ok W (W.alloc (.cells #[.int .u8 (k : Int)] 5))) := fun k => Lib.hid ((Ok.refl W).alloc _)
    have HOW : ∀ k : Nat, Hid (OwnN (W.alloc (.cells #[.int .u8 (k : Int)] 5)) (g + 1) (.slice A L c) xs) := fun k => Lib.hid (World.ownsRow.alloc HW.out.own _)
    have HCG : ∀ k : Nat, Hid ((W.alloc (.cells #[.int .u8 (k : Int)] 5)).cell? ⟨g, 0, none⟩ = some (.slice A L c)) := fun k => Lib.hid ((HOKA k).out.cell HW.out.c0)
    have HFG : ∀ k : Nat, Hid ((W.alloc (.cells #[.int .u8 (k : Int)] 5)).frozen? ⟨g, 0, none⟩ = false) := fun k => Lib.hid (by rw [Below.frozen (HOKA k).out (p := ⟨g, 0, none⟩) hsz]; exact HW.out.f0)
  · have HNEW : Hid (BytesIn (W.alloc (.cells #[.int .u8 0] 5)) (.slice (some ⟨W.heap.size, 0, none⟩) 1 1) [0#8]) := Lib.hid (bytes_new W _ _ 5 _ _ _ 1 rfl rfl (by decide) (by simp) rfl)
    have HOKA0 := HOKA 0
    have HOW0 := HOW 0
    have HCG0 := HCG 0
    have HFG0 := HFG 0
    clear HOKA HOW HCG HFG
    go_enter Try.func35, Try.ntmps35
    go_wp2_with (at_builtin; go_must (refine wpList_app rfl (.tmp 18) (.tmp 19) rfl (g + 1) (.slice A L c) xs [0#8] (.slice (some ⟨W.heap.size, 0, none⟩) 1 1) rfl rfl HOW0.out HNEW.out (by have := HX.out; have := HL.out; simp only [List.length_singleton]; omega) (by rw [World.size_alloc]; omega) ?_; intro A' c' w2 hown2 hbel2; have HOWN2 := Lib.hid hown2; have HBEL2 := Lib.hid hbel2; clear hown2 hbel2; rw [HL.out]; have hcg : w2.cell? ⟨g, 0, none⟩ = some (.slice A L c) := (by rw [HBEL2.out.cell (p := ⟨g, 0, none⟩) (Nat.lt_succ_self g)]; exact HCG0.out); have hfg : w2.frozen? ⟨g, 0, none⟩ = false := (by rw [HBEL2.out.frozen (p := ⟨g, 0, none⟩) (Nat.lt_succ_self g)]; exact HFG0.out)))
    have HG : Hid (Ws sp g (w2.setCell ⟨g, 0, none⟩ (.slice A' (L + 1) c')) (.slice A' (L + 1) c') (xs ++ [0#8]) ∧ Below g W (w2.setCell ⟨g, 0, none⟩ (.slice A' (L + 1) c'))) := Lib.hid (by
      have h3 := HOWN2.out
      rw [HL.out] at h3
      have hbb : Below (g + 1) W w2 := (Below.mono HOKA0.out (show g + 1 ≤ W.heap.size from hsz)).trans HBEL2.out
      exact HW.out.grow hbb h3)
    go_end0
    refine ⟨rfl, ⟨A', c', ?_⟩, HG.out.2⟩
    rw [List.length_append, HL.out]
    exact HG.out.1
  · have HNEW : Hid (BytesIn (W.alloc (.cells #[.int .u8 1] 5)) (.slice (some ⟨W.heap.size, 0, none⟩) 1 1) [1#8]) := Lib.hid (bytes_new W _ _ 5 _ _ _ 1 rfl rfl (by decide) (by simp) rfl)
    have HOKA0 := HOKA 1
    have HOW0 := HOW 1
    have HCG0 := HCG 1
    have HFG0 := HFG 1
    clear HOKA HOW HCG HFG
    go_enter Try.func35, Try.ntmps35
    go_wp2_with (at_builtin; go_must (refine wpList_app rfl (.tmp 9) (.tmp 10) rfl (g + 1) (.slice A L c) xs [1#8] (.slice (some ⟨W.heap.size, 0, none⟩) 1 1) rfl rfl HOW0.out HNEW.out (by have := HX.out; have := HL.out; simp only [List.length_singleton]; omega) (by rw [World.size_alloc]; omega) ?_; intro A' c' w2 hown2 hbel2; have HOWN2 := Lib.hid hown2; have HBEL2 := Lib.hid hbel2; clear hown2 hbel2; rw [HL.out]; have hcg : w2.cell? ⟨g, 0, none⟩ = some (.slice A L c) := (by rw [HBEL2.out.cell (p := ⟨g, 0, none⟩) (Nat.lt_succ_self g)]; exact HCG0.out); have hfg : w2.frozen? ⟨g, 0, none⟩ = false := (by rw [HBEL2.out.frozen (p := ⟨g, 0, none⟩) (Nat.lt_succ_self g)]; exact HFG0.out)))
    have HG : Hid (Ws sp g (w2.setCell ⟨g, 0, none⟩ (.slice A' (L + 1) c')) (.slice A' (L + 1) c') (xs ++ [1#8]) ∧ Below g W (w2.setCell ⟨g, 0, none⟩ (.slice A' (L + 1) c'))) := Lib.hid (by
      have h3 := HOWN2.out
      rw [HL.out] at h3
      have hbb : Below (g + 1) W w2 := (Below.mono HOKA0.out (show g + 1 ≤ W.heap.size from hsz)).trans HBEL2.out
      exact HW.out.grow hbb h3)
    go_end0
    refine ⟨rfl, ⟨A', c', ?_⟩, HG.out.2⟩
    rw [List.length_append, HL.out]
    exact HG.out.1
end Go.Proofs.Ytmbnknbbfipciaa
