/- Lists of rows are put into a bag, and told to lie apart. -/
import Derived.Test.YtebhcadolnjplaaGreatYd
import Derived.Test.YtebhcadolnjplaaGreatYe
namespace Go.Proofs.YtebhcadolnjplaaGreat
open Go.RowKit

/-- A bag: all its lists are none but the lists of rows. -/
structure Bag (w : World) (p : Nat) (v : Value) : Prop where
  cell : ∀ j, j < 22 → w.cell? ⟨p, j, none⟩ = some (if j = 13 then v else .slice none 0 0)
  fr : w.frozen? ⟨p, 13, none⟩ = false
theorem Bag.lt {w : World} {p : Nat} {v : Value} (h : Bag w p v) : p < w.heap.size := World.block_lt_of_cell? _ _ (h.cell 0 (by decide))
theorem Bag.below {w w' : World} {p : Nat} {v : Value} (h : Bag w p v) {B : Nat} (k : Below B w w') (hp : p < B) : Bag w' p v :=
  ⟨fun j hj => (k.cell (p := ⟨p, j, none⟩) hp).trans (h.cell j hj), (Below.frozen k (p := ⟨p, 13, none⟩) hp).trans h.fr⟩
theorem Bag.ok {w w' : World} {p : Nat} {v : Value} (h : Bag w p v) (k : Ok w w') : Bag w' p v := h.below k h.lt
theorem Bag.kv {w w' : World} {p : Nat} {v : Value} {vs : Nat → Value} {m : Nat} (h : Bag w p v) (k : Kv vs m w w') (hp : ∀ j, j < m → (vs j).ownBlock ≠ some p) : Bag w' p v :=
  ⟨fun j hj => k.cell (h.cell j hj) hp, by rw [World.frozen?_of_block (w := w) (k.block p h.lt hp)]; exact h.fr⟩
theorem Bag.new (w : World) : Bag (w.alloc (.cells (Array.replicate 22 (.slice none 0 0)) 87)) w.heap.size (.slice none 0 0) :=
  ⟨fun j hj => by rw [World.cell?_alloc_at _ _ _ _ rfl, ite_self]; simp [hj], World.frozen?_alloc_at _ _ _ _ rfl⟩
def PutBP (p n : Nat) (vals : List Value) (x : Value) (w : World) (e : Ending) (w' : World) : Prop :=
  e = .returned (.tuple #[]) ∧ ∃ A' c', Bag w' p (.slice A' (n + 1) c') ∧ w'.ownsRow (p + 1) 29 1 (.slice A' (n + 1) c') (n + 1) (vals ++ [x]) ∧ Below p w w'
set_option maxRecDepth 100000 in
set_option maxHeartbeats 2000000 in
theorem putLines_w (p : Nat) (A : Option Addr) (n c : Nat) (vals : List Value) (Ax : Option Addr) (nx cx : Nat) (w : World) (hb : Bag w p (.slice A n c)) (ho : w.ownsRow (p + 1) 29 1 (.slice A n c) n vals) (hn : n ≤ 1000000) :
    Calls Tryz.prog 32 #[.pointer (some ⟨p, 0, none⟩), .slice Ax nx cx] w (PutBP p n vals (.slice Ax nx cx) w) := by
  obtain ⟨i0, hi, hz0, hz1, hz2⟩ := info_parts info23
  have HI := Lib.hid hi
  have HZ0 := Lib.hid hz0
  have HZ1 := Lib.hid hz1
  have HZ2 := Lib.hid hz2
  clear hi hz0 hz1 hz2
  have HB := Lib.hid hb
  have HN := Lib.hid hn
  have c5 : w.cell? ⟨p, 13, none⟩ = some (.slice A n c) := hb.cell 13 (by decide)
  have HOA : Hid (Ok w (w.alloc (.cells #[.slice Ax nx cx] 29))) := Lib.hid ((Ok.refl w).alloc _)
  have HOW : Hid ((w.alloc (.cells #[.slice Ax nx cx] 29)).ownsRow (p + 1) 29 1 (.slice A n c) n vals) := Lib.hid (own_stays ho fun b hb => HOA.out.block b (ho.lt b hb).2)
  have HBL : Hid (p + 1 ≤ (w.alloc (.cells #[.slice Ax nx cx] 29)).heap.size) := Lib.hid (Nat.le_trans hb.lt HOA.out.size)
  clear hb ho hn
  go_enter Tryz.func32, Tryz.ntmps32
  go_wp2_with (at_builtin; go_must (refine wpList_append_own _ rfl (.tmp 8) (.tmp 10) 44 rfl (p + 1) 29 i0 (.slice none 0 0) 1 24 Tryz.underlying44 HI.out HZ0.out HZ1.out HZ2.out rfl (by decide) (.slice A n c) n vals rfl HOW.out ⟨w.heap.size, 0, none⟩ 1 1 [.slice Ax nx cx] rfl rfl (cell_one_new w _ 29) (fun u hu => by obtain rfl := List.mem_singleton.1 hu; rfl) (by have := HN.out; unfold maxLen; omega) (by have := HN.out; omega) HBL.out ?_; intro v' w' h2 h3 _; have HG : Hid (Below (p + 1) w w') := Lib.hid (Below.trans (Below.mono HOA.out HB.out.lt) ((Below.refl (p + 1) _).grown h3 HBL.out (fun k hk => (World.ownsRow.lt HOW.out k hk).1))); have HOW2 := Lib.hid h2; obtain ⟨A', c', rfl⟩ : ∃ A' c', v' = .slice A' (n + 1) c' := (by rcases own_form h2 with ⟨_, q⟩ | ⟨g, cap, q⟩ <;> first | exact absurd q (Nat.succ_ne_zero _) | exact ⟨_, _, q⟩); clear h2 h3; have HB2 := Lib.hid (HB.out.below HG.out (Nat.lt_succ_self p)); have d5 : w'.cell? ⟨p, 13, none⟩ = some (.slice A n c) := HB2.out.cell 13 (by decide); have f5 := HB2.out.fr))
  go_end0
  refine ⟨rfl, A', c', ⟨fun j hj => ?_, ?_⟩, ?_, ?_⟩
  · by_cases h5 : j = 13
    · subst h5
      rw [World.cell?_setCell_same _ _ _ d5]
      rfl
    · rw [World.cell?_setCell_other _ _ _ _ (fun e => by have h := congrArg Addr.off e; dsimp only at h; omega), HB2.out.cell j hj, if_neg h5, if_neg h5]
  · rw [World.frozen?_setCell]; exact f5
  · refine own_stays HOW2.out fun b hb => heap_setCell_other w' ⟨p, 13, none⟩ b _ fun e => ?_
    have h1 := (World.ownsRow.lt HOW2.out b hb).1
    have h2 : b = p := e
    omega
  · exact Below.trans (Below.mono HG.out (Nat.le_succ p)) ((Below.refl p w').setCell (Nat.le_refl _) _)
set_option maxRecDepth 100000 in
set_option maxHeartbeats 4000000 in
theorem apart_w (p : Nat) (A : Option Addr) (m c : Nat) (vs : Nat → Value) (ns : Nat → Nat) (C : Nat → List Value) (w0 : World) (hb : Bag w0 p (.slice A m c)) (hL : LsAt w0 A m vs) (hF : Fl 48 2 m vs ns C 0 vs ns C w0) (hm : m ≤ 1000000) (hns : ∀ j, j < m → ns j ≤ 1000000)
    (hp : ∀ j, j < m → (vs j).ownBlock ≠ some p) : Calls Tryz.prog 33 #[.pointer (some ⟨p, 0, none⟩)] w0 (fun e w' => e = .returned (.bool true) ∧ Kv vs m w0 w') := by
  have HB0 := Lib.hid hb
  have HP := Lib.hid hp
  have HF := Lib.hid hF
  have HL := Lib.hid hL
  have HNS := Lib.hid hns
  have HM := Lib.hid hm
  have HV0 : Hid (Kv vs m w0 w0) := Lib.hid (Kv.refl w0)
  clear hb hp hF hL hns hm
  have c0 : w0.cell? ⟨p, 0, none⟩ = some (.slice none 0 0) := HB0.out.cell 0 (by decide)
  have HO0 : Hid (Ok w0 w0) := Lib.hid (Ok.refl w0)
  go_enter Tryz.func33, Tryz.ntmps33
  go_wp2_with fail
  refine (flatLimbs_nil w0).mono ?_
  clear c0
  rintro _ w1 ⟨rfl, o⟩
  have HB1 := Lib.hid (HB0.out.ok o)
  have HV1 := Lib.hid (HV0.out.below o)
  have HO1 : Hid (Ok w0 w1) := Lib.hid (HO0.out.trans o)
  clear o
  have c1 : w1.cell? ⟨p, 1, none⟩ = some (.slice none 0 0) := HB1.out.cell 1 (by decide)
  clear HB0 HV0 HO0
  go_wp2_with fail
  refine (flatWords_nil w1).mono ?_
  clear c1
  rintro _ w2 ⟨rfl, o⟩
  have HB2 := Lib.hid (HB1.out.ok o)
  have HV2 := Lib.hid (HV1.out.below o)
  have HO2 : Hid (Ok w0 w2) := Lib.hid (HO1.out.trans o)
  clear o
  have c2 : w2.cell? ⟨p, 2, none⟩ = some (.slice none 0 0) := HB2.out.cell 2 (by decide)
  clear HB1 HV1 HO1
  go_wp2_with fail
  refine (flatInts_nil w2).mono ?_
  clear c2
  rintro _ w3 ⟨rfl, o⟩
  have HB3 := Lib.hid (HB2.out.ok o)
  have HV3 := Lib.hid (HV2.out.below o)
  have HO3 : Hid (Ok w0 w3) := Lib.hid (HO2.out.trans o)
  clear o
  have c3 : w3.cell? ⟨p, 3, none⟩ = some (.slice none 0 0) := HB3.out.cell 3 (by decide)
  clear HB2 HV2 HO2
  go_wp2_with fail
  refine (flatLongs_nil w3).mono ?_
  clear c3
  rintro _ w4 ⟨rfl, o⟩
  have HB4 := Lib.hid (HB3.out.ok o)
  have HV4 := Lib.hid (HV3.out.below o)
  have HO4 : Hid (Ok w0 w4) := Lib.hid (HO3.out.trans o)
  clear o
  have c4 : w4.cell? ⟨p, 4, none⟩ = some (.slice none 0 0) := HB4.out.cell 4 (by decide)
  clear HB3 HV3 HO3
  go_wp2_with fail
  refine (flatTexts_nil w4).mono ?_
  clear c4
  rintro _ w5 ⟨rfl, o⟩
  have HB5 := Lib.hid (HB4.out.ok o)
  have HV5 := Lib.hid (HV4.out.below o)
  have HO5 : Hid (Ok w0 w5) := Lib.hid (HO4.out.trans o)
  clear o
  have c5 : w5.cell? ⟨p, 5, none⟩ = some (.slice none 0 0) := HB5.out.cell 5 (by decide)
  clear HB4 HV4 HO4
  go_wp2_with fail
  refine (flatBytes_nil w5).mono ?_
  clear c5
  rintro _ w6 ⟨rfl, o⟩
  have HB6 := Lib.hid (HB5.out.ok o)
  have HV6 := Lib.hid (HV5.out.below o)
  have HO6 : Hid (Ok w0 w6) := Lib.hid (HO5.out.trans o)
  clear o
  have c6 : w6.cell? ⟨p, 6, none⟩ = some (.slice none 0 0) := HB6.out.cell 6 (by decide)
  clear HB5 HV5 HO5
  go_wp2_with fail
  refine (flatTruths_nil w6).mono ?_
  clear c6
  rintro _ w7 ⟨rfl, o⟩
  have HB7 := Lib.hid (HB6.out.ok o)
  have HV7 := Lib.hid (HV6.out.below o)
  have HO7 : Hid (Ok w0 w7) := Lib.hid (HO6.out.trans o)
  clear o
  have c7 : w7.cell? ⟨p, 7, none⟩ = some (.slice none 0 0) := HB7.out.cell 7 (by decide)
  clear HB6 HV6 HO6
  go_wp2_with fail
  refine (flatSpans_nil w7).mono ?_
  clear c7
  rintro _ w8 ⟨rfl, o⟩
  have HB8 := Lib.hid (HB7.out.ok o)
  have HV8 := Lib.hid (HV7.out.below o)
  have HO8 : Hid (Ok w0 w8) := Lib.hid (HO7.out.trans o)
  clear o
  have c8 : w8.cell? ⟨p, 8, none⟩ = some (.slice none 0 0) := HB8.out.cell 8 (by decide)
  clear HB7 HV7 HO7
  go_wp2_with fail
  refine (flatShareRows_nil w8).mono ?_
  clear c8
  rintro _ w9 ⟨rfl, o⟩
  have HB9 := Lib.hid (HB8.out.ok o)
  have HV9 := Lib.hid (HV8.out.below o)
  have HO9 : Hid (Ok w0 w9) := Lib.hid (HO8.out.trans o)
  clear o
  have c9 : w9.cell? ⟨p, 9, none⟩ = some (.slice none 0 0) := HB9.out.cell 9 (by decide)
  clear HB8 HV8 HO8
  go_wp2_with fail
  refine (flatSharesRows_nil w9).mono ?_
  clear c9
  rintro _ w10 ⟨rfl, o⟩
  have HB10 := Lib.hid (HB9.out.ok o)
  have HV10 := Lib.hid (HV9.out.below o)
  have HO10 : Hid (Ok w0 w10) := Lib.hid (HO9.out.trans o)
  clear o
  have c10 : w10.cell? ⟨p, 10, none⟩ = some (.slice none 0 0) := HB10.out.cell 10 (by decide)
  clear HB9 HV9 HO9
  go_wp2_with fail
  refine (flatNames_nil w10).mono ?_
  clear c10
  rintro _ w11 ⟨rfl, o⟩
  have HB11 := Lib.hid (HB10.out.ok o)
  have HV11 := Lib.hid (HV10.out.below o)
  have HO11 : Hid (Ok w0 w11) := Lib.hid (HO10.out.trans o)
  clear o
  have c11 : w11.cell? ⟨p, 11, none⟩ = some (.slice none 0 0) := HB11.out.cell 11 (by decide)
  clear HB10 HV10 HO10
  go_wp2_with fail
  refine (flatActs_nil w11).mono ?_
  clear c11
  rintro _ w12 ⟨rfl, o⟩
  have HB12 := Lib.hid (HB11.out.ok o)
  have HV12 := Lib.hid (HV11.out.below o)
  have HO12 : Hid (Ok w0 w12) := Lib.hid (HO11.out.trans o)
  clear o
  have c12 : w12.cell? ⟨p, 12, none⟩ = some (.slice none 0 0) := HB12.out.cell 12 (by decide)
  clear HB11 HV11 HO11
  go_wp2_with fail
  refine (flatReads_nil w12).mono ?_
  clear c12
  rintro _ w13 ⟨rfl, o⟩
  have HB13 := Lib.hid (HB12.out.ok o)
  have HV13 := Lib.hid (HV12.out.below o)
  have HO13 : Hid (Ok w0 w13) := Lib.hid (HO12.out.trans o)
  clear o
  have c13 : w13.cell? ⟨p, 13, none⟩ = some (.slice A m c) := HB13.out.cell 13 (by decide)
  clear HB12 HV12 HO12
  go_wp2_with fail
  refine (flatLines_w A m c vs ns C w13 (HL.out.kv HV13.out) (HF.out.below HO13.out) HM.out HNS.out).mono ?_
  clear c13
  rintro _ w14 ⟨rfl, o⟩
  have HB14 := Lib.hid (HB13.out.kv o HP.out)
  have HV14 := Lib.hid (HV13.out.trans o)
  clear o
  have c14 : w14.cell? ⟨p, 14, none⟩ = some (.slice none 0 0) := HB14.out.cell 14 (by decide)
  clear HB13 HV13 HO13 HF
  go_wp2_with fail
  refine (flatHolds_nil w14).mono ?_
  clear c14
  rintro _ w15 ⟨rfl, o⟩
  have HB15 := Lib.hid (HB14.out.ok o)
  have HV15 := Lib.hid (HV14.out.below o)
  clear o
  have c15 : w15.cell? ⟨p, 15, none⟩ = some (.slice none 0 0) := HB15.out.cell 15 (by decide)
  clear HB14 HV14
  go_wp2_with fail
  refine (flatConfigs_nil w15).mono ?_
  clear c15
  rintro _ w16 ⟨rfl, o⟩
  have HB16 := Lib.hid (HB15.out.ok o)
  have HV16 := Lib.hid (HV15.out.below o)
  clear o
  have c16 : w16.cell? ⟨p, 16, none⟩ = some (.slice none 0 0) := HB16.out.cell 16 (by decide)
  clear HB15 HV15
  go_wp2_with fail
  refine (flatEntries_nil w16).mono ?_
  clear c16
  rintro _ w17 ⟨rfl, o⟩
  have HB17 := Lib.hid (HB16.out.ok o)
  have HV17 := Lib.hid (HV16.out.below o)
  clear o
  have c17 : w17.cell? ⟨p, 17, none⟩ = some (.slice none 0 0) := HB17.out.cell 17 (by decide)
  clear HB16 HV16
  go_wp2_with fail
  refine (flatBases_nil w17).mono ?_
  clear c17
  rintro _ w18 ⟨rfl, o⟩
  have HB18 := Lib.hid (HB17.out.ok o)
  have HV18 := Lib.hid (HV17.out.below o)
  clear o
  have c18 : w18.cell? ⟨p, 18, none⟩ = some (.slice none 0 0) := HB18.out.cell 18 (by decide)
  clear HB17 HV17
  go_wp2_with fail
  refine (flatImages_nil w18).mono ?_
  clear c18
  rintro _ w19 ⟨rfl, o⟩
  have HB19 := Lib.hid (HB18.out.ok o)
  have HV19 := Lib.hid (HV18.out.below o)
  clear o
  have c19 : w19.cell? ⟨p, 19, none⟩ = some (.slice none 0 0) := HB19.out.cell 19 (by decide)
  clear HB18 HV18
  go_wp2_with fail
  refine (flatLetters_nil w19).mono ?_
  clear c19
  rintro _ w20 ⟨rfl, o⟩
  have HB20 := Lib.hid (HB19.out.ok o)
  have HV20 := Lib.hid (HV19.out.below o)
  clear o
  have c20 : w20.cell? ⟨p, 20, none⟩ = some (.slice none 0 0) := HB20.out.cell 20 (by decide)
  clear HB19 HV19
  go_wp2_with fail
  refine (flatStretches_nil w20).mono ?_
  clear c20
  rintro _ w21 ⟨rfl, o⟩
  have HB21 := Lib.hid (HB20.out.ok o)
  have HV21 := Lib.hid (HV20.out.below o)
  clear o
  have c21 : w21.cell? ⟨p, 21, none⟩ = some (.slice none 0 0) := HB21.out.cell 21 (by decide)
  clear HB20 HV20
  go_wp2_with fail
  refine (flatPeers_nil w21).mono ?_
  clear c21
  rintro _ w22 ⟨rfl, o⟩
  have HB22 := Lib.hid (HB21.out.ok o)
  have HV22 := Lib.hid (HV21.out.below o)
  clear o
  clear HB21 HV21
  go_wp2_with fail
  go_ret
  exact ⟨rfl, HV22.out⟩
theorem row_map (vs : Nat → Value) (k : Nat) : (List.range (k + 1)).map vs = (List.range k).map vs ++ [vs k] := by simp [List.range_succ]
set_option maxRecDepth 100000 in
set_option maxHeartbeats 4000000 in
theorem apartLines_w (A : Option Addr) (m c : Nat) (vs : Nat → Value) (ns : Nat → Nat) (C : Nat → List Value) (W : World) (hL : ∀ j, j < m → ∃ b off, A = some ⟨b, off, none⟩ ∧ W.cell? ⟨b, off + j, none⟩ = some (vs j)) (hF : Fl 48 2 m vs ns C 0 vs ns C W) (hm : m ≤ 1000000) (hns : ∀ j, j < m → ns j ≤ 1000000) :
    Calls Tryz.prog 15 #[.slice A m c] W (fun e w' => e = .returned (.bool true) ∧ Kv vs m W w') := by
  have HL := Lib.hid hL
  have HM := Lib.hid hm
  have HNS := Lib.hid hns
  have HF := Lib.hid hF
  clear hL hF hm hns
  have HBN := Lib.hid (Bag.new W)
  have HOA := Lib.hid ((Ok.refl W).alloc (.cells (Array.replicate 22 (.slice none 0 0)) 87))
  have HPW : Hid (∀ j, j < m → ∀ b, (vs j).ownBlock = some b → b < W.heap.size) := Lib.hid (fun j hj b hb => ((HF.out.own j hj).lt b hb).2)
  rw [show (Array.replicate 22 (Value.slice none 0 0)) = #[.slice none 0 0, .slice none 0 0, .slice none 0 0, .slice none 0 0, .slice none 0 0, .slice none 0 0, .slice none 0 0, .slice none 0 0, .slice none 0 0, .slice none 0 0, .slice none 0 0, .slice none 0 0, .slice none 0 0, .slice none 0 0, .slice none 0 0, .slice none 0 0, .slice none 0 0, .slice none 0 0, .slice none 0 0, .slice none 0 0, .slice none 0 0, .slice none 0 0] from rfl] at HBN HOA
  go_enter Tryz.func15, Tryz.ntmps15
  go_wp2_with fail
  obtain ⟨p, hp⟩ : ∃ p, W.heap.size = p := ⟨_, rfl⟩
  rw [hp] at HBN HPW ⊢
  have HP := Lib.hid hp
  clear hp
  generalize W.alloc (.cells #[.slice none 0 0, .slice none 0 0, .slice none 0 0, .slice none 0 0, .slice none 0 0, .slice none 0 0, .slice none 0 0, .slice none 0 0, .slice none 0 0, .slice none 0 0, .slice none 0 0, .slice none 0 0, .slice none 0 0, .slice none 0 0, .slice none 0 0, .slice none 0 0, .slice none 0 0, .slice none 0 0, .slice none 0 0, .slice none 0 0, .slice none 0 0, .slice none 0 0] 87) = w1 at *
  go_loopw [4] (fun v4 wr => ∃ (k : Nat) (A2 : Option Addr) (c2 : Nat), k ≤ m ∧ v4 = .int .i64 k ∧ Bag wr p (.slice A2 k c2) ∧ wr.ownsRow (p + 1) 29 1 (.slice A2 k c2) k ((List.range k).map vs) ∧ Ok W wr) (fun v4 _ => m - (intOf v4).toNat)
  case atStart => exact ⟨0, none, 0, Nat.zero_le _, rfl, HBN.out, World.ownsRow_nil _ _ _ _, HOA.out⟩
  case round =>
    obtain ⟨k, A2, c2, hk, rfl, hb, ho, okr⟩ := hrel
    have HB := Lib.hid hb
    have HW := Lib.hid ho
    have HO := Lib.hid okr
    clear hb ho okr HBN HOA
    by_cases hlt : k < m
    · have d1 : decide ((k : Int) < (m : Int)) = true := decide_eq_true (by omega)
      obtain ⟨Av, cv, hvk, -⟩ := own_slice (HF.out.own k hlt)
      obtain ⟨b, off, rfl, hc⟩ := HL.out k hlt
      have x0 := HO.out.cell hc
      rw [hvk] at x0
      have HVK := Lib.hid hvk
      clear hc hvk
      have i0 : (0 : Int) ≤ (k : Int) := Int.natCast_nonneg _
      have i1 : (k : Int) < (m : Int) := by omega
      have ek : IntKind.i64.wrap ((k : Int) + 1) = (k : Int) + 1 := IntWalk.i64_in _ (by have := HM.out; omega)
      have HLT : Hid (m - ((k : Int) + 1).toNat < m - (k : Int).toNat) := Lib.hid (by omega)
      generalize ns k = nk at *
      have hpb := putLines_w p A2 k c2 _ Av nk cv wr HB.out HW.out (by have := HM.out; omega)
      go_wp2_with fail
      refine hpb.mono ?_
      clear hpb x0
      rintro _ w2 ⟨rfl, A3, c3, hb3, ho3, hbe⟩
      have HB3 := Lib.hid hb3
      have HW3 : Hid (w2.ownsRow (p + 1) 29 1 (.slice A3 (k + 1) c3) (k + 1) ((List.range (k + 1)).map vs)) := Lib.hid (by rw [row_map, HVK.out]; exact ho3)
      have HO3 : Hid (Ok W w2) := Lib.hid (Below.trans HO.out (by rw [HP.out]; exact hbe))
      clear hb3 ho3 hbe
      go_wp2_with fail
      exact ⟨⟨k + 1, A3, c3, hlt, rfl, HB3.out, HW3.out, HO3.out⟩, HLT.out⟩
    · have d1 : decide ((k : Int) < (m : Int)) = false := decide_eq_false (by omega)
      obtain rfl : k = m := by omega
      clear hlt hk
      have HLS : Hid (LsAt wr A2 k vs) := Lib.hid (fun h0 => by
        rcases own_form HW.out with ⟨_, q⟩ | ⟨g, cap, q⟩
        · omega
        · simp only [Value.slice.injEq] at q
          obtain ⟨rfl, -, rfl⟩ := q
          refine ⟨g, 0, rfl, fun j hj => ?_, fun j hj e => ?_⟩
          · rw [Nat.zero_add, World.ownsRow.cellAt HW.out j (by omega)]
            simp [hj]
          · have h1 := HPW.out j hj g e
            have h2 := (World.ownsRow.lt HW.out g rfl).1
            omega)
      have hap := apart_w p A2 k c2 vs ns C wr HB.out HLS.out (HF.out.below HO.out) HM.out HNS.out (fun j hj e => by have := HPW.out j hj p e; omega)
      go_wp2_with fail
      refine hap.mono ?_
      clear hap d1
      rintro _ w2 ⟨rfl, hkv⟩
      have HKV : Hid (Kv vs k W w2) := Lib.hid (((Kv.refl W).below HO.out).trans hkv)
      clear hkv
      go_wp2_with fail
      go_ret
      exact ⟨rfl, HKV.out⟩
end Go.Proofs.YtebhcadolnjplaaGreat
