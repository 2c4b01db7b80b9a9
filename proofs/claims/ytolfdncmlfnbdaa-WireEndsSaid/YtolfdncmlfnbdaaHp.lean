/- The law WireEnds, walked. -/
import Derived.Test.YtolfdncmlfnbdaaHo
namespace Go.Proofs.Ytolfdncmlfnbdaa
open Go.RowKit

set_option maxRecDepth 100000 in
set_option maxHeartbeats 8000000 in
theorem wireEnds_w (W : World) : Calls Try.prog 5 #[] W fun e w' => e = .returned (.bool true) ∧ Ok W w' := by
  have HOI : Hid (OwnI (W.alloc (.cells #[.int .i64 (-9223372036854775808), .int .i64 (-1), .int .i64 0, .int .i64 1, .int .i64 4611686018427387903, .int .i64 4611686018427387904, .int .i64 9223372036854775807] 3)) W.heap.size (.slice (some ⟨W.heap.size, 0, none⟩) 7 7) [-9223372036854775808, -1, 0, 1, 4611686018427387903, 4611686018427387904, 9223372036854775807]) := Lib.hid ⟨rfl, .inr ⟨W.heap.size, 7, _, rfl, Nat.le_refl _, heap_alloc_new W _, Nat.le_refl _, by decide, rfl, rfl⟩⟩
  have HOK0 : Hid (Ok W (W.alloc (.cells #[.int .i64 (-9223372036854775808), .int .i64 (-1), .int .i64 0, .int .i64 1, .int .i64 4611686018427387903, .int .i64 4611686018427387904, .int .i64 9223372036854775807] 3))) := Lib.hid ((Ok.refl W).alloc _)
  have HAW := Lib.hid (fun V => awake_v V)
  go_enter Try.func5, Try.ntmps5
  go_wp2_with fail
  go_loopw [1, 2] (fun v i wr => ∃ (j n k : Nat) (A : Option Addr) (c : Nat) (xs : List Int), j ≤ 8 ∧ k = 7 + 7 * j ∧ i = .int .i64 (k : Int) ∧ n = 7 + 3 * j ∧ v = .slice A n c ∧ xs.length = n ∧ OwnI wr W.heap.size v xs ∧ Ok W wr) (fun _ i _ => 70 - (intOf i).toNat)
  case atStart => exact ⟨0, 7, 7, some ⟨W.heap.size, 0, none⟩, 7, _, by omega, rfl, rfl, rfl, rfl, rfl, HOI.out, HOK0.out⟩
  case round =>
    obtain ⟨j, n, k, A, c, xs, hj, hkk, rfl, hn, rfl, hxl, how, hok⟩ := hrel
    have HOW := Lib.hid how
    have HOK := Lib.hid hok
    have HXL := Lib.hid hxl
    clear how hok hxl HOI HOK0
    by_cases hlt : j < 8
    · have d1 : decide ((k : Int) < 63) = true := decide_eq_true (by omega)
      have d2 : decide (k < 63) = true := decide_eq_true (by omega)
      have hnb : n ≤ 40 := by omega
      have hk0 : (0 : Int) ≤ (k : Int) := by omega
      have hk63 : (k : Int) < 64 := by omega
      have hk63n : k < 64 := by omega
      have hcv : IntKind.u64.wrap (k : Int) = (k : Int) := by simp only [IntKind.wrap_u64]; omega
      have hek : IntKind.i64.wrap ((k : Int) + 7) = ((k + 7 : Nat) : Int) := by rw [IntWalk.i64_in _ (by omega)]; omega
      have HLT : Hid (70 - ((k + 7 : Nat) : Int).toNat < 70 - (k : Int).toNat) := Lib.hid (by omega)
      have HJ : Hid (k + 7 = 7 + 7 * (j + 1) ∧ n + 3 = 7 + 3 * (j + 1) ∧ j + 1 ≤ 8) := Lib.hid (by omega)
      clear hkk hn
      go_wp2_with (at_builtin; go_must (refine wpList_appI rfl (.tmp 20) (.tmp 32) rfl W.heap.size A n c xs [_, _, _] wr.heap.size 3 rfl rfl rfl HXL.out (HOW.out.ok ((Ok.refl wr).alloc _)) (heap_alloc_new _ _) (by omega) (HOK.out.alloc _).size ?_; intro A2 c2 w2 h2 b2; have HOW2 := Lib.hid h2; have HOK2 : Hid (Ok W w2) := Lib.hid (Below.trans (HOK.out.alloc _) b2); clear h2 b2))
      exact ⟨⟨j + 1, n + 3, k + 7, A2, c2, _, HJ.out.2.2, HJ.out.1, by go_num, HJ.out.2.1, rfl, by rw [List.length_append, HXL.out]; rfl, HOW2.out, HOK2.out⟩, HLT.out⟩
    · obtain rfl : j = 8 := by omega
      have d1 : decide ((k : Int) < 63) = false := decide_eq_false (by omega)
      have d2 : decide (k < 63) = false := decide_eq_false (by omega)
      obtain rfl : n = 31 := by omega
      clear hlt hj hkk hn
      obtain ⟨w0, hw0⟩ : ∃ x, x = wr := ⟨_, rfl⟩
      subst hw0
      obtain ⟨-, hc31, g, rfl, hgB, hgs, hcell⟩ := HOW.out.at (by omega)
      have HC := Lib.hid hcell
      have HGS := Lib.hid hgs
      clear hcell hgB hgs HOW
      go_wp2_with fail
      go_loopw [3] (fun i wr => ∃ k : Nat, k ≤ 31 ∧ i = .int .i64 (k : Int) ∧ Ok w0 wr) (fun i _ => 31 - (intOf i).toNat)
      case atStart => exact ⟨0, by omega, rfl, Ok.refl _⟩
      case round =>
        obtain ⟨k, hk, rfl, hok⟩ := hrel
        have HK := Lib.hid hok
        clear hok
        by_cases hlt : k < 31
        · have d1 : decide ((k : Int) < 31) = true := decide_eq_true (by omega)
          have i0 : (0 : Int) ≤ (k : Int) := by omega
          have i1 : (k : Int) < 31 := by omega
          have i2 : (k : Int) + 1 ≤ (c : Int) := by omega
          have i3 : k + 1 ≤ c := by omega
          have i4 : ¬ c = k := by omega
          have i5 : (k : Int) ≤ (c : Int) := by omega
          have i6 : (k : Int) ≤ 31 := by omega
          have ek : IntKind.i64.wrap ((k : Int) + 1) = (k : Int) + 1 := IntWalk.i64_in _ (by omega)
          have HLT : Hid (31 - ((k : Int) + 1).toNat < 31 - (k : Int).toNat) := Lib.hid (by omega)
          have HX : Hid (∀ V, Ok w0 V → V.cell? ⟨g, k, none⟩ = some (.int .i64 (xs.getD k 0))) := Lib.hid fun V h => h.cell (HC.out k hlt)
          generalize xs.getD k 0 = x at HX
          have x0 := HX.out wr HK.out
          go_wp2_with fail
          (with_reducible refine (writes1 x0).mono ?_)
          rintro _ w1 ⟨rfl, o1⟩
          have HK1 := Lib.hid (Ok.trans HK.out o1)
          clear o1
          go_wp2_with fail
          have HK2 : Hid (Ok w0 ((w1.alloc (.cells #[.bool true] 4)).alloc (.cells #[.string ⟨#[120]⟩] 9))) := Lib.hid ((HK1.out.alloc _).alloc _)
          have hb2 : ((w1.alloc (.cells #[.bool true] 4)).alloc (.cells #[.string ⟨#[120]⟩] 9)).heap[w1.heap.size + 1]? = some (.cells #[.string ⟨#[120]⟩] 9 (0, 0)) := by
            have q := heap_alloc_new (w1.alloc (.cells #[.bool true] 4)) (.cells #[.string ⟨#[120]⟩] 9)
            rwa [World.size_alloc] at q
          have hb1 : (w1.alloc (.cells #[.bool true] 4)).heap[w1.heap.size]? = some (.cells #[.bool true] 4 (0, 0)) := heap_alloc_new _ _
          (with_reducible refine (writes2 (xs := xs.drop k) (s := ⟨#[120]⟩) (by rw [List.length_drop, HXL.out]) (by omega) (by decide) (fun j hj => ?_) ?_ ?_).mono ?_)
          · rw [HK2.out.cell (HC.out (k + j) (by omega))]
            simp
          · rw [cell_of_heap (blk_old hb1)]; rfl
          · rw [cell_of_heap hb2]; rfl
          rintro _ w2 ⟨rfl, o2⟩
          have HK3 := Lib.hid (Ok.trans HK2.out o2)
          clear o2 hb1 hb2 HK2 HK1 x0
          have x2 := HX.out w2 HK3.out
          go_wp2_with fail
          (with_reducible refine (number_ends x w2).mono ?_)
          rintro _ w3 ⟨ok, Ab, M, cb, ys, rfl, hyl, hM, hpos, hob, o3⟩
          cases ok with
          | false =>
            have HK4 := Lib.hid (Ok.trans HK3.out o3)
            clear o3 hob hpos
            go_wp2_with fail
            go_loopw [6] (fun v6 wq => v6 = .int .i64 (-1) ∧ wq = w3) (fun _ _ => 0)
            case atStart => exact ⟨rfl, rfl⟩
            case round =>
              obtain ⟨rfl, rfl⟩ := hrel
              go_wp2_with fail
              exact ⟨⟨k + 1, by omega, by go_num, HK4.out⟩, HLT.out⟩
          | true =>
            obtain ⟨L, rfl⟩ : ∃ L, M = L + 1 := ⟨M - 1, by have := hpos rfl; omega⟩
            obtain ⟨gb, rfl, hcb, hgb⟩ := hob.capd (Nat.succ_pos L)
            have HOB := Lib.hid hob
            have HO3 := Lib.hid o3
            have HYL := Lib.hid hyl
            have HX2 : Hid (∀ V, Ok w2 V → V.cell? ⟨g, k, none⟩ = some (.int .i64 x)) := Lib.hid fun V h => HX.out V (Ok.trans HK3.out h)
            clear hob o3 hyl hpos hgb x2
            have s1 : IntKind.i64.wrap ((L : Int) + 1 - 1) = (L : Int) := by rw [IntWalk.i64_in _ (by omega)]; omega
            have s7 : IntKind.i64.wrap (L : Int) = (L : Int) := IntWalk.i64_in _ (by omega)
            have s2 : (0 : Int) ≤ (L : Int) := by omega
            have s3 : (L : Int) ≤ (cb : Int) := by omega
            have s4 : L ≤ cb := by omega
            have s5 : (L : Int) < (L : Int) + 1 := by omega
            have s6 : (L : Int) + 1 - 1 = (L : Int) := by omega
            go_wp2_with fail
            go_loopw [6] (fun v6 wq => ∃ (kk : Int) (zs : List B8), -1 ≤ kk ∧ kk ≤ 2 ∧ v6 = .int .i64 kk ∧ zs.length = L + 1 ∧ OwnN wq w2.heap.size (.slice (some ⟨gb, 0, none⟩) (L + 1) cb) zs ∧ Ok w2 wq) (fun v6 _ => (3 - intOf v6).toNat)
            case atStart => exact ⟨-1, ys, by omega, by omega, rfl, HYL.out, HOB.out, HO3.out⟩
            case round =>
              obtain ⟨kk, zs, hk1, hk2, rfl, hzl, hob, hok⟩ := hrel
              have HB := Lib.hid hob
              have HQ := Lib.hid hok
              have HZL := Lib.hid hzl
              clear hob hok hzl HOB HO3
              by_cases hkk : kk < 2
              · have d3 : decide (kk < 2) = true := decide_eq_true hkk
                have HMB : Hid (zs.length ≤ 140737488351232) := Lib.hid (by rw [HZL.out]; omega)
                have HMB2 : Hid ((zs ++ [0#8]).length ≤ 140737488351232) := Lib.hid (by rw [List.length_append, HZL.out]; simp; omega)
                go_upto_if 107 with fail
                go_cut [6, 107] (fun v6 v107 wx => v6 = .int .i64 kk ∧ v107 = .bool false ∧ OwnN wx w2.heap.size (.slice (some ⟨gb, 0, none⟩) (L + 1) cb) zs ∧ Ok w2 wx)
                case first =>
                  go_wp2_with fail
                  refine Until.begin (S := (fun V => V.cell? ⟨g, k, none⟩ = some (.int .i64 x))) (j := 20) (by kernel_rfl) ?_ ?_
                  · exact HX2.out _ (HQ.out.drew)
                  intro hS
                  have HD : Hid (Ok wr wr.drew) := Lib.hid ((Ok.refl wr).drew)
                  generalize wr.drew = V0 at *
                  have HQ0 := Lib.hid (Ok.trans HQ.out HD.out)
                  have HB0 := Lib.hid (HB.out.ok HD.out)
                  refine Until.take0 (i := 0) (v := ?v0) rfl (by kernel_rfl) (by kernel_rfl) (by kernel_rfl) (by kernel_rfl) (fun _ _ _ h => h) (Or.inl ⟨by rfl, ?hy0⟩) (fun _ => hS) ?rest0
                  case hy0 => ((intro w hSw); clear hSw; go_simp; (try with_reducible rfl))
                  try go_frame
                  refine Until.take0 (i := 1) (v := ?v1) rfl (by kernel_rfl) (by kernel_rfl) (by kernel_rfl) (by kernel_rfl) (fun _ _ _ h => h) (Or.inl ⟨by rfl, ?hy1⟩) (fun _ => hS) ?rest1
                  case hy1 => ((intro w hSw); clear hSw; go_simp; (try with_reducible rfl))
                  try go_frame
                  refine Until.take0 (i := 2) (v := ?v2) rfl (by kernel_rfl) (by kernel_rfl) (by kernel_rfl) (by kernel_rfl) (fun _ _ _ h => h) (Or.inl ⟨by rfl, ?hy2⟩) (fun _ => hS) ?rest2
                  case hy2 => ((intro w hSw); clear hSw; go_simp; (try with_reducible rfl))
                  try go_frame
                  refine Until.take0 (i := 3) (v := ?v3) rfl (by kernel_rfl) (by kernel_rfl) (by kernel_rfl) (by kernel_rfl) (fun _ _ _ h => h) (Or.inl ⟨by rfl, ?hy3⟩) (fun _ => hS) ?rest3
                  case hy3 => ((intro w hSw); clear hSw; go_simp; (try with_reducible rfl))
                  try go_frame
                  refine Until.take0 (i := 5) (v := ?v5) rfl (by kernel_rfl) (by kernel_rfl) (by kernel_rfl) (by kernel_rfl) (fun _ _ _ h => h) (Or.inl ⟨by rfl, ?hy5⟩) (fun _ => hS) ?rest5
                  case hy5 => ((intro w hSw); clear hSw; go_simp; (try with_reducible rfl))
                  try go_frame
                  refine Until.take0 (i := 8) (v := ?v8) rfl (by kernel_rfl) (by kernel_rfl) (by kernel_rfl) (by kernel_rfl) (fun _ _ _ h => h) (Or.inl ⟨by rfl, ?hy8⟩) (fun _ => hS) ?rest8
                  case hy8 => ((intro w hSw); clear hSw; go_simp; (try with_reducible rfl))
                  try go_frame
                  refine Until.one (i := 4) (by kernel_rfl) rfl (fun K hK => ?_)
                  have HK := Lib.hid hK
                  clear hK
                  go_simp
                  refine HK.out.out _ _ (fun _ => hS) (fun _ => ?_)
                  clear HK K
                  try go_frame
                  refine Until.take0 (i := 6) (v := ?v6) rfl (by kernel_rfl) (by kernel_rfl) (by kernel_rfl) (by kernel_rfl) (fun _ _ _ h => h) (Or.inl ⟨by rfl, ?hy6⟩) (fun _ => hS) ?rest6
                  case hy6 => ((intro w hSw); clear hSw; go_simp; (try with_reducible rfl))
                  try go_frame
                  refine Until.take0 (i := 7) (v := ?v7) rfl (by kernel_rfl) (by kernel_rfl) (by kernel_rfl) (by kernel_rfl) (fun _ _ _ h => h) (Or.inl ⟨by rfl, ?hy7⟩) (fun _ => hS) ?rest7
                  case hy7 => ((intro w hSw); clear hSw; go_simp; (try with_reducible rfl))
                  try go_frame
                  refine Until.one (i := 9) (by kernel_rfl) rfl (fun K hK => ?_)
                  have HK := Lib.hid hK
                  clear hK
                  go_simp
                  refine HK.out.out _ _ (fun _ => (HX2.out (V0.alloc (.cells #[.int .i64 0, .int .i64 (IntKind.i64.wrap (x + kk)), .int .i64 1, .int .i64 0] 52)) (HQ0.out.alloc _))) (fun _ => ?_)
                  clear hS
                  have hS := (HX2.out (V0.alloc (.cells #[.int .i64 0, .int .i64 (IntKind.i64.wrap (x + kk)), .int .i64 1, .int .i64 0] 52)) (HQ0.out.alloc _))
                  clear HK K
                  try go_frame
                  refine Until.one (i := 10) (by kernel_rfl) rfl (fun K hK => ?_)
                  have HK := Lib.hid hK
                  clear hK
                  go_simp
                  refine (reads2 ((HB0.out.ok ((Ok.refl V0).alloc _)).bytes HMB.out) (heap_alloc_new V0 _)).mono ?_
                  rintro _ w5 ⟨rfl, o5⟩
                  have HQ5 : Hid (Ok w2 w5) := Lib.hid (Ok.trans (HQ0.out.alloc _) o5)
                  have HB5 : Hid (OwnN w5 w2.heap.size (.slice (some ⟨gb, 0, none⟩) (L + 1) cb) zs) := Lib.hid (OwnN.ok (OwnN.ok HB0.out ((Ok.refl V0).alloc _)) o5)
                  clear o5
                  refine HK.out.out _ _ (fun _ => (HX2.out _ HQ5.out)) (fun _ => ?_)
                  clear hS
                  have hS := (HX2.out _ HQ5.out)
                  clear HK K
                  try go_frame
                  refine Until.take0 (i := 11) (v := ?v11) rfl (by kernel_rfl) (by kernel_rfl) (by kernel_rfl) (by kernel_rfl) (fun _ _ _ h => h) (Or.inl ⟨by rfl, ?hy11⟩) (fun _ => hS) ?rest11
                  case hy11 => ((intro w hSw); clear hSw; go_simp; (try with_reducible rfl))
                  try go_frame
                  refine Until.take0 (i := 12) (v := ?v12) rfl (by kernel_rfl) (by kernel_rfl) (by kernel_rfl) (by kernel_rfl) (fun _ _ _ h => h) (Or.inl ⟨by rfl, ?hy12⟩) (fun _ => hS) ?rest12
                  case hy12 => ((intro w hSw); clear hSw; go_simp; (try with_reducible rfl))
                  try go_frame
                  refine Until.take0 (i := 13) (v := ?v13) rfl (by kernel_rfl) (by kernel_rfl) (by kernel_rfl) (by kernel_rfl) (fun _ _ _ h => h) (Or.inl ⟨by rfl, ?hy13⟩) (fun _ => hS) ?rest13
                  case hy13 => ((intro w hSw); clear hSw; go_simp; (try with_reducible rfl))
                  try go_frame
                  refine Until.take0 (i := 16) (v := ?v16) rfl (by kernel_rfl) (by kernel_rfl) (by kernel_rfl) (by kernel_rfl) (fun _ _ _ h => h) (Or.inl ⟨by rfl, ?hy16⟩) (fun _ => hS) ?rest16
                  case hy16 => ((intro w hSw); clear hSw; go_simp; (try with_reducible rfl))
                  try go_frame
                  refine Until.take0 (i := 17) (v := ?v17) rfl (by kernel_rfl) (by kernel_rfl) (by kernel_rfl) (by kernel_rfl) (fun _ _ _ h => h) (Or.inl ⟨by rfl, ?hy17⟩) (fun _ => hS) ?rest17
                  case hy17 => ((intro w hSw); clear hSw; go_simp; (try with_reducible rfl))
                  try go_frame
                  refine Until.take0 (i := 18) (v := ?v18) rfl (by kernel_rfl) (by kernel_rfl) (by kernel_rfl) (by kernel_rfl) (fun _ _ _ h => h) (Or.inl ⟨by rfl, ?hy18⟩) (fun _ => hS) ?rest18
                  case hy18 => ((intro w hSw); clear hSw; go_simp; (try with_reducible rfl))
                  try go_frame
                  refine Until.take (i := 19) (v := ?v19) rfl (by kernel_rfl) (by kernel_rfl) (by kernel_rfl) (by kernel_rfl) (fun _ _ _ h => h) (Or.inl ⟨by rfl, ?hy19⟩) hS ?rest19
                  case hy19 => ((intro w hSw; (try dsimp only at hSw)); skip; go_simp; (try with_reducible rfl))
                  try go_frame
                  refine Until.take0 (i := 21) (v := ?v21) rfl (by kernel_rfl) (by kernel_rfl) (by kernel_rfl) (by kernel_rfl) (fun _ _ _ h => h) (Or.inl ⟨by rfl, ?hy21⟩) (fun _ => hS) ?rest21
                  case hy21 => ((intro w hSw); clear hSw; go_simp; (try with_reducible rfl))
                  try go_frame
                  refine Until.two (i := 14) (k := 20) (by kernel_rfl) rfl rfl (fun K hK => ?_) (fun K hK => ?_)
                  · have HK := Lib.hid hK
                    clear hK
                    go_simp
                    have HB1 := Lib.hid (HB5.out.ok ((Ok.refl w5).alloc (.cells #[.int .u8 0] 5)))
                    have HQ2 := Lib.hid (Ok.alloc HQ5.out (.cells #[.int .u8 0] 5))
                    have N143 : Hid ((w5.alloc (.cells #[.int .u8 0] 5)).heap[w5.heap.size]? = some (.cells #[.int .u8 (ub 0#8)] 5 (0, 0))) := Lib.hid (heap_alloc_new w5 _)
                    refine HK.out.out _ _ (fun _ => (HX2.out _ HQ2.out)) (fun _ => ?_)
                    clear hS
                    have hS := (HX2.out _ HQ2.out)
                    clear HK K
                    try go_frame
                    refine Until.two (i := 15) (k := 20) (by kernel_rfl) rfl rfl (fun K hK => ?_) (fun K hK => ?_)
                    · have HK := Lib.hid hK
                      clear hK
                      refine step_appK (by rfl) (.tmp 84) (.tmp 85) rfl w2.heap.size (some ⟨gb, 0, none⟩) (L + 1) cb zs 0#8 (w5.heap.size) rfl rfl HZL.out HB1.out N143.out (by omega) HQ2.out.size ?_
                      intro A4 c4 wa4 hl4 ho4 hb4 hg4
                      have HL5 := Lib.hid hl4
                      have HB6 := Lib.hid ho4
                      have HQ7 : Hid (Ok w2 wa4) := Lib.hid (Below.trans HQ2.out hb4)
                      clear hl4 ho4 hb4 hg4
                      refine HK.out.out _ _ (fun _ => (HX2.out _ HQ7.out)) (fun _ => ?_)
                      clear hS
                      have hS := (HX2.out _ HQ7.out)
                      clear HK K
                      try go_frame
                      refine Until.one (i := 20) (by kernel_rfl) rfl (fun K hK => ?_)
                      have HK := Lib.hid hK
                      clear hK
                      go_simp
                      refine HK.out.out _ _ (fun h => absurd (h.symm.trans (by kernel_rfl : _ = true)) Bool.false_ne_true) (fun _ => ?_)
                      clear HK K
                      try go_frame
                      refine Until.one (i := 22) (by kernel_rfl) rfl (fun K hK => ?_)
                      have HK := Lib.hid hK
                      clear hK
                      go_simp
                      have HB8 := Lib.hid (HB6.out.ok ((Ok.refl wa4).alloc (.cells #[.int .i64 0, .int .i64 x, .int .i64 1, .int .i64 0] 52)))
                      have HQ9 := Lib.hid (Ok.alloc HQ7.out (.cells #[.int .i64 0, .int .i64 x, .int .i64 1, .int .i64 0] 52))
                      have HL10 := Lib.hid (HL5.out.ok ((Ok.refl wa4).alloc (.cells #[.int .i64 0, .int .i64 x, .int .i64 1, .int .i64 0] 52)))
                      have C2211 : Hid ((wa4.alloc (.cells #[.int .i64 0, .int .i64 x, .int .i64 1, .int .i64 0] 52)).heap[wa4.heap.size]? = some (.cells #[.int .i64 0, .int .i64 x, .int .i64 1, .int .i64 0] 52 (0, 0))) := Lib.hid (heap_alloc_new wa4 _)
                      refine HK.out.out _ _ (fun h => absurd (h.symm.trans (by kernel_rfl : _ = true)) Bool.false_ne_true) (fun _ => ?_)
                      clear HK K
                      try go_frame
                      refine Until.one (i := 23) (by kernel_rfl) rfl (fun K hK => ?_)
                      have HK := Lib.hid hK
                      clear hK
                      go_simp
                      refine (reads2 (HL10.out.bytes HMB2.out) C2211.out).mono ?_
                      rintro _ wc12 ⟨rfl, oc⟩
                      have HB13 := Lib.hid (HB8.out.ok oc)
                      have HQ14 := Lib.hid (Ok.trans HQ9.out oc)
                      clear oc
                      refine HK.out.out _ _ (fun h => absurd (h.symm.trans (by kernel_rfl : _ = true)) Bool.false_ne_true) (fun _ => ?_)
                      clear HK K
                      try go_frame
                      refine Until.one (i := 24) (by kernel_rfl) rfl (fun K hK => ?_)
                      have HK := Lib.hid hK
                      clear hK
                      go_simp
                      refine HK.out.out _ _ (fun h => absurd (h.symm.trans (by kernel_rfl : _ = true)) Bool.false_ne_true) (fun _ => ?_)
                      clear HK K
                      try go_frame
                      refine Until.one (i := 25) (by kernel_rfl) rfl (fun K hK => ?_)
                      have HK := Lib.hid hK
                      clear hK
                      go_simp
                      refine HK.out.out _ _ (fun h => absurd (h.symm.trans (by kernel_rfl : _ = true)) Bool.false_ne_true) (fun _ => ?_)
                      clear HK K
                      try go_frame
                      refine Until.one (i := 26) (by kernel_rfl) rfl (fun K hK => ?_)
                      have HK := Lib.hid hK
                      clear hK
                      go_simp
                      refine HK.out.out _ _ (fun h => absurd (h.symm.trans (by kernel_rfl : _ = true)) Bool.false_ne_true) (fun _ => ?_)
                      clear HK K
                      try go_frame
                      refine Until.take0 (i := 27) (v := ?v27b14b15) rfl (by kernel_rfl) (by kernel_rfl) (by kernel_rfl) (by kernel_rfl) (fun _ _ _ h => h) (Or.inl ⟨by rfl, ?hy27b14b15⟩) (fun h => absurd (h.symm.trans (by kernel_rfl : _ = true)) Bool.false_ne_true) ?rest27b14b15
                      case hy27b14b15 => ((intro w hSw); clear hSw; go_simp; (try with_reducible rfl))
                      try go_frame
                      refine Until.take0 (i := 28) (v := ?v28b14b15) rfl (by kernel_rfl) (by kernel_rfl) (by kernel_rfl) (by kernel_rfl) (fun _ _ _ h => h) (Or.inl ⟨by rfl, ?hy28b14b15⟩) (fun h => absurd (h.symm.trans (by kernel_rfl : _ = true)) Bool.false_ne_true) ?rest28b14b15
                      case hy28b14b15 => ((intro w hSw); clear hSw; go_simp; (try with_reducible rfl))
                      try go_frame
                      refine Until.take0 (i := 29) (v := ?v29b14b15) rfl (by kernel_rfl) (by kernel_rfl) (by kernel_rfl) (by kernel_rfl) (fun _ _ _ h => h) (Or.inl ⟨by rfl, ?hy29b14b15⟩) (fun h => absurd (h.symm.trans (by kernel_rfl : _ = true)) Bool.false_ne_true) ?rest29b14b15
                      case hy29b14b15 => ((intro w hSw); clear hSw; go_simp; (try with_reducible rfl))
                      try go_frame
                      refine Until.take0 (i := 30) (v := ?v30b14b15) rfl (by kernel_rfl) (by kernel_rfl) (by kernel_rfl) (by kernel_rfl) (fun _ _ _ h => h) (Or.inl ⟨by rfl, ?hy30b14b15⟩) (fun h => absurd (h.symm.trans (by kernel_rfl : _ = true)) Bool.false_ne_true) ?rest30b14b15
                      case hy30b14b15 => ((intro w hSw); clear hSw; go_simp; (try with_reducible rfl))
                      try go_frame
                      refine Until.take0 (i := 31) (v := ?v31b14b15) rfl (by kernel_rfl) (by kernel_rfl) (by kernel_rfl) (by kernel_rfl) (fun _ _ _ h => h) (Or.inl ⟨by rfl, ?hy31b14b15⟩) (fun h => absurd (h.symm.trans (by kernel_rfl : _ = true)) Bool.false_ne_true) ?rest31b14b15
                      case hy31b14b15 => ((intro w hSw); clear hSw; go_simp; (try with_reducible rfl))
                      try go_frame
                      refine Until.one (i := 32) (by kernel_rfl) rfl (fun K hK => ?_)
                      have HK := Lib.hid hK
                      clear hK
                      go_simp
                      refine HK.out.out _ _ (fun h => absurd (h.symm.trans (by kernel_rfl : _ = true)) Bool.false_ne_true) (fun _ => ?_)
                      clear HK K
                      try go_frame
                      refine Until.one (i := 33) (by kernel_rfl) rfl (fun K hK => ?_)
                      have HK := Lib.hid hK
                      clear hK
                      go_simp
                      have HB15 := Lib.hid (HB13.out.ok ((Ok.refl wc12).alloc (.cells #[.int .i64 0, .int .i64 4611686018427387904] 52)))
                      have HQ16 := Lib.hid (Ok.alloc HQ14.out (.cells #[.int .i64 0, .int .i64 4611686018427387904] 52))
                      refine HK.out.out _ _ (fun h => absurd (h.symm.trans (by kernel_rfl : _ = true)) Bool.false_ne_true) (fun _ => ?_)
                      clear HK K
                      try go_frame
                      refine Until.one (i := 34) (by kernel_rfl) rfl (fun K hK => ?_)
                      have HK := Lib.hid hK
                      clear hK
                      go_simp
                      refine (reads1 (bytes_take (N := L) (HB15.out.bytes HMB.out) (by rw [HZL.out]; omega)) (heap_alloc_new wc12 _)).mono ?_
                      rintro _ wd17 ⟨rfl, od⟩
                      have HB18 := Lib.hid (HB15.out.ok od)
                      have HQ19 := Lib.hid (Ok.trans HQ16.out od)
                      clear od
                      refine HK.out.out _ _ (fun h => absurd (h.symm.trans (by kernel_rfl : _ = true)) Bool.false_ne_true) (fun _ => ?_)
                      clear HK K
                      try go_frame
                      refine Until.one (i := 35) (by kernel_rfl) rfl (fun K hK => ?_)
                      have HK := Lib.hid hK
                      clear hK
                      go_simp
                      refine HK.out.out _ _ (fun h => absurd (h.symm.trans (by kernel_rfl : _ = true)) Bool.false_ne_true) (fun _ => ?_)
                      clear HK K
                      try go_frame
                      refine Until.one (i := 36) (by kernel_rfl) rfl (fun K hK => ?_)
                      have HK := Lib.hid hK
                      clear hK
                      go_simp
                      refine HK.out.out _ _ (fun h => absurd (h.symm.trans (by kernel_rfl : _ = true)) Bool.false_ne_true) (fun _ => ?_)
                      clear HK K
                      try go_frame
                      refine Until.done (by kernel_rfl) ?_ _
                      go_wp2_with fail
                      go_meet
                      case rel => exact ⟨rfl, rfl, HB18.out, HQ19.out⟩
                    · have HK := Lib.hid hK
                      clear hK
                      go_simp
                      refine HK.out.out _ _ (fun h => absurd (h.symm.trans (by kernel_rfl : _ = true)) Bool.false_ne_true) (fun _ => ?_)
                      clear HK K
                      try go_frame
                      refine Until.two (i := 15) (k := 22) (by kernel_rfl) rfl rfl (fun K hK => ?_) (fun K hK => ?_)
                      · have HK := Lib.hid hK
                        clear hK
                        refine step_appK (by rfl) (.tmp 84) (.tmp 85) rfl w2.heap.size (some ⟨gb, 0, none⟩) (L + 1) cb zs 0#8 (w5.heap.size) rfl rfl HZL.out HB1.out N143.out (by omega) HQ2.out.size ?_
                        intro A20 c20 wa20 hl20 ho20 hb20 hg20
                        have HL21 := Lib.hid hl20
                        have HB22 := Lib.hid ho20
                        have HQ23 : Hid (Ok w2 wa20) := Lib.hid (Below.trans HQ2.out hb20)
                        clear hl20 ho20 hb20 hg20
                        refine HK.out.out _ _ (fun h => absurd (h.symm.trans (by kernel_rfl : _ = true)) Bool.false_ne_true) (fun _ => ?_)
                        clear HK K
                        try go_frame
                        refine Until.one (i := 22) (by kernel_rfl) rfl (fun K hK => ?_)
                        have HK := Lib.hid hK
                        clear hK
                        go_simp
                        have HB24 := Lib.hid (HB22.out.ok ((Ok.refl wa20).alloc (.cells #[.int .i64 0, .int .i64 x, .int .i64 1, .int .i64 0] 52)))
                        have HQ25 := Lib.hid (Ok.alloc HQ23.out (.cells #[.int .i64 0, .int .i64 x, .int .i64 1, .int .i64 0] 52))
                        have HL26 := Lib.hid (HL21.out.ok ((Ok.refl wa20).alloc (.cells #[.int .i64 0, .int .i64 x, .int .i64 1, .int .i64 0] 52)))
                        have C2227 : Hid ((wa20.alloc (.cells #[.int .i64 0, .int .i64 x, .int .i64 1, .int .i64 0] 52)).heap[wa20.heap.size]? = some (.cells #[.int .i64 0, .int .i64 x, .int .i64 1, .int .i64 0] 52 (0, 0))) := Lib.hid (heap_alloc_new wa20 _)
                        refine HK.out.out _ _ (fun h => absurd (h.symm.trans (by kernel_rfl : _ = true)) Bool.false_ne_true) (fun _ => ?_)
                        clear HK K
                        try go_frame
                        refine Until.one (i := 23) (by kernel_rfl) rfl (fun K hK => ?_)
                        have HK := Lib.hid hK
                        clear hK
                        go_simp
                        refine (reads2 (HL26.out.bytes HMB2.out) C2227.out).mono ?_
                        rintro _ wc28 ⟨rfl, oc⟩
                        have HB29 := Lib.hid (HB24.out.ok oc)
                        have HQ30 := Lib.hid (Ok.trans HQ25.out oc)
                        clear oc
                        refine HK.out.out _ _ (fun h => absurd (h.symm.trans (by kernel_rfl : _ = true)) Bool.false_ne_true) (fun _ => ?_)
                        clear HK K
                        try go_frame
                        refine Until.one (i := 24) (by kernel_rfl) rfl (fun K hK => ?_)
                        have HK := Lib.hid hK
                        clear hK
                        go_simp
                        refine HK.out.out _ _ (fun h => absurd (h.symm.trans (by kernel_rfl : _ = true)) Bool.false_ne_true) (fun _ => ?_)
                        clear HK K
                        try go_frame
                        refine Until.one (i := 25) (by kernel_rfl) rfl (fun K hK => ?_)
                        have HK := Lib.hid hK
                        clear hK
                        go_simp
                        refine HK.out.out _ _ (fun h => absurd (h.symm.trans (by kernel_rfl : _ = true)) Bool.false_ne_true) (fun _ => ?_)
                        clear HK K
                        try go_frame
                        refine Until.one (i := 26) (by kernel_rfl) rfl (fun K hK => ?_)
                        have HK := Lib.hid hK
                        clear hK
                        go_simp
                        refine HK.out.out _ _ (fun h => absurd (h.symm.trans (by kernel_rfl : _ = true)) Bool.false_ne_true) (fun _ => ?_)
                        clear HK K
                        try go_frame
                        refine Until.take0 (i := 27) (v := ?v27b14b20b15) rfl (by kernel_rfl) (by kernel_rfl) (by kernel_rfl) (by kernel_rfl) (fun _ _ _ h => h) (Or.inl ⟨by rfl, ?hy27b14b20b15⟩) (fun h => absurd (h.symm.trans (by kernel_rfl : _ = true)) Bool.false_ne_true) ?rest27b14b20b15
                        case hy27b14b20b15 => ((intro w hSw); clear hSw; go_simp; (try with_reducible rfl))
                        try go_frame
                        refine Until.take0 (i := 28) (v := ?v28b14b20b15) rfl (by kernel_rfl) (by kernel_rfl) (by kernel_rfl) (by kernel_rfl) (fun _ _ _ h => h) (Or.inl ⟨by rfl, ?hy28b14b20b15⟩) (fun h => absurd (h.symm.trans (by kernel_rfl : _ = true)) Bool.false_ne_true) ?rest28b14b20b15
                        case hy28b14b20b15 => ((intro w hSw); clear hSw; go_simp; (try with_reducible rfl))
                        try go_frame
                        refine Until.take0 (i := 29) (v := ?v29b14b20b15) rfl (by kernel_rfl) (by kernel_rfl) (by kernel_rfl) (by kernel_rfl) (fun _ _ _ h => h) (Or.inl ⟨by rfl, ?hy29b14b20b15⟩) (fun h => absurd (h.symm.trans (by kernel_rfl : _ = true)) Bool.false_ne_true) ?rest29b14b20b15
                        case hy29b14b20b15 => ((intro w hSw); clear hSw; go_simp; (try with_reducible rfl))
                        try go_frame
                        refine Until.take0 (i := 30) (v := ?v30b14b20b15) rfl (by kernel_rfl) (by kernel_rfl) (by kernel_rfl) (by kernel_rfl) (fun _ _ _ h => h) (Or.inl ⟨by rfl, ?hy30b14b20b15⟩) (fun h => absurd (h.symm.trans (by kernel_rfl : _ = true)) Bool.false_ne_true) ?rest30b14b20b15
                        case hy30b14b20b15 => ((intro w hSw); clear hSw; go_simp; (try with_reducible rfl))
                        try go_frame
                        refine Until.take0 (i := 31) (v := ?v31b14b20b15) rfl (by kernel_rfl) (by kernel_rfl) (by kernel_rfl) (by kernel_rfl) (fun _ _ _ h => h) (Or.inl ⟨by rfl, ?hy31b14b20b15⟩) (fun h => absurd (h.symm.trans (by kernel_rfl : _ = true)) Bool.false_ne_true) ?rest31b14b20b15
                        case hy31b14b20b15 => ((intro w hSw); clear hSw; go_simp; (try with_reducible rfl))
                        try go_frame
                        refine Until.one (i := 32) (by kernel_rfl) rfl (fun K hK => ?_)
                        have HK := Lib.hid hK
                        clear hK
                        go_simp
                        refine HK.out.out _ _ (fun h => absurd (h.symm.trans (by kernel_rfl : _ = true)) Bool.false_ne_true) (fun _ => ?_)
                        clear HK K
                        try go_frame
                        refine Until.one (i := 33) (by kernel_rfl) rfl (fun K hK => ?_)
                        have HK := Lib.hid hK
                        clear hK
                        go_simp
                        have HB31 := Lib.hid (HB29.out.ok ((Ok.refl wc28).alloc (.cells #[.int .i64 0, .int .i64 4611686018427387904] 52)))
                        have HQ32 := Lib.hid (Ok.alloc HQ30.out (.cells #[.int .i64 0, .int .i64 4611686018427387904] 52))
                        refine HK.out.out _ _ (fun h => absurd (h.symm.trans (by kernel_rfl : _ = true)) Bool.false_ne_true) (fun _ => ?_)
                        clear HK K
                        try go_frame
                        refine Until.one (i := 34) (by kernel_rfl) rfl (fun K hK => ?_)
                        have HK := Lib.hid hK
                        clear hK
                        go_simp
                        refine (reads1 (bytes_take (N := L) (HB31.out.bytes HMB.out) (by rw [HZL.out]; omega)) (heap_alloc_new wc28 _)).mono ?_
                        rintro _ wd33 ⟨rfl, od⟩
                        have HB34 := Lib.hid (HB31.out.ok od)
                        have HQ35 := Lib.hid (Ok.trans HQ32.out od)
                        clear od
                        refine HK.out.out _ _ (fun h => absurd (h.symm.trans (by kernel_rfl : _ = true)) Bool.false_ne_true) (fun _ => ?_)
                        clear HK K
                        try go_frame
                        refine Until.one (i := 35) (by kernel_rfl) rfl (fun K hK => ?_)
                        have HK := Lib.hid hK
                        clear hK
                        go_simp
                        refine HK.out.out _ _ (fun h => absurd (h.symm.trans (by kernel_rfl : _ = true)) Bool.false_ne_true) (fun _ => ?_)
                        clear HK K
                        try go_frame
                        refine Until.one (i := 36) (by kernel_rfl) rfl (fun K hK => ?_)
                        have HK := Lib.hid hK
                        clear hK
                        go_simp
                        refine HK.out.out _ _ (fun h => absurd (h.symm.trans (by kernel_rfl : _ = true)) Bool.false_ne_true) (fun _ => ?_)
                        clear HK K
                        try go_frame
                        refine Until.done (by kernel_rfl) ?_ _
                        go_wp2_with fail
                        go_meet
                        case rel => exact ⟨rfl, rfl, HB34.out, HQ35.out⟩
                      · have HK := Lib.hid hK
                        clear hK
                        go_simp
                        have HB36 := Lib.hid (HB1.out.ok ((Ok.refl (w5.alloc (.cells #[.int .u8 0] 5))).alloc (.cells #[.int .i64 0, .int .i64 x, .int .i64 1, .int .i64 0] 52)))
                        have HQ37 := Lib.hid (Ok.alloc HQ2.out (.cells #[.int .i64 0, .int .i64 x, .int .i64 1, .int .i64 0] 52))
                        have N1438 := Lib.hid (blk_old (o' := .cells #[.int .i64 0, .int .i64 x, .int .i64 1, .int .i64 0] 52) N143.out)
                        have C2239 : Hid (((w5.alloc (.cells #[.int .u8 0] 5)).alloc (.cells #[.int .i64 0, .int .i64 x, .int .i64 1, .int .i64 0] 52)).heap[w5.heap.size + 1]? = some (.cells #[.int .i64 0, .int .i64 x, .int .i64 1, .int .i64 0] 52 (0, 0))) := Lib.hid (by have q := heap_alloc_new (w5.alloc (.cells #[.int .u8 0] 5)) (.cells #[.int .i64 0, .int .i64 x, .int .i64 1, .int .i64 0] 52); rw [World.size_alloc] at q; exact q)
                        refine HK.out.out _ _ (fun h => absurd (h.symm.trans (by kernel_rfl : _ = true)) Bool.false_ne_true) (fun _ => ?_)
                        clear HK K
                        try go_frame
                        refine Until.one (i := 15) (by kernel_rfl) rfl (fun K hK => ?_)
                        have HK := Lib.hid hK
                        clear hK
                        refine step_appK (by rfl) (.tmp 84) (.tmp 85) rfl w2.heap.size (some ⟨gb, 0, none⟩) (L + 1) cb zs 0#8 (w5.heap.size) rfl rfl HZL.out HB36.out N1438.out (by omega) HQ37.out.size ?_
                        intro A40 c40 wa40 hl40 ho40 hb40 hg40
                        have HL41 := Lib.hid hl40
                        have HB42 := Lib.hid ho40
                        have HQ43 : Hid (Ok w2 wa40) := Lib.hid (Below.trans HQ37.out hb40)
                        have C2244 := Lib.hid ((hg40.block _ (Array.getElem?_eq_some_iff.1 C2239.out).1 (fun e => own_ty HB36.out C2239.out (by decide) e.symm)).trans C2239.out)
                        clear hl40 ho40 hb40 hg40
                        refine HK.out.out _ _ (fun h => absurd (h.symm.trans (by kernel_rfl : _ = true)) Bool.false_ne_true) (fun _ => ?_)
                        clear HK K
                        try go_frame
                        refine Until.one (i := 23) (by kernel_rfl) rfl (fun K hK => ?_)
                        have HK := Lib.hid hK
                        clear hK
                        go_simp
                        refine (reads2 (HL41.out.bytes HMB2.out) C2244.out).mono ?_
                        rintro _ wc45 ⟨rfl, oc⟩
                        have HB46 := Lib.hid (HB42.out.ok oc)
                        have HQ47 := Lib.hid (Ok.trans HQ43.out oc)
                        clear oc
                        refine HK.out.out _ _ (fun h => absurd (h.symm.trans (by kernel_rfl : _ = true)) Bool.false_ne_true) (fun _ => ?_)
                        clear HK K
                        try go_frame
                        refine Until.one (i := 24) (by kernel_rfl) rfl (fun K hK => ?_)
                        have HK := Lib.hid hK
                        clear hK
                        go_simp
                        refine HK.out.out _ _ (fun h => absurd (h.symm.trans (by kernel_rfl : _ = true)) Bool.false_ne_true) (fun _ => ?_)
                        clear HK K
                        try go_frame
                        refine Until.one (i := 25) (by kernel_rfl) rfl (fun K hK => ?_)
                        have HK := Lib.hid hK
                        clear hK
                        go_simp
                        refine HK.out.out _ _ (fun h => absurd (h.symm.trans (by kernel_rfl : _ = true)) Bool.false_ne_true) (fun _ => ?_)
                        clear HK K
                        try go_frame
                        refine Until.one (i := 26) (by kernel_rfl) rfl (fun K hK => ?_)
                        have HK := Lib.hid hK
                        clear hK
                        go_simp
                        refine HK.out.out _ _ (fun h => absurd (h.symm.trans (by kernel_rfl : _ = true)) Bool.false_ne_true) (fun _ => ?_)
                        clear HK K
                        try go_frame
                        refine Until.take0 (i := 27) (v := ?v27b14b20b22) rfl (by kernel_rfl) (by kernel_rfl) (by kernel_rfl) (by kernel_rfl) (fun _ _ _ h => h) (Or.inl ⟨by rfl, ?hy27b14b20b22⟩) (fun h => absurd (h.symm.trans (by kernel_rfl : _ = true)) Bool.false_ne_true) ?rest27b14b20b22
                        case hy27b14b20b22 => ((intro w hSw); clear hSw; go_simp; (try with_reducible rfl))
                        try go_frame
                        refine Until.take0 (i := 28) (v := ?v28b14b20b22) rfl (by kernel_rfl) (by kernel_rfl) (by kernel_rfl) (by kernel_rfl) (fun _ _ _ h => h) (Or.inl ⟨by rfl, ?hy28b14b20b22⟩) (fun h => absurd (h.symm.trans (by kernel_rfl : _ = true)) Bool.false_ne_true) ?rest28b14b20b22
                        case hy28b14b20b22 => ((intro w hSw); clear hSw; go_simp; (try with_reducible rfl))
                        try go_frame
                        refine Until.take0 (i := 29) (v := ?v29b14b20b22) rfl (by kernel_rfl) (by kernel_rfl) (by kernel_rfl) (by kernel_rfl) (fun _ _ _ h => h) (Or.inl ⟨by rfl, ?hy29b14b20b22⟩) (fun h => absurd (h.symm.trans (by kernel_rfl : _ = true)) Bool.false_ne_true) ?rest29b14b20b22
                        case hy29b14b20b22 => ((intro w hSw); clear hSw; go_simp; (try with_reducible rfl))
                        try go_frame
                        refine Until.take0 (i := 30) (v := ?v30b14b20b22) rfl (by kernel_rfl) (by kernel_rfl) (by kernel_rfl) (by kernel_rfl) (fun _ _ _ h => h) (Or.inl ⟨by rfl, ?hy30b14b20b22⟩) (fun h => absurd (h.symm.trans (by kernel_rfl : _ = true)) Bool.false_ne_true) ?rest30b14b20b22
                        case hy30b14b20b22 => ((intro w hSw); clear hSw; go_simp; (try with_reducible rfl))
                        try go_frame
                        refine Until.take0 (i := 31) (v := ?v31b14b20b22) rfl (by kernel_rfl) (by kernel_rfl) (by kernel_rfl) (by kernel_rfl) (fun _ _ _ h => h) (Or.inl ⟨by rfl, ?hy31b14b20b22⟩) (fun h => absurd (h.symm.trans (by kernel_rfl : _ = true)) Bool.false_ne_true) ?rest31b14b20b22
                        case hy31b14b20b22 => ((intro w hSw); clear hSw; go_simp; (try with_reducible rfl))
                        try go_frame
                        refine Until.one (i := 32) (by kernel_rfl) rfl (fun K hK => ?_)
                        have HK := Lib.hid hK
                        clear hK
                        go_simp
                        refine HK.out.out _ _ (fun h => absurd (h.symm.trans (by kernel_rfl : _ = true)) Bool.false_ne_true) (fun _ => ?_)
                        clear HK K
                        try go_frame
                        refine Until.one (i := 33) (by kernel_rfl) rfl (fun K hK => ?_)
                        have HK := Lib.hid hK
                        clear hK
                        go_simp
                        have HB48 := Lib.hid (HB46.out.ok ((Ok.refl wc45).alloc (.cells #[.int .i64 0, .int .i64 4611686018427387904] 52)))
                        have HQ49 := Lib.hid (Ok.alloc HQ47.out (.cells #[.int .i64 0, .int .i64 4611686018427387904] 52))
                        refine HK.out.out _ _ (fun h => absurd (h.symm.trans (by kernel_rfl : _ = true)) Bool.false_ne_true) (fun _ => ?_)
                        clear HK K
                        try go_frame
                        refine Until.one (i := 34) (by kernel_rfl) rfl (fun K hK => ?_)
                        have HK := Lib.hid hK
                        clear hK
                        go_simp
                        refine (reads1 (bytes_take (N := L) (HB48.out.bytes HMB.out) (by rw [HZL.out]; omega)) (heap_alloc_new wc45 _)).mono ?_
                        rintro _ wd50 ⟨rfl, od⟩
                        have HB51 := Lib.hid (HB48.out.ok od)
                        have HQ52 := Lib.hid (Ok.trans HQ49.out od)
                        clear od
                        refine HK.out.out _ _ (fun h => absurd (h.symm.trans (by kernel_rfl : _ = true)) Bool.false_ne_true) (fun _ => ?_)
                        clear HK K
                        try go_frame
                        refine Until.one (i := 35) (by kernel_rfl) rfl (fun K hK => ?_)
                        have HK := Lib.hid hK
                        clear hK
                        go_simp
                        refine HK.out.out _ _ (fun h => absurd (h.symm.trans (by kernel_rfl : _ = true)) Bool.false_ne_true) (fun _ => ?_)
                        clear HK K
                        try go_frame
                        refine Until.one (i := 36) (by kernel_rfl) rfl (fun K hK => ?_)
                        have HK := Lib.hid hK
                        clear hK
                        go_simp
                        refine HK.out.out _ _ (fun h => absurd (h.symm.trans (by kernel_rfl : _ = true)) Bool.false_ne_true) (fun _ => ?_)
                        clear HK K
                        try go_frame
                        refine Until.done (by kernel_rfl) ?_ _
                        go_wp2_with fail
                        go_meet
                        case rel => exact ⟨rfl, rfl, HB51.out, HQ52.out⟩
                  · have HK := Lib.hid hK
                    clear hK
                    go_simp
                    refine HK.out.out _ _ (fun h => absurd (h.symm.trans (by kernel_rfl : _ = true)) Bool.false_ne_true) (fun _ => ?_)
                    clear HK K
                    try go_frame
                    refine Until.two (i := 14) (k := 22) (by kernel_rfl) rfl rfl (fun K hK => ?_) (fun K hK => ?_)
                    · have HK := Lib.hid hK
                      clear hK
                      go_simp
                      have HB53 := Lib.hid (HB5.out.ok ((Ok.refl w5).alloc (.cells #[.int .u8 0] 5)))
                      have HQ54 := Lib.hid (Ok.alloc HQ5.out (.cells #[.int .u8 0] 5))
                      have N1455 : Hid ((w5.alloc (.cells #[.int .u8 0] 5)).heap[w5.heap.size]? = some (.cells #[.int .u8 (ub 0#8)] 5 (0, 0))) := Lib.hid (heap_alloc_new w5 _)
                      refine HK.out.out _ _ (fun h => absurd (h.symm.trans (by kernel_rfl : _ = true)) Bool.false_ne_true) (fun _ => ?_)
                      clear HK K
                      try go_frame
                      refine Until.two (i := 15) (k := 22) (by kernel_rfl) rfl rfl (fun K hK => ?_) (fun K hK => ?_)
                      · have HK := Lib.hid hK
                        clear hK
                        refine step_appK (by rfl) (.tmp 84) (.tmp 85) rfl w2.heap.size (some ⟨gb, 0, none⟩) (L + 1) cb zs 0#8 (w5.heap.size) rfl rfl HZL.out HB53.out N1455.out (by omega) HQ54.out.size ?_
                        intro A56 c56 wa56 hl56 ho56 hb56 hg56
                        have HL57 := Lib.hid hl56
                        have HB58 := Lib.hid ho56
                        have HQ59 : Hid (Ok w2 wa56) := Lib.hid (Below.trans HQ54.out hb56)
                        clear hl56 ho56 hb56 hg56
                        refine HK.out.out _ _ (fun h => absurd (h.symm.trans (by kernel_rfl : _ = true)) Bool.false_ne_true) (fun _ => ?_)
                        clear HK K
                        try go_frame
                        refine Until.one (i := 22) (by kernel_rfl) rfl (fun K hK => ?_)
                        have HK := Lib.hid hK
                        clear hK
                        go_simp
                        have HB60 := Lib.hid (HB58.out.ok ((Ok.refl wa56).alloc (.cells #[.int .i64 0, .int .i64 x, .int .i64 1, .int .i64 0] 52)))
                        have HQ61 := Lib.hid (Ok.alloc HQ59.out (.cells #[.int .i64 0, .int .i64 x, .int .i64 1, .int .i64 0] 52))
                        have HL62 := Lib.hid (HL57.out.ok ((Ok.refl wa56).alloc (.cells #[.int .i64 0, .int .i64 x, .int .i64 1, .int .i64 0] 52)))
                        have C2263 : Hid ((wa56.alloc (.cells #[.int .i64 0, .int .i64 x, .int .i64 1, .int .i64 0] 52)).heap[wa56.heap.size]? = some (.cells #[.int .i64 0, .int .i64 x, .int .i64 1, .int .i64 0] 52 (0, 0))) := Lib.hid (heap_alloc_new wa56 _)
                        refine HK.out.out _ _ (fun h => absurd (h.symm.trans (by kernel_rfl : _ = true)) Bool.false_ne_true) (fun _ => ?_)
                        clear HK K
                        try go_frame
                        refine Until.one (i := 23) (by kernel_rfl) rfl (fun K hK => ?_)
                        have HK := Lib.hid hK
                        clear hK
                        go_simp
                        refine (reads2 (HL62.out.bytes HMB2.out) C2263.out).mono ?_
                        rintro _ wc64 ⟨rfl, oc⟩
                        have HB65 := Lib.hid (HB60.out.ok oc)
                        have HQ66 := Lib.hid (Ok.trans HQ61.out oc)
                        clear oc
                        refine HK.out.out _ _ (fun h => absurd (h.symm.trans (by kernel_rfl : _ = true)) Bool.false_ne_true) (fun _ => ?_)
                        clear HK K
                        try go_frame
                        refine Until.one (i := 24) (by kernel_rfl) rfl (fun K hK => ?_)
                        have HK := Lib.hid hK
                        clear hK
                        go_simp
                        refine HK.out.out _ _ (fun h => absurd (h.symm.trans (by kernel_rfl : _ = true)) Bool.false_ne_true) (fun _ => ?_)
                        clear HK K
                        try go_frame
                        refine Until.one (i := 25) (by kernel_rfl) rfl (fun K hK => ?_)
                        have HK := Lib.hid hK
                        clear hK
                        go_simp
                        refine HK.out.out _ _ (fun h => absurd (h.symm.trans (by kernel_rfl : _ = true)) Bool.false_ne_true) (fun _ => ?_)
                        clear HK K
                        try go_frame
                        refine Until.one (i := 26) (by kernel_rfl) rfl (fun K hK => ?_)
                        have HK := Lib.hid hK
                        clear hK
                        go_simp
                        refine HK.out.out _ _ (fun h => absurd (h.symm.trans (by kernel_rfl : _ = true)) Bool.false_ne_true) (fun _ => ?_)
                        clear HK K
                        try go_frame
                        refine Until.take0 (i := 27) (v := ?v27b20b14b15) rfl (by kernel_rfl) (by kernel_rfl) (by kernel_rfl) (by kernel_rfl) (fun _ _ _ h => h) (Or.inl ⟨by rfl, ?hy27b20b14b15⟩) (fun h => absurd (h.symm.trans (by kernel_rfl : _ = true)) Bool.false_ne_true) ?rest27b20b14b15
                        case hy27b20b14b15 => ((intro w hSw); clear hSw; go_simp; (try with_reducible rfl))
                        try go_frame
                        refine Until.take0 (i := 28) (v := ?v28b20b14b15) rfl (by kernel_rfl) (by kernel_rfl) (by kernel_rfl) (by kernel_rfl) (fun _ _ _ h => h) (Or.inl ⟨by rfl, ?hy28b20b14b15⟩) (fun h => absurd (h.symm.trans (by kernel_rfl : _ = true)) Bool.false_ne_true) ?rest28b20b14b15
                        case hy28b20b14b15 => ((intro w hSw); clear hSw; go_simp; (try with_reducible rfl))
                        try go_frame
                        refine Until.take0 (i := 29) (v := ?v29b20b14b15) rfl (by kernel_rfl) (by kernel_rfl) (by kernel_rfl) (by kernel_rfl) (fun _ _ _ h => h) (Or.inl ⟨by rfl, ?hy29b20b14b15⟩) (fun h => absurd (h.symm.trans (by kernel_rfl : _ = true)) Bool.false_ne_true) ?rest29b20b14b15
                        case hy29b20b14b15 => ((intro w hSw); clear hSw; go_simp; (try with_reducible rfl))
                        try go_frame
                        refine Until.take0 (i := 30) (v := ?v30b20b14b15) rfl (by kernel_rfl) (by kernel_rfl) (by kernel_rfl) (by kernel_rfl) (fun _ _ _ h => h) (Or.inl ⟨by rfl, ?hy30b20b14b15⟩) (fun h => absurd (h.symm.trans (by kernel_rfl : _ = true)) Bool.false_ne_true) ?rest30b20b14b15
                        case hy30b20b14b15 => ((intro w hSw); clear hSw; go_simp; (try with_reducible rfl))
                        try go_frame
                        refine Until.take0 (i := 31) (v := ?v31b20b14b15) rfl (by kernel_rfl) (by kernel_rfl) (by kernel_rfl) (by kernel_rfl) (fun _ _ _ h => h) (Or.inl ⟨by rfl, ?hy31b20b14b15⟩) (fun h => absurd (h.symm.trans (by kernel_rfl : _ = true)) Bool.false_ne_true) ?rest31b20b14b15
                        case hy31b20b14b15 => ((intro w hSw); clear hSw; go_simp; (try with_reducible rfl))
                        try go_frame
                        refine Until.one (i := 32) (by kernel_rfl) rfl (fun K hK => ?_)
                        have HK := Lib.hid hK
                        clear hK
                        go_simp
                        refine HK.out.out _ _ (fun h => absurd (h.symm.trans (by kernel_rfl : _ = true)) Bool.false_ne_true) (fun _ => ?_)
                        clear HK K
                        try go_frame
                        refine Until.one (i := 33) (by kernel_rfl) rfl (fun K hK => ?_)
                        have HK := Lib.hid hK
                        clear hK
                        go_simp
                        have HB67 := Lib.hid (HB65.out.ok ((Ok.refl wc64).alloc (.cells #[.int .i64 0, .int .i64 4611686018427387904] 52)))
                        have HQ68 := Lib.hid (Ok.alloc HQ66.out (.cells #[.int .i64 0, .int .i64 4611686018427387904] 52))
                        refine HK.out.out _ _ (fun h => absurd (h.symm.trans (by kernel_rfl : _ = true)) Bool.false_ne_true) (fun _ => ?_)
                        clear HK K
                        try go_frame
                        refine Until.one (i := 34) (by kernel_rfl) rfl (fun K hK => ?_)
                        have HK := Lib.hid hK
                        clear hK
                        go_simp
                        refine (reads1 (bytes_take (N := L) (HB67.out.bytes HMB.out) (by rw [HZL.out]; omega)) (heap_alloc_new wc64 _)).mono ?_
                        rintro _ wd69 ⟨rfl, od⟩
                        have HB70 := Lib.hid (HB67.out.ok od)
                        have HQ71 := Lib.hid (Ok.trans HQ68.out od)
                        clear od
                        refine HK.out.out _ _ (fun h => absurd (h.symm.trans (by kernel_rfl : _ = true)) Bool.false_ne_true) (fun _ => ?_)
                        clear HK K
                        try go_frame
                        refine Until.one (i := 35) (by kernel_rfl) rfl (fun K hK => ?_)
                        have HK := Lib.hid hK
                        clear hK
                        go_simp
                        refine HK.out.out _ _ (fun h => absurd (h.symm.trans (by kernel_rfl : _ = true)) Bool.false_ne_true) (fun _ => ?_)
                        clear HK K
                        try go_frame
                        refine Until.one (i := 36) (by kernel_rfl) rfl (fun K hK => ?_)
                        have HK := Lib.hid hK
                        clear hK
                        go_simp
                        refine HK.out.out _ _ (fun h => absurd (h.symm.trans (by kernel_rfl : _ = true)) Bool.false_ne_true) (fun _ => ?_)
                        clear HK K
                        try go_frame
                        refine Until.done (by kernel_rfl) ?_ _
                        go_wp2_with fail
                        go_meet
                        case rel => exact ⟨rfl, rfl, HB70.out, HQ71.out⟩
                      · have HK := Lib.hid hK
                        clear hK
                        go_simp
                        have HB72 := Lib.hid (HB53.out.ok ((Ok.refl (w5.alloc (.cells #[.int .u8 0] 5))).alloc (.cells #[.int .i64 0, .int .i64 x, .int .i64 1, .int .i64 0] 52)))
                        have HQ73 := Lib.hid (Ok.alloc HQ54.out (.cells #[.int .i64 0, .int .i64 x, .int .i64 1, .int .i64 0] 52))
                        have N1474 := Lib.hid (blk_old (o' := .cells #[.int .i64 0, .int .i64 x, .int .i64 1, .int .i64 0] 52) N1455.out)
                        have C2275 : Hid (((w5.alloc (.cells #[.int .u8 0] 5)).alloc (.cells #[.int .i64 0, .int .i64 x, .int .i64 1, .int .i64 0] 52)).heap[w5.heap.size + 1]? = some (.cells #[.int .i64 0, .int .i64 x, .int .i64 1, .int .i64 0] 52 (0, 0))) := Lib.hid (by have q := heap_alloc_new (w5.alloc (.cells #[.int .u8 0] 5)) (.cells #[.int .i64 0, .int .i64 x, .int .i64 1, .int .i64 0] 52); rw [World.size_alloc] at q; exact q)
                        refine HK.out.out _ _ (fun h => absurd (h.symm.trans (by kernel_rfl : _ = true)) Bool.false_ne_true) (fun _ => ?_)
                        clear HK K
                        try go_frame
                        refine Until.one (i := 15) (by kernel_rfl) rfl (fun K hK => ?_)
                        have HK := Lib.hid hK
                        clear hK
                        refine step_appK (by rfl) (.tmp 84) (.tmp 85) rfl w2.heap.size (some ⟨gb, 0, none⟩) (L + 1) cb zs 0#8 (w5.heap.size) rfl rfl HZL.out HB72.out N1474.out (by omega) HQ73.out.size ?_
                        intro A76 c76 wa76 hl76 ho76 hb76 hg76
                        have HL77 := Lib.hid hl76
                        have HB78 := Lib.hid ho76
                        have HQ79 : Hid (Ok w2 wa76) := Lib.hid (Below.trans HQ73.out hb76)
                        have C2280 := Lib.hid ((hg76.block _ (Array.getElem?_eq_some_iff.1 C2275.out).1 (fun e => own_ty HB72.out C2275.out (by decide) e.symm)).trans C2275.out)
                        clear hl76 ho76 hb76 hg76
                        refine HK.out.out _ _ (fun h => absurd (h.symm.trans (by kernel_rfl : _ = true)) Bool.false_ne_true) (fun _ => ?_)
                        clear HK K
                        try go_frame
                        refine Until.one (i := 23) (by kernel_rfl) rfl (fun K hK => ?_)
                        have HK := Lib.hid hK
                        clear hK
                        go_simp
                        refine (reads2 (HL77.out.bytes HMB2.out) C2280.out).mono ?_
                        rintro _ wc81 ⟨rfl, oc⟩
                        have HB82 := Lib.hid (HB78.out.ok oc)
                        have HQ83 := Lib.hid (Ok.trans HQ79.out oc)
                        clear oc
                        refine HK.out.out _ _ (fun h => absurd (h.symm.trans (by kernel_rfl : _ = true)) Bool.false_ne_true) (fun _ => ?_)
                        clear HK K
                        try go_frame
                        refine Until.one (i := 24) (by kernel_rfl) rfl (fun K hK => ?_)
                        have HK := Lib.hid hK
                        clear hK
                        go_simp
                        refine HK.out.out _ _ (fun h => absurd (h.symm.trans (by kernel_rfl : _ = true)) Bool.false_ne_true) (fun _ => ?_)
                        clear HK K
                        try go_frame
                        refine Until.one (i := 25) (by kernel_rfl) rfl (fun K hK => ?_)
                        have HK := Lib.hid hK
                        clear hK
                        go_simp
                        refine HK.out.out _ _ (fun h => absurd (h.symm.trans (by kernel_rfl : _ = true)) Bool.false_ne_true) (fun _ => ?_)
                        clear HK K
                        try go_frame
                        refine Until.one (i := 26) (by kernel_rfl) rfl (fun K hK => ?_)
                        have HK := Lib.hid hK
                        clear hK
                        go_simp
                        refine HK.out.out _ _ (fun h => absurd (h.symm.trans (by kernel_rfl : _ = true)) Bool.false_ne_true) (fun _ => ?_)
                        clear HK K
                        try go_frame
                        refine Until.take0 (i := 27) (v := ?v27b20b14b22) rfl (by kernel_rfl) (by kernel_rfl) (by kernel_rfl) (by kernel_rfl) (fun _ _ _ h => h) (Or.inl ⟨by rfl, ?hy27b20b14b22⟩) (fun h => absurd (h.symm.trans (by kernel_rfl : _ = true)) Bool.false_ne_true) ?rest27b20b14b22
                        case hy27b20b14b22 => ((intro w hSw); clear hSw; go_simp; (try with_reducible rfl))
                        try go_frame
                        refine Until.take0 (i := 28) (v := ?v28b20b14b22) rfl (by kernel_rfl) (by kernel_rfl) (by kernel_rfl) (by kernel_rfl) (fun _ _ _ h => h) (Or.inl ⟨by rfl, ?hy28b20b14b22⟩) (fun h => absurd (h.symm.trans (by kernel_rfl : _ = true)) Bool.false_ne_true) ?rest28b20b14b22
                        case hy28b20b14b22 => ((intro w hSw); clear hSw; go_simp; (try with_reducible rfl))
                        try go_frame
                        refine Until.take0 (i := 29) (v := ?v29b20b14b22) rfl (by kernel_rfl) (by kernel_rfl) (by kernel_rfl) (by kernel_rfl) (fun _ _ _ h => h) (Or.inl ⟨by rfl, ?hy29b20b14b22⟩) (fun h => absurd (h.symm.trans (by kernel_rfl : _ = true)) Bool.false_ne_true) ?rest29b20b14b22
                        case hy29b20b14b22 => ((intro w hSw); clear hSw; go_simp; (try with_reducible rfl))
                        try go_frame
                        refine Until.take0 (i := 30) (v := ?v30b20b14b22) rfl (by kernel_rfl) (by kernel_rfl) (by kernel_rfl) (by kernel_rfl) (fun _ _ _ h => h) (Or.inl ⟨by rfl, ?hy30b20b14b22⟩) (fun h => absurd (h.symm.trans (by kernel_rfl : _ = true)) Bool.false_ne_true) ?rest30b20b14b22
                        case hy30b20b14b22 => ((intro w hSw); clear hSw; go_simp; (try with_reducible rfl))
                        try go_frame
                        refine Until.take0 (i := 31) (v := ?v31b20b14b22) rfl (by kernel_rfl) (by kernel_rfl) (by kernel_rfl) (by kernel_rfl) (fun _ _ _ h => h) (Or.inl ⟨by rfl, ?hy31b20b14b22⟩) (fun h => absurd (h.symm.trans (by kernel_rfl : _ = true)) Bool.false_ne_true) ?rest31b20b14b22
                        case hy31b20b14b22 => ((intro w hSw); clear hSw; go_simp; (try with_reducible rfl))
                        try go_frame
                        refine Until.one (i := 32) (by kernel_rfl) rfl (fun K hK => ?_)
                        have HK := Lib.hid hK
                        clear hK
                        go_simp
                        refine HK.out.out _ _ (fun h => absurd (h.symm.trans (by kernel_rfl : _ = true)) Bool.false_ne_true) (fun _ => ?_)
                        clear HK K
                        try go_frame
                        refine Until.one (i := 33) (by kernel_rfl) rfl (fun K hK => ?_)
                        have HK := Lib.hid hK
                        clear hK
                        go_simp
                        have HB84 := Lib.hid (HB82.out.ok ((Ok.refl wc81).alloc (.cells #[.int .i64 0, .int .i64 4611686018427387904] 52)))
                        have HQ85 := Lib.hid (Ok.alloc HQ83.out (.cells #[.int .i64 0, .int .i64 4611686018427387904] 52))
                        refine HK.out.out _ _ (fun h => absurd (h.symm.trans (by kernel_rfl : _ = true)) Bool.false_ne_true) (fun _ => ?_)
                        clear HK K
                        try go_frame
                        refine Until.one (i := 34) (by kernel_rfl) rfl (fun K hK => ?_)
                        have HK := Lib.hid hK
                        clear hK
                        go_simp
                        refine (reads1 (bytes_take (N := L) (HB84.out.bytes HMB.out) (by rw [HZL.out]; omega)) (heap_alloc_new wc81 _)).mono ?_
                        rintro _ wd86 ⟨rfl, od⟩
                        have HB87 := Lib.hid (HB84.out.ok od)
                        have HQ88 := Lib.hid (Ok.trans HQ85.out od)
                        clear od
                        refine HK.out.out _ _ (fun h => absurd (h.symm.trans (by kernel_rfl : _ = true)) Bool.false_ne_true) (fun _ => ?_)
                        clear HK K
                        try go_frame
                        refine Until.one (i := 35) (by kernel_rfl) rfl (fun K hK => ?_)
                        have HK := Lib.hid hK
                        clear hK
                        go_simp
                        refine HK.out.out _ _ (fun h => absurd (h.symm.trans (by kernel_rfl : _ = true)) Bool.false_ne_true) (fun _ => ?_)
                        clear HK K
                        try go_frame
                        refine Until.one (i := 36) (by kernel_rfl) rfl (fun K hK => ?_)
                        have HK := Lib.hid hK
                        clear hK
                        go_simp
                        refine HK.out.out _ _ (fun h => absurd (h.symm.trans (by kernel_rfl : _ = true)) Bool.false_ne_true) (fun _ => ?_)
                        clear HK K
                        try go_frame
                        refine Until.done (by kernel_rfl) ?_ _
                        go_wp2_with fail
                        go_meet
                        case rel => exact ⟨rfl, rfl, HB87.out, HQ88.out⟩
                    · have HK := Lib.hid hK
                      clear hK
                      go_simp
                      have HB89 := Lib.hid (HB5.out.ok ((Ok.refl w5).alloc (.cells #[.int .i64 0, .int .i64 x, .int .i64 1, .int .i64 0] 52)))
                      have HQ90 := Lib.hid (Ok.alloc HQ5.out (.cells #[.int .i64 0, .int .i64 x, .int .i64 1, .int .i64 0] 52))
                      have C2291 : Hid ((w5.alloc (.cells #[.int .i64 0, .int .i64 x, .int .i64 1, .int .i64 0] 52)).heap[w5.heap.size]? = some (.cells #[.int .i64 0, .int .i64 x, .int .i64 1, .int .i64 0] 52 (0, 0))) := Lib.hid (heap_alloc_new w5 _)
                      refine HK.out.out _ _ (fun h => absurd (h.symm.trans (by kernel_rfl : _ = true)) Bool.false_ne_true) (fun _ => ?_)
                      clear HK K
                      try go_frame
                      refine Until.one (i := 14) (by kernel_rfl) rfl (fun K hK => ?_)
                      have HK := Lib.hid hK
                      clear hK
                      go_simp
                      have HB92 := Lib.hid (HB89.out.ok ((Ok.refl (w5.alloc (.cells #[.int .i64 0, .int .i64 x, .int .i64 1, .int .i64 0] 52))).alloc (.cells #[.int .u8 0] 5)))
                      have HQ93 := Lib.hid (Ok.alloc HQ90.out (.cells #[.int .u8 0] 5))
                      have C2294 := Lib.hid (blk_old (o' := .cells #[.int .u8 0] 5) C2291.out)
                      have N1495 : Hid (((w5.alloc (.cells #[.int .i64 0, .int .i64 x, .int .i64 1, .int .i64 0] 52)).alloc (.cells #[.int .u8 0] 5)).heap[w5.heap.size + 1]? = some (.cells #[.int .u8 (ub 0#8)] 5 (0, 0))) := Lib.hid (by have q := heap_alloc_new (w5.alloc (.cells #[.int .i64 0, .int .i64 x, .int .i64 1, .int .i64 0] 52)) (.cells #[.int .u8 0] 5); rw [World.size_alloc] at q; exact q)
                      refine HK.out.out _ _ (fun h => absurd (h.symm.trans (by kernel_rfl : _ = true)) Bool.false_ne_true) (fun _ => ?_)
                      clear HK K
                      try go_frame
                      refine Until.one (i := 15) (by kernel_rfl) rfl (fun K hK => ?_)
                      have HK := Lib.hid hK
                      clear hK
                      refine step_appK (by rfl) (.tmp 84) (.tmp 85) rfl w2.heap.size (some ⟨gb, 0, none⟩) (L + 1) cb zs 0#8 (w5.heap.size + 1) rfl rfl HZL.out HB92.out N1495.out (by omega) HQ93.out.size ?_
                      intro A96 c96 wa96 hl96 ho96 hb96 hg96
                      have HL97 := Lib.hid hl96
                      have HB98 := Lib.hid ho96
                      have HQ99 : Hid (Ok w2 wa96) := Lib.hid (Below.trans HQ93.out hb96)
                      have C22100 := Lib.hid ((hg96.block _ (Array.getElem?_eq_some_iff.1 C2294.out).1 (fun e => own_ty HB92.out C2294.out (by decide) e.symm)).trans C2294.out)
                      clear hl96 ho96 hb96 hg96
                      refine HK.out.out _ _ (fun h => absurd (h.symm.trans (by kernel_rfl : _ = true)) Bool.false_ne_true) (fun _ => ?_)
                      clear HK K
                      try go_frame
                      refine Until.one (i := 23) (by kernel_rfl) rfl (fun K hK => ?_)
                      have HK := Lib.hid hK
                      clear hK
                      go_simp
                      refine (reads2 (HL97.out.bytes HMB2.out) C22100.out).mono ?_
                      rintro _ wc101 ⟨rfl, oc⟩
                      have HB102 := Lib.hid (HB98.out.ok oc)
                      have HQ103 := Lib.hid (Ok.trans HQ99.out oc)
                      clear oc
                      refine HK.out.out _ _ (fun h => absurd (h.symm.trans (by kernel_rfl : _ = true)) Bool.false_ne_true) (fun _ => ?_)
                      clear HK K
                      try go_frame
                      refine Until.one (i := 24) (by kernel_rfl) rfl (fun K hK => ?_)
                      have HK := Lib.hid hK
                      clear hK
                      go_simp
                      refine HK.out.out _ _ (fun h => absurd (h.symm.trans (by kernel_rfl : _ = true)) Bool.false_ne_true) (fun _ => ?_)
                      clear HK K
                      try go_frame
                      refine Until.one (i := 25) (by kernel_rfl) rfl (fun K hK => ?_)
                      have HK := Lib.hid hK
                      clear hK
                      go_simp
                      refine HK.out.out _ _ (fun h => absurd (h.symm.trans (by kernel_rfl : _ = true)) Bool.false_ne_true) (fun _ => ?_)
                      clear HK K
                      try go_frame
                      refine Until.one (i := 26) (by kernel_rfl) rfl (fun K hK => ?_)
                      have HK := Lib.hid hK
                      clear hK
                      go_simp
                      refine HK.out.out _ _ (fun h => absurd (h.symm.trans (by kernel_rfl : _ = true)) Bool.false_ne_true) (fun _ => ?_)
                      clear HK K
                      try go_frame
                      refine Until.take0 (i := 27) (v := ?v27b20b22) rfl (by kernel_rfl) (by kernel_rfl) (by kernel_rfl) (by kernel_rfl) (fun _ _ _ h => h) (Or.inl ⟨by rfl, ?hy27b20b22⟩) (fun h => absurd (h.symm.trans (by kernel_rfl : _ = true)) Bool.false_ne_true) ?rest27b20b22
                      case hy27b20b22 => ((intro w hSw); clear hSw; go_simp; (try with_reducible rfl))
                      try go_frame
                      refine Until.take0 (i := 28) (v := ?v28b20b22) rfl (by kernel_rfl) (by kernel_rfl) (by kernel_rfl) (by kernel_rfl) (fun _ _ _ h => h) (Or.inl ⟨by rfl, ?hy28b20b22⟩) (fun h => absurd (h.symm.trans (by kernel_rfl : _ = true)) Bool.false_ne_true) ?rest28b20b22
                      case hy28b20b22 => ((intro w hSw); clear hSw; go_simp; (try with_reducible rfl))
                      try go_frame
                      refine Until.take0 (i := 29) (v := ?v29b20b22) rfl (by kernel_rfl) (by kernel_rfl) (by kernel_rfl) (by kernel_rfl) (fun _ _ _ h => h) (Or.inl ⟨by rfl, ?hy29b20b22⟩) (fun h => absurd (h.symm.trans (by kernel_rfl : _ = true)) Bool.false_ne_true) ?rest29b20b22
                      case hy29b20b22 => ((intro w hSw); clear hSw; go_simp; (try with_reducible rfl))
                      try go_frame
                      refine Until.take0 (i := 30) (v := ?v30b20b22) rfl (by kernel_rfl) (by kernel_rfl) (by kernel_rfl) (by kernel_rfl) (fun _ _ _ h => h) (Or.inl ⟨by rfl, ?hy30b20b22⟩) (fun h => absurd (h.symm.trans (by kernel_rfl : _ = true)) Bool.false_ne_true) ?rest30b20b22
                      case hy30b20b22 => ((intro w hSw); clear hSw; go_simp; (try with_reducible rfl))
                      try go_frame
                      refine Until.take0 (i := 31) (v := ?v31b20b22) rfl (by kernel_rfl) (by kernel_rfl) (by kernel_rfl) (by kernel_rfl) (fun _ _ _ h => h) (Or.inl ⟨by rfl, ?hy31b20b22⟩) (fun h => absurd (h.symm.trans (by kernel_rfl : _ = true)) Bool.false_ne_true) ?rest31b20b22
                      case hy31b20b22 => ((intro w hSw); clear hSw; go_simp; (try with_reducible rfl))
                      try go_frame
                      refine Until.one (i := 32) (by kernel_rfl) rfl (fun K hK => ?_)
                      have HK := Lib.hid hK
                      clear hK
                      go_simp
                      refine HK.out.out _ _ (fun h => absurd (h.symm.trans (by kernel_rfl : _ = true)) Bool.false_ne_true) (fun _ => ?_)
                      clear HK K
                      try go_frame
                      refine Until.one (i := 33) (by kernel_rfl) rfl (fun K hK => ?_)
                      have HK := Lib.hid hK
                      clear hK
                      go_simp
                      have HB104 := Lib.hid (HB102.out.ok ((Ok.refl wc101).alloc (.cells #[.int .i64 0, .int .i64 4611686018427387904] 52)))
                      have HQ105 := Lib.hid (Ok.alloc HQ103.out (.cells #[.int .i64 0, .int .i64 4611686018427387904] 52))
                      refine HK.out.out _ _ (fun h => absurd (h.symm.trans (by kernel_rfl : _ = true)) Bool.false_ne_true) (fun _ => ?_)
                      clear HK K
                      try go_frame
                      refine Until.one (i := 34) (by kernel_rfl) rfl (fun K hK => ?_)
                      have HK := Lib.hid hK
                      clear hK
                      go_simp
                      refine (reads1 (bytes_take (N := L) (HB104.out.bytes HMB.out) (by rw [HZL.out]; omega)) (heap_alloc_new wc101 _)).mono ?_
                      rintro _ wd106 ⟨rfl, od⟩
                      have HB107 := Lib.hid (HB104.out.ok od)
                      have HQ108 := Lib.hid (Ok.trans HQ105.out od)
                      clear od
                      refine HK.out.out _ _ (fun h => absurd (h.symm.trans (by kernel_rfl : _ = true)) Bool.false_ne_true) (fun _ => ?_)
                      clear HK K
                      try go_frame
                      refine Until.one (i := 35) (by kernel_rfl) rfl (fun K hK => ?_)
                      have HK := Lib.hid hK
                      clear hK
                      go_simp
                      refine HK.out.out _ _ (fun h => absurd (h.symm.trans (by kernel_rfl : _ = true)) Bool.false_ne_true) (fun _ => ?_)
                      clear HK K
                      try go_frame
                      refine Until.one (i := 36) (by kernel_rfl) rfl (fun K hK => ?_)
                      have HK := Lib.hid hK
                      clear hK
                      go_simp
                      refine HK.out.out _ _ (fun h => absurd (h.symm.trans (by kernel_rfl : _ = true)) Bool.false_ne_true) (fun _ => ?_)
                      clear HK K
                      try go_frame
                      refine Until.done (by kernel_rfl) ?_ _
                      go_wp2_with fail
                      go_meet
                      case rel => exact ⟨rfl, rfl, HB107.out, HQ108.out⟩
                case rest =>
                  obtain ⟨rfl, rfl, hob, hok⟩ := hcut
                  have HB := Lib.hid hob
                  have HQ := Lib.hid hok
                  clear hob hok
                  obtain ⟨c1, f1⟩ := HB.out.cell L (by rw [HZL.out]; omega)
                  obtain ⟨zz, hz⟩ := or_back (zs.getD L 0#8)
                  have HS1 := Lib.hid (HB.out.store L zz)
                  have HB1 := Lib.hid HS1.out.1
                  have HQ1 : Hid (Ok w2 (wc.setCell ⟨gb, L, none⟩ (.int .u8 (ub zz)))) := Lib.hid (Below.trans HQ.out HS1.out.2)
                  have HZ1 : Hid ((zs.set L zz).length = L + 1) := Lib.hid (by rw [List.length_set, HZL.out])
                  clear HS1
                  generalize zs.set L zz = zs1 at *
                  generalize zs.getD L 0#8 = y0 at *
                  go_upto_region 18 with fail
                  clear c1 f1 hz
                  generalize wc.setCell ⟨gb, L, none⟩ (.int .u8 (ub zz)) = wq at *
                  have HA0 : Hid (Ok wq (wq.alloc (.cells #[.int .u8 0] 5))) := Lib.hid ((Ok.refl wq).alloc _)
                  have HN0 : Hid ((wq.alloc (.cells #[.int .u8 0] 5)).heap[wq.heap.size]? = some (.cells #[.int .u8 (ub 0#8)] 5 (0, 0))) := Lib.hid (heap_alloc_new wq _)
                  have HBA := Lib.hid (HB1.out.ok HA0.out)
                  have HQA := Lib.hid (Ok.trans HQ1.out HA0.out)
                  have HMA : Hid ((zs1 ++ [0#8]).length ≤ 140737488351232) := Lib.hid (by rw [List.length_append, HZ1.out]; simp; omega)
                  have HMB1 : Hid ((zs1 ++ [1#8]).length ≤ 140737488351232) := Lib.hid (by rw [List.length_append, HZ1.out]; simp; omega)
                  go_wp2_with (at_builtin; go_must (refine wpList_appK (by rfl) (.tmp 116) (.tmp 117) rfl w2.heap.size (some ⟨gb, 0, none⟩) (L + 1) cb zs1 0#8 wq.heap.size rfl rfl HZ1.out HBA.out HN0.out (by omega) HQA.out.size ?_; intro A6 c6 w6 hl6 ho6 hb6 hg6; have HL6 := Lib.hid hl6; have HB6 := Lib.hid ho6; have HQ6 : Hid (Ok w2 w6) := Lib.hid (Below.trans HQA.out hb6); clear hl6 ho6 hb6 hg6))
                  (with_reducible refine (reads1 ((HL6.out.ok ((Ok.refl w6).alloc _)).bytes HMA.out) (heap_alloc_new w6 _)).mono ?_)
                  rintro _ w7 ⟨rfl, o7⟩
                  have HQ7 : Hid (Ok w2 w7) := Lib.hid (Ok.trans (HQ6.out.alloc _) o7)
                  have HB7 : Hid (OwnN w7 w2.heap.size (.slice (some ⟨gb, 0, none⟩) (L + 1) cb) zs1) := Lib.hid (OwnN.ok (OwnN.ok HB6.out ((Ok.refl w6).alloc _)) o7)
                  clear o7 HB6 HL6
                  have HA1 : Hid (Ok w7 (w7.alloc (.cells #[.int .u8 1] 5))) := Lib.hid ((Ok.refl w7).alloc _)
                  have HN1 : Hid ((w7.alloc (.cells #[.int .u8 1] 5)).heap[w7.heap.size]? = some (.cells #[.int .u8 (ub 1#8)] 5 (0, 0))) := Lib.hid (heap_alloc_new w7 _)
                  have HBA1 := Lib.hid (HB7.out.ok HA1.out)
                  have HQA1 := Lib.hid (Ok.trans HQ7.out HA1.out)
                  go_wp2_with (at_builtin; go_must (refine wpList_appK (by rfl) (.tmp 124) (.tmp 125) rfl w2.heap.size (some ⟨gb, 0, none⟩) (L + 1) cb zs1 1#8 w7.heap.size rfl rfl HZ1.out HBA1.out HN1.out (by omega) HQA1.out.size ?_; intro A8 c8 w8 hl8 ho8 hb8 hg8; have HL8 := Lib.hid hl8; have HB8 := Lib.hid ho8; have HQ8 : Hid (Ok w2 w8) := Lib.hid (Below.trans HQA1.out hb8); clear hl8 ho8 hb8 hg8))
                  (with_reducible refine (reads1 ((HL8.out.ok ((Ok.refl w8).alloc _)).bytes HMB1.out) (heap_alloc_new w8 _)).mono ?_)
                  rintro _ w9 ⟨rfl, o9⟩
                  have HQ9 : Hid (Ok w2 w9) := Lib.hid (Ok.trans (HQ8.out.alloc _) o9)
                  have HB9 : Hid (OwnN w9 w2.heap.size (.slice (some ⟨gb, 0, none⟩) (L + 1) cb) zs1) := Lib.hid (OwnN.ok (OwnN.ok HB8.out ((Ok.refl w8).alloc _)) o9)
                  clear o9 HB8 HL8
                  obtain ⟨c9, f9⟩ := HB9.out.cell L (by rw [HZ1.out]; omega)
                  obtain ⟨z9, hz9⟩ := and_back (zs1.getD L 0#8)
                  have HS9 := Lib.hid (HB9.out.store L z9)
                  have HZ9 : Hid ((zs1.set L z9).length = L + 1) := Lib.hid (by rw [List.length_set, HZ1.out])
                  have HQS : Hid (Ok w2 (w9.setCell ⟨gb, L, none⟩ (.int .u8 (ub z9)))) := Lib.hid (Below.trans HQ9.out HS9.out.2)
                  generalize zs1.set L z9 = zs9 at *
                  generalize zs1.getD L 0#8 = y9 at *
                  have ekk : IntKind.i64.wrap (kk + 1) = kk + 1 := IntWalk.i64_in _ (by omega)
                  have HLTK : Hid ((3 - (kk + 1)).toNat < (3 - kk).toNat) := Lib.hid (by omega)
                  go_wp2_with fail
                  exact ⟨⟨kk + 1, zs9, by omega, by omega, by go_num, HZ9.out, HS9.out.1, HQS.out⟩, by simpa [intOf] using HLTK.out⟩
              · have d3 : decide (kk < 2) = false := decide_eq_false hkk
                have HK5 := Lib.hid (Ok.trans HK3.out HQ.out)
                clear HB HQ HZL
                go_wp2_with fail
                exact ⟨⟨k + 1, by omega, by go_num, HK5.out⟩, HLT.out⟩
        · have d1 : decide ((k : Int) < 31) = false := decide_eq_false (by omega)
          have HKW := Lib.hid (Ok.trans HOK.out HK.out)
          clear hlt hk HC HXL HOK HK
          obtain ⟨w1, hw1⟩ : ∃ x, x = wr := ⟨_, rfl⟩
          subst hw1
          go_wp2_with fail
          go_loopw [7] (fun i wr => ∃ q : Nat, q ≤ 256 ∧ i = .int .i64 (q : Int) ∧ Ok w1 wr) (fun i _ => 256 - (intOf i).toNat)
          case atStart => exact ⟨0, by omega, rfl, Ok.refl _⟩
          case round =>
            obtain ⟨q, hq, rfl, hok⟩ := hrel
            have HQ := Lib.hid hok
            clear hok
            by_cases hlt : q < 256
            · have d1 : decide ((q : Int) < 256) = true := decide_eq_true (by omega)
              have d2 : decide (q < 256) = true := decide_eq_true hlt
              obtain ⟨y, hy⟩ := u8_back (q : Int) (by omega) (by omega)
              have hcv : IntKind.u8.wrap (q : Int) = ub y := by rw [IntKind.wrap_u8, ← hy]; omega
              have hqk : IntKind.i64.wrap ((q : Int) + 1) = (q : Int) + 1 := IntWalk.i64_in _ (by omega)
              have HLT : Hid (256 - ((q : Int) + 1).toNat < 256 - (q : Int).toNat) := Lib.hid (by omega)
              have HB2 : Hid (BytesIn (wr.alloc (.cells #[.int .u8 (ub y), .int .u8 1] 5)) (.slice (some ⟨wr.heap.size, 0, none⟩) 2 2) [y, 1#8]) := Lib.hid (bytes_new wr [y, 1#8] _ 5 (0, 0) _ 2 2 rfl rfl (Nat.le_refl _) (by simp) rfl)
              have HC2 : Hid (((wr.alloc (.cells #[.int .u8 (ub y), .int .u8 1] 5)).alloc (.cells #[.int .i64 1, .int .i64 0, .int .i64 1, .int .i64 0, .int .i64 1, .int .i64 0] 52)).heap[wr.heap.size + 1]? = some (.cells #[.int .i64 1, .int .i64 0, .int .i64 1, .int .i64 0, .int .i64 1, .int .i64 0] 52 (0, 0))) := Lib.hid (by
                have e := heap_alloc_new (wr.alloc (.cells #[.int .u8 (ub y), .int .u8 1] 5)) (.cells #[.int .i64 1, .int .i64 0, .int .i64 1, .int .i64 0, .int .i64 1, .int .i64 0] 52)
                rwa [World.size_alloc] at e)
              have HQL : Hid (q + 1 ≤ 256) := Lib.hid hlt
              clear hy hq hlt
              go_wp2_with fail
              (with_reducible refine (reads3 (((Ok.refl _).alloc _).bytes HB2.out) HC2.out).mono ?_)
              rintro _ w2 ⟨rfl, o2⟩
              have HQ2 := Lib.hid (Ok.trans ((HQ.out.alloc _).alloc _) o2)
              clear o2 HB2 HC2
              have HB3 : Hid (BytesIn (w2.alloc (.cells #[.int .u8 (ub y), .int .u8 65, .int .u8 66] 5)) (.slice (some ⟨w2.heap.size, 0, none⟩) 3 3) [y, 65#8, 66#8]) := Lib.hid (bytes_new w2 [y, 65#8, 66#8] _ 5 (0, 0) _ 3 3 rfl rfl (Nat.le_refl _) (by simp) rfl)
              go_wp2_with fail
              (with_reducible refine (reads2 (((Ok.refl _).alloc _).bytes HB3.out) (h := w2.heap.size + 1) (a := 2) (b := (q : Int) % 5) (c := 3) (d := 9) ?_).mono ?_)
              · have e := heap_alloc_new (w2.alloc (.cells #[.int .u8 (ub y), .int .u8 65, .int .u8 66] 5))
                simp only [World.size_alloc] at e
                exact e _
              rintro _ w3 ⟨rfl, o3⟩
              have HQ3 := Lib.hid (Ok.trans ((HQ2.out.alloc _).alloc _) o3)
              clear o3 HB3
              go_wp2_with fail
              go_roundw
              case rel => exact ⟨q + 1, HQL.out, by go_num, HQ3.out⟩
              case measure => exact HLT.out
            · have d1 : decide ((q : Int) < 256) = false := decide_eq_false (by omega)
              have d2 : decide (q < 256) = false := decide_eq_false hlt
              have HK := Lib.hid (Ok.trans HKW.out HQ.out)
              clear HQ HKW hlt hq
              go_wp2_with fail
              (with_reducible refine (nums_n _ _).mono ?_)
              rintro _ wA ⟨rfl, hw⟩
              have HKA : Hid (Ok W wA) := Lib.hid (hw ▸ HK.out.alloc _)
              clear hw HK
              go_wp2_with fail
              (with_reducible refine (flags_n _ _).mono ?_)
              rintro _ wB ⟨rfl, hw⟩
              have HKB : Hid (Ok W wB) := Lib.hid (hw ▸ HKA.out.alloc _)
              clear hw HKA
              go_wp2_with fail
              (with_reducible refine (texts_n _ _).mono ?_)
              rintro _ wC ⟨rfl, hw⟩
              have HKC : Hid (Ok W wC) := Lib.hid (hw ▸ HKB.out.alloc _)
              clear hw HKB
              go_wp2_with fail
              (with_reducible refine (rows_n _ _).mono ?_)
              rintro _ wD ⟨rfl, hw⟩
              have HKD : Hid (Ok W wD) := Lib.hid (hw ▸ HKC.out.alloc _)
              clear hw HKC
              go_wp2_with fail
              (with_reducible refine (done_n _).mono ?_)
              rintro _ wE ⟨rfl, rfl⟩
              have HV0 : Hid ((wD.alloc (.cells #[.slice none 0 0, .bool false, .bool false] 65)).heap[wD.heap.size]? = some (.cells #[.slice none 0 0, .bool false, .bool false] 65 (0, 0))) := Lib.hid (heap_alloc_new wD _)
              go_wp2_with fail
              have cD : (((wD.alloc (.cells #[.slice none 0 0, .bool false, .bool false] 65)).alloc (.cells #[.int .i64 1] 3))).cell? ⟨wD.heap.size, 2, none⟩ = some (.bool false) := by rw [cell_of_heap (blk_old HV0.out)]; rfl
              (with_reducible refine (nums_v _ _ wD.heap.size cD).mono ?_)
              clear cD
              rintro _ wF ⟨rfl, hw⟩
              have HVF : Hid (wF.heap[wD.heap.size]? = some (.cells #[.slice none 0 0, .bool false, .bool false] 65 (0, 0))) := Lib.hid (hw ▸ blk_old HV0.out)
              have HKF : Hid (Ok W wF) := Lib.hid (hw ▸ (HKD.out.alloc _).alloc _)
              clear hw HV0 HKD
              generalize wD.heap.size = gW at *
              go_wp2_with fail
              have cF : ∀ o o', ((wF.alloc o).alloc o').cell? ⟨gW, 2, none⟩ = some (.bool false) := fun o o' => by rw [cell_of_heap (blk_old (blk_old HVF.out))]; rfl
              (with_reducible refine (rows_v _ _ gW (cF _ _)).mono ?_)
              clear cF
              rintro _ wG ⟨rfl, hw⟩
              have HVG : Hid (wG.heap[gW]? = some (.cells #[.slice none 0 0, .bool false, .bool false] 65 (0, 0))) := Lib.hid (hw ▸ blk_old (blk_old HVF.out))
              have HKG : Hid (Ok W wG) := Lib.hid (hw ▸ (HKF.out.alloc _).alloc _)
              clear hw HVF HKF
              go_wp2_with fail
              have cG : wG.cell? ⟨gW, 2, none⟩ = some (.bool false) := by rw [cell_of_heap HVG.out]; rfl
              (with_reducible refine (done_v _ gW cG).mono ?_)
              clear cG
              rintro _ wH ⟨rfl, rfl⟩
              have HVR : Hid ((wG.alloc (.cells #[.slice none 0 0, .bool false, .bool false] 69)).heap[wG.heap.size]? = some (.cells #[.slice none 0 0, .bool false, .bool false] 69 (0, 0))) := Lib.hid (heap_alloc_new wG _)
              have HKR : Hid (Ok W (wG.alloc (.cells #[.slice none 0 0, .bool false, .bool false] 69))) := Lib.hid (HKG.out.alloc _)
              clear HKG HVG
              go_wp2_with fail
              (with_reducible refine (num_n _ _).mono ?_)
              rintro _ wI ⟨rfl, hw⟩
              rw [hw] at HVR HKR
              clear hw
              generalize wG.heap.size = gR at *
              go_wp2_with fail
              (with_reducible refine (flag_n _).mono ?_)
              rintro _ wJ ⟨rfl, rfl⟩
              go_wp2_with fail
              (with_reducible refine (text_n _ _).mono ?_)
              rintro _ wJ ⟨rfl, rfl⟩
              go_wp2_with fail
              (with_reducible refine (row_n _ _).mono ?_)
              rintro _ wJ ⟨rfl, rfl⟩
              go_wp2_with fail
              (with_reducible refine (left_n _).mono ?_)
              rintro _ wJ ⟨rfl, rfl⟩
              go_wp2_with fail
              (with_reducible refine (end_n _).mono ?_)
              rintro _ wJ ⟨rfl, rfl⟩
              go_wp2_with fail
              have c2 : wI.cell? ⟨gR, 2, none⟩ = some (.bool false) := by rw [cell_of_heap HVR.out]; rfl
              (with_reducible refine (num_v _ _ gR c2).mono ?_)
              rintro _ wJ ⟨rfl, rfl⟩
              go_wp2_with fail
              (with_reducible refine (left_v _ gR c2).mono ?_)
              rintro _ wJ ⟨rfl, rfl⟩
              go_wp2_with fail
              (with_reducible refine (end_v _ gR c2).mono ?_)
              rintro _ wJ ⟨rfl, rfl⟩
              go_wp2_with fail
              (with_reducible refine (HAW.out _).mono ?_)
              rintro _ wK ⟨rfl, oK⟩
              go_wp2_with fail
              go_ret
              exact ⟨rfl, Ok.trans HKR.out oK⟩

end Go.Proofs.Ytolfdncmlfnbdaa
