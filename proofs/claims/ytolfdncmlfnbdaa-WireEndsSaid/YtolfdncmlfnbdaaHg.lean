/- The law WireWrites, walked: what any numbers, flags, texts, rows are as bytes is what the document tells. -/
import Derived.Test.YtolfdncmlfnbdaaHf
namespace Go.Proofs.Ytolfdncmlfnbdaa
open Go.RowKit

/-- What is told: bytes in a row of their own, and an error. -/
def TellP (W : World) (k : Int) (xs : List B8) (e : Ending) (w' : World) : Prop := ∃ A c, e = .returned (.tuple #[.slice A xs.length c, .int .i64 k]) ∧ OwnN w' W.heap.size (.slice A xs.length c) xs ∧ Ok W w'
def errOf (b : Bool) : Int := if b then 2 else 0
def bytesOf (b : Bool) (xs : List B8) : List B8 := if b then [] else xs
theorem done_any (b : Bool) (g : Nat) (xs : List B8) (W : World) (hw : Wn b g W xs) (hx : xs.length ≤ 140737488350000) :
    Calls Try.prog 18 #[.pointer (some ⟨g, 0, none⟩)] W (TellP W (errOf b) (bytesOf b xs)) := by
  cases b with
  | true =>
    refine (done_nz g xs W hw).mono ?_
    rintro e w' ⟨rfl, rfl⟩
    exact ⟨none, 0, rfl, World.ownsRow_nil _ _ _ _, Ok.refl _⟩
  | false =>
    refine (done_z g xs W hw hx).mono ?_
    rintro e w' ⟨A, c, rfl, ho, hk⟩
    exact ⟨A, c, rfl, ho, hk⟩
theorem rWrite_any (nums : List Int) (flags : List Bool) (txts : List ByteArray) (rows : List (List B8)) (An Af At Ar : Option Addr) (nn nf nt nr cn cf ct cr : Nat) (W : World)
    (hnn : nums.length = nn) (hnf : flags.length = nf) (hnt : txts.length = nt) (hnr : rows.length = nr) (ha : Args W nums flags txts rows An Af At Ar) (hs : Short nums flags txts rows) :
    Calls Try.prog 19 #[.slice An nn cn, .slice Af nf cf, .slice At nt ct, .slice Ar nr cr] W (TellP W (errOf (nums.any badN)) (bytesOf (nums.any badN) (encA nums flags txts rows))) := by
  refine (rWrite_w nums flags txts rows An Af At Ar nn nf nt nr cn cf ct cr W hnn hnf hnt hnr ha hs).mono ?_
  rintro e w' (⟨hb, rfl, hk⟩ | ⟨hb, A, c, rfl, ho, hk⟩)
  · rw [hb]; exact ⟨none, 0, rfl, World.ownsRow_nil _ _ _ _, hk⟩
  · rw [hb]; exact ⟨A, c, rfl, ho, hk⟩
theorem encsT_tsum (l : List ByteArray) : ∀ k, k ≤ l.length → (encsT (l.take k)).length ≤ 10 * k + tsum l k
  | 0, _ => by simp [encsT]
  | k + 1, h => by
    have ih := encsT_tsum l k (by omega)
    rw [encsT_take l k (by omega), List.length_append, tsum_succ l k (by omega)]
    have := encT_len (l.getD k ⟨#[]⟩)
    omega
theorem encsR_rsum (l : List (List B8)) : ∀ k, k ≤ l.length → (encsR (l.take k)).length ≤ 10 * k + rsum l k
  | 0, _ => by simp [encsR]
  | k + 1, h => by
    have ih := encsR_rsum l k (by omega)
    rw [encsR_take l k (by omega), List.length_append, rsum_succ l k (by omega)]
    have h1 : (encR (l.getD k [])).length ≤ 10 + (l.getD k []).length := by
      unfold encR; rw [List.length_append]; have := enc_len (l.getD k []).length; omega
    omega
theorem Args.rows {w : World} {nums : List Int} {flags : List Bool} {txts : List ByteArray} {rows : List (List B8)} {An Af At Ar : Option Addr} (h : Args w nums flags txts rows An Af At Ar) : RowsA w Ar rows := h.r
/-- The writer's calls, all four, on what lies below it. -/
theorem args_low {W w : World} {g : Nat} {nums : List Int} {flags : List Bool} {txts : List ByteArray} {rows : List (List B8)} {An Af At Ar : Option Addr} (h : Args W nums flags txts rows An Af At Ar) (hg : W.heap.size ≤ g) (k : Ok W w) :
    (∀ k, k < nums.length → ∃ b o, An = some ⟨b, o, none⟩ ∧ b < g ∧ w.cell? ⟨b, o + k, none⟩ = some (.int .i64 (nums.getD k 0))) ∧
    (∀ k, k < flags.length → ∃ b o, Af = some ⟨b, o, none⟩ ∧ b < g ∧ w.cell? ⟨b, o + k, none⟩ = some (.bool (flags.getD k false))) ∧
    (∀ k, k < txts.length → ∃ b o, At = some ⟨b, o, none⟩ ∧ b < g ∧ w.cell? ⟨b, o + k, none⟩ = some (.string (txts.getD k ⟨#[]⟩))) :=
  ⟨fun j hj => let ⟨b, o, e, hc⟩ := h.n j hj; ⟨b, o, e, Nat.lt_of_lt_of_le (World.block_lt_of_cell? _ _ hc) hg, k.cell hc⟩,
   fun j hj => let ⟨b, o, e, hc⟩ := h.f j hj; ⟨b, o, e, Nat.lt_of_lt_of_le (World.block_lt_of_cell? _ _ hc) hg, k.cell hc⟩,
   fun j hj => let ⟨b, o, e, hc⟩ := h.t j hj; ⟨b, o, e, Nat.lt_of_lt_of_le (World.block_lt_of_cell? _ _ hc) hg, k.cell hc⟩⟩
theorem lent_low {B : Nat} {w1 w : World} {A : Option Addr} {k c : Nat} {ll : List (List B8)} (h : LrR B w1 A k c ll) (o : Ok w1 w) (hx : ∀ j, j < k → (ll.getD j []).length ≤ 1000000) :
    ∀ j, j < k → ∃ b o V, A = some ⟨b, o, none⟩ ∧ b < w1.heap.size ∧ w.cell? ⟨b, o + j, none⟩ = some V ∧ BytesIn w V (ll.getD j []) ∧ LowB w1.heap.size V (ll.getD j []) := fun j hj => by
  obtain ⟨q, g, cap, rfl, -, hq, hc, hcap, -, hg, ho⟩ := h.at j hj
  refine ⟨q, 0, _, rfl, hq, ?_, o.bytes (lent_bytes rfl (by have := hx j hj; omega) ho), fun A' c' e h0 => ?_⟩
  · rw [Nat.zero_add]; exact o.cell hc
  · simp only [Value.slice.injEq, Option.some.injEq] at e
    rw [← e.1]; exact hg
set_option maxRecDepth 100000 in
set_option maxHeartbeats 8000000 in
theorem wireWrites_w (W : World) (nums : List Int) (flags : List Bool) (txts : List ByteArray) (rows : List (List B8)) (An Af At Ar : Option Addr) (cn cf ct cr : Nat)
    (ha : Args W nums flags txts rows An Af At Ar) (h1 : nums.length ≤ 140737488351232) (h2 : flags.length ≤ 140737488351232) (h3 : txts.length ≤ 140737488351232) (h4 : rows.length ≤ 140737488351232)
    (hts : ∀ k, k < txts.length → (txts.getD k { data := #[] }).size ≤ 140737488351232) :
    Calls Try.prog 3 #[.slice An nums.length cn, .slice Af flags.length cf, .slice At txts.length ct, .slice Ar rows.length cr] W fun e w' => e = .returned (.bool true) ∧ Ok W w' := by
  have HA := Lib.hid ha
  have HTS := Lib.hid hts
  clear ha hts
  generalize hnn : nums.length = nn at *
  generalize hnf : flags.length = nf at *
  generalize hnt : txts.length = nt at *
  generalize hnr : rows.length = nr at *
  have HNN := Lib.hid hnn
  have HNF := Lib.hid hnf
  have HNT := Lib.hid hnt
  have HNR := Lib.hid hnr
  clear hnn hnf hnt hnr
  have HO1 : Hid (Ok W W) := Lib.hid (Ok.refl W)
  have HAW := Lib.hid (fun V => awake_v V)
  go_enter Try.func3, Try.ntmps3
  go_wp2_with fail
  go_loop [9, 10] (fun v i => ∃ (k N : Nat), k ≤ nt ∧ i = .int .i64 k ∧ v = .int .i64 N ∧ N = nn + nf + nt + nr + tsum txts k ∧ N ≤ 1000000000000000) (fun _ i => nt - (intOf i).toNat)
  case atStart => exact ⟨0, nn + nf + nt + nr, Nat.zero_le _, rfl, by go_num, by simp [tsum], by omega⟩
  case round =>
    obtain ⟨k, N, hk, rfl, rfl, hN, hNb⟩ := hrel
    have HN := Lib.hid hN
    clear hN
    by_cases hc : k < nt ∧ N ≤ 20000
    · obtain ⟨hlt, hle⟩ := hc
      obtain ⟨b, o, rfl, hcell⟩ := HA.out.t k (by rw [HNT.out]; exact hlt)
      have hcell := HO1.out.cell hcell
      have HS := Lib.hid (tsum_succ txts k (by rw [HNT.out]; exact hlt))
      have hsz := HTS.out k hlt
      generalize txts.getD k { data := #[] } = s at *
      have hd : decide (k < nt) = true := decide_eq_true hlt
      have hi0 : (0 : Int) ≤ (k : Int) := Int.natCast_nonneg _
      have hi1 : (k : Int) < (nt : Int) := by omega
      go_wp2_with fail
      go_round
      case rel => exact ⟨k + 1, N + s.size, by omega, by go_num, by go_num, by rw [HS.out, HN.out]; omega, by omega⟩
      case measure => simp [intOf]; omega
    · by_cases hbig : 20000 < N
      · have hdb : decide ((20000 : Int) < (N : Int)) = true := decide_eq_true (by omega)
        have hdb2 : decide (20000 < N) = true := decide_eq_true hbig
        have hdb3 : decide ((N : Int) ≤ 20000) = false := decide_eq_false (by omega)
        have hdb4 : decide (N ≤ 20000) = false := decide_eq_false (by omega)
        have HB4 := Lib.hid hNb
        clear hc hbig hNb
        by_cases hkt : k < nt
        all_goals
          go_wp2_with fail
          go_loop [9, 11] (fun v i => v = .int .i64 N ∧ i = .int .i64 0) (fun _ _ => 0)
          case atStart => exact ⟨rfl, rfl⟩
          case round =>
            obtain ⟨rfl, rfl⟩ := hrel
            by_cases hnr0 : 0 < nr
            all_goals
              go_wp2_with fail
              (with_reducible refine (HAW.out _).mono ?_)
              rintro _ wa ⟨rfl, oa⟩
              go_wp2_with fail
              go_ret
              exact ⟨rfl, oa⟩
      · obtain rfl : nt = k := by omega
        have hdb3 : decide ((N : Int) ≤ 20000) = true := decide_eq_true (by omega)
        have hdb4 : decide (N ≤ 20000) = true := decide_eq_true (by omega)
        clear hc
        go_wp2_with fail
        go_loop [9, 11] (fun v i => ∃ (k M : Nat), k ≤ nr ∧ i = .int .i64 k ∧ v = .int .i64 M ∧ M = N + rsum rows k ∧ M ≤ 1000000000000000) (fun _ i => nr - (intOf i).toNat)
        case atStart => exact ⟨0, N, Nat.zero_le _, rfl, rfl, by simp [rsum], by omega⟩
        case round =>
          clear hdb3 hdb4
          obtain ⟨j, M, hj, rfl, rfl, hM, hMb⟩ := hrel
          have HM := Lib.hid hM
          clear hM
          by_cases hc : j < nr ∧ M ≤ 20000
          · obtain ⟨hlt, hle⟩ := hc
            obtain ⟨b, o, V, rfl, hcell, hby⟩ := HA.out.r j (by rw [HNR.out]; exact hlt)
            have hcell := HO1.out.cell hcell
            have HS := Lib.hid (rsum_succ rows j (by rw [HNR.out]; exact hlt))
            generalize rows.getD j [] = s at *
            obtain ⟨Av, cv, rfl, hsz⟩ := hby.form
            clear hby
            have hd : decide (j < nr) = true := decide_eq_true hlt
            have hi0 : (0 : Int) ≤ (j : Int) := Int.natCast_nonneg _
            have hi1 : (j : Int) < (nr : Int) := by omega
            go_wp2_with fail
            go_round
            case rel => exact ⟨j + 1, M + s.length, by omega, by go_num, by go_num, by rw [HS.out, HM.out]; omega, by omega⟩
            case measure => simp [intOf]; omega
          · by_cases hbig2 : 20000 < M
            · have hdb : decide ((20000 : Int) < (M : Int)) = true := decide_eq_true (by omega)
              have hdb2 : decide (20000 < M) = true := decide_eq_true hbig2
              have hdb3 : decide ((M : Int) ≤ 20000) = false := decide_eq_false (by omega)
              have hdb4 : decide (M ≤ 20000) = false := decide_eq_false (by omega)
              clear hc hbig2
              by_cases hkt : j < nr
              all_goals
                go_wp2_with fail
                (with_reducible refine (HAW.out _).mono ?_)
                rintro _ wa ⟨rfl, oa⟩
                go_wp2_with fail
                go_ret
                exact ⟨rfl, oa⟩
            · obtain rfl : nr = j := by omega
              have HML : Hid (M ≤ 20000) := Lib.hid (by omega)
              have HMN : Hid (nn ≤ M) := Lib.hid (by have h1 := HM.out; have h2 := HN.out; omega)
              have HFT : Hid (∀ k, k < txts.length → (txts.getD k { data := #[] }).size ≤ 20000) := Lib.hid fun k hk => by
                have h1 := size_le_tsum txts k hk
                rw [HNT.out] at h1
                have h2 := HM.out; have h3 := HN.out; omega
              have HFR : Hid (∀ k, k < rows.length → (rows.getD k []).length ≤ 20000) := Lib.hid fun k hk => by
                have h1 := len_le_rsum rows k hk
                rw [HNR.out] at h1
                have h2 := HM.out; omega
              have hdb : decide ((20000 : Int) < (M : Int)) = false := decide_eq_false (by omega)
              have hdb2 : decide (20000 < M) = false := decide_eq_false (by omega)
              have HTOT : Hid ((encA nums flags txts rows).length ≤ 1000000) := Lib.hid (by
                have e1 := HM.out; have e2 := HN.out; have e3 := HML.out
                have e4 := encsT_tsum txts txts.length (Nat.le_refl _)
                have e5 := encsR_rsum rows rows.length (Nat.le_refl _)
                have e6 := encsI_len nums
                rw [List.take_length, HNT.out] at e4
                rw [List.take_length, HNR.out] at e5
                rw [HNN.out] at e6
                unfold encA
                rw [List.length_append, List.length_append, List.length_append, List.length_map, HNF.out]
                omega)
              have HTE : Hid ((encsT txts).length ≤ 1000000) := Lib.hid (by
                have e1 := HM.out; have e2 := HN.out; have e3 := HML.out
                have e4 := encsT_tsum txts txts.length (Nat.le_refl _)
                rw [List.take_length, HNT.out] at e4
                omega)
              have HSH : Hid (Short nums flags txts rows) := Lib.hid (by
                have e1 := HM.out; have e2 := HN.out; have e3 := HML.out
                have e4 := encsT_tsum txts txts.length (Nat.le_refl _)
                have e5 := encsR_rsum rows rows.length (Nat.le_refl _)
                rw [List.take_length, HNT.out] at e4
                rw [List.take_length, HNR.out] at e5
                exact ⟨by rw [HNN.out]; omega, by rw [HNF.out]; omega, by rw [HNT.out]; omega, by rw [HNR.out]; omega, fun k hk => by have := HFT.out k hk; omega, fun k hk => by have := HFR.out k hk; omega, by omega, by omega⟩)
              clear hc hNb hMb HM HN HFT
              have hnnb : nn ≤ 1000000 := by have := HSH.out.n; rw [HNN.out] at this; exact this
              have hnfb : nf ≤ 1000000 := by have := HSH.out.f; rw [HNF.out] at this; exact this
              have hntb : nt ≤ 1000000 := by have := HSH.out.t; rw [HNT.out] at this; exact this
              have hnrb : nr ≤ 1000000 := by have := HSH.out.r; rw [HNR.out] at this; exact this
              go_wp2_with fail
              clear hdb hdb2
              (with_reducible refine (lentRows_w W Ar nr cr rows HA.out.rows HNR.out hnrb HSH.out.rb).mono ?_)
              rintro _ w1 ⟨A1, c1, rfl, hlr, ok1⟩
              have HLR := Lib.hid hlr
              have HK1 := Lib.hid ok1
              have HLL := Lib.hid (fun w (o : Ok w1 w) => lent_low hlr o (fun j hj => HSH.out.rb j (by rw [HNR.out]; exact hj)))
              clear hlr ok1
              go_wp2_with fail
              (with_reducible refine (newWriter_s w1).mono ?_)
              rintro _ w2 ⟨rfl, hws, ok2, -⟩
              have HK2 := Lib.hid ok2
              have HW2 : Hid (Wn false w1.heap.size w2 []) := Lib.hid ⟨none, 0, hws _ (fun b hb => hb.elim)⟩
              clear hws ok2
              obtain ⟨g, hg⟩ : ∃ g, w1.heap.size = g := ⟨_, rfl⟩
              rw [hg] at HW2 HLL ⊢
              have HG := Lib.hid hg
              clear hg
              have HWG : Hid (W.heap.size ≤ g) := Lib.hid (HG.out ▸ HK1.out.size)
              go_wp2_with fail
              (with_reducible refine (nums_z false g [] w2 HW2.out nums An nn cn HNN.out hnnb (by simp) (fun k hk => (args_low HA.out HWG.out (Ok.trans HK1.out HK2.out)).1 k (by rw [HNN.out]; exact hk))).mono ?_)
              rintro _ w3 ⟨rfl, hw3, b3⟩
              have HW3 := Lib.hid hw3
              have HK3 : Hid (Ok w1 w3) := Lib.hid (Below.trans HK2.out (by rw [HG.out]; exact b3))
              clear hw3 b3
              rw [List.nil_append, Bool.false_or] at HW3
              have HE1 : Hid ((encsI nums).length ≤ 10000000) := Lib.hid (by have := encsI_len nums; have := HSH.out.n; omega)
              go_wp2_with fail
              (with_reducible refine (flags_z _ g _ w3 HW3.out flags Af nf cf HNF.out hnfb (by have := HE1.out; omega) (fun k hk => (args_low HA.out HWG.out (Ok.trans HK1.out HK3.out)).2.1 k (by rw [HNF.out]; exact hk))).mono ?_)
              rintro _ w4 ⟨rfl, hw4, b4⟩
              have HW4 := Lib.hid hw4
              have HK4 : Hid (Ok w1 w4) := Lib.hid (Below.trans HK3.out (by rw [HG.out]; exact b4))
              clear hw4 b4
              have HE2 : Hid ((encsI nums ++ flags.map fB).length ≤ 20000000) := Lib.hid (by rw [List.length_append, List.length_map]; have := HE1.out; have := HSH.out.f; omega)
              go_wp2_with fail
              (with_reducible refine (texts_z _ g _ w4 HW4.out txts At nt ct HNT.out hntb (by have := HE2.out; omega) HSH.out.te (fun k hk => by have := HSH.out.tb k (by rw [HNT.out]; exact hk); omega) (fun k hk => (args_low HA.out HWG.out (Ok.trans HK1.out HK4.out)).2.2 k (by rw [HNT.out]; exact hk))).mono ?_)
              rintro _ w5 ⟨rfl, hw5, b5⟩
              have HW5 := Lib.hid hw5
              have HK5 : Hid (Ok w1 w5) := Lib.hid (Below.trans HK4.out (by rw [HG.out]; exact b5))
              clear hw5 b5
              have HE3 : Hid ((encsI nums ++ flags.map fB ++ encsT txts).length ≤ 40000000) := Lib.hid (by rw [List.length_append]; have := HE2.out; have := HTE.out; omega)
              go_wp2_with fail
              (with_reducible refine (rows_z _ g _ w5 HW5.out rows A1 nr c1 HNR.out hnrb (by have := HE3.out; omega) HSH.out.re (fun k hk => by have := HSH.out.rb k (by rw [HNR.out]; exact hk); omega) (HLL.out w5 HK5.out)).mono ?_)
              rintro _ w6 ⟨rfl, hw6, b6⟩
              have HW6 : Hid (Wn (nums.any badN) g w6 (encA nums flags txts rows)) := Lib.hid hw6
              have HK6 : Hid (Ok w1 w6) := Lib.hid (Below.trans HK5.out (by rw [HG.out]; exact b6))
              clear hw6 b6 HW5 HW4 HW3 HW2
              have HE4 := HTOT
              clear HE1 HE2 HE3 HLL HTOT HTE
              have HRW := Lib.hid (fun V (o : Ok W V) => rWrite_any nums flags txts rows An Af At Ar nn nf nt nr cn cf ct cr V HNN.out HNF.out HNT.out HNR.out (HA.out.ok o) HSH.out)
              have HE5 : Hid ((bytesOf (nums.any badN) (encA nums flags txts rows)).length ≤ 1000000) := Lib.hid (by unfold bytesOf; split; exact Nat.zero_le _; exact HE4.out)
              have HDN := Lib.hid (fun V (h : Wn (nums.any badN) g V (encA nums flags txts rows)) => done_any _ g _ V h (by have := HE4.out; omega))
              generalize encA nums flags txts rows = ea at *
              generalize nums.any badN = bb at *
              generalize errOf bb = ke at *
              generalize bytesOf bb ea = xs at *
              generalize hL : xs.length = L at *
              have HL := Lib.hid hL
              clear hL
              have hke : (ke == ke) = true := by simp
              go_wp2_with fail
              (with_reducible refine (HDN.out w6 HW6.out).mono ?_)
              rintro _ w7 ⟨Aa, ca, rfl, hoa, k7⟩
              rw [HL.out] at hoa ⊢
              have HOA := Lib.hid hoa
              have HK67 := Lib.hid k7
              have HW7 : Hid (Wn bb g w7 ea) := Lib.hid (HW6.out.ok k7)
              clear hoa k7
              go_wp2_with fail
              (with_reducible refine (HRW.out w7 (Ok.trans HK1.out (Ok.trans HK6.out HK67.out))).mono ?_)
              rintro _ w8 ⟨Ab, cb, rfl, hob, k8⟩
              rw [HL.out] at hob ⊢
              have HOB := Lib.hid hob
              have HK78 := Lib.hid k8
              have HW8 : Hid (Wn bb g w8 ea) := Lib.hid (HW7.out.ok k8)
              clear hob k8
              go_wp2_with fail
              (with_reducible refine (HDN.out w8 HW8.out).mono ?_)
              rintro _ w9 ⟨Ac, cc, rfl, hoc, k9⟩
              rw [HL.out] at hoc ⊢
              have HOC := Lib.hid hoc
              have HK89 := Lib.hid k9
              clear hoc k9
              have HA9 : Hid (OwnN w9 w6.heap.size (.slice Aa L ca) xs) := Lib.hid (HOA.out.ok (Ok.trans HK78.out HK89.out))
              have HB9 : Hid (OwnN w9 w7.heap.size (.slice Ab L cb) xs) := Lib.hid (HOB.out.ok HK89.out)
              have HK9 : Hid (Ok w1 w9) := Lib.hid (Ok.trans HK6.out (Ok.trans HK67.out (Ok.trans HK78.out HK89.out)))
              have HLB : Hid (xs.length ≤ 140737488351232) := Lib.hid (by rw [HL.out]; have := HE5.out; omega)
              go_wp2_with fail
              (with_reducible refine (sameBytes_v _ _ xs w9 (HA9.out.bytes HLB.out) (HB9.out.bytes HLB.out)).mono ?_)
              rintro _ w10 ⟨rfl, k10⟩
              have HK10 := Lib.hid k10
              clear k10
              go_wp2_with fail
              (with_reducible refine (sameBytes_v _ _ xs w10 ((HOC.out.ok HK10.out).bytes HLB.out) ((HB9.out.ok HK10.out).bytes HLB.out)).mono ?_)
              rintro _ w11 ⟨rfl, k11⟩
              have HK11 := Lib.hid (Ok.trans HK10.out k11)
              clear k11
              go_wp2_with fail
              (with_reducible refine (keptRows_w w11 W.heap.size c1 Ar nr cr rows A1 (HLR.out.ok (Ok.trans HK9.out HK11.out)) (HA.out.ok (Ok.trans HK1.out (Ok.trans HK9.out HK11.out))).rows HNR.out hnrb HSH.out.rb).mono ?_)
              rintro _ w12 ⟨rfl, k12⟩
              have HK12 := Lib.hid (Ok.trans HK11.out k12)
              clear k12
              have HKA : Hid (Ok w12 (w12.alloc (.cells #[.slice Aa L ca, .slice Ac L cc] 26))) := Lib.hid ((Ok.refl w12).alloc _)
              have HCB : Hid ((w12.alloc (.cells #[.slice Aa L ca, .slice Ac L cc] 26)).heap[w12.heap.size]? = some (.cells #[.slice Aa L ca, .slice Ac L cc] 26 (0, 0))) := Lib.hid (heap_alloc_new _ _)
              go_wp2_with fail
              have HF : Hid (Fl 5 1 2 (fun j => if j = 0 then .slice Aa L ca else .slice Ac L cc) (fun _ => xs.length) (fun _ => xs.map bv) 0 (fun j => if j = 0 then .slice Aa L ca else .slice Ac L cc) (fun _ => xs.length) (fun _ => xs.map bv) (w12.alloc (.cells #[.slice Aa L ca, .slice Ac L cc] 26))) := Lib.hid (by
                have h1 := ((HA9.out.ok HK12.out).ok HKA.out)
                have h2 := ((HOC.out.ok HK12.out).ok HKA.out)
                refine fl_k (cont := fun _ => xs) (fun j hj => ?_) (fun i j b hij hj e1 e2 => ?_)
                · by_cases h : j = 0
                  · rw [if_pos h]; exact h1.mono (Nat.zero_le _)
                  · rw [if_neg h]; exact h2.mono (Nat.zero_le _)
                · obtain rfl : i = 0 := by omega
                  obtain rfl : j = 1 := by omega
                  have q1 := (HOA.out.lt b e1).2
                  have q2 := (HOC.out.lt b e2).1
                  have := HK78.out.size
                  omega)
              have HFC : Hid (∀ j, j < 2 → ∃ b off, (some ⟨w12.heap.size, 0, none⟩ : Option Addr) = some ⟨b, off, none⟩ ∧ (w12.alloc (.cells #[.slice Aa L ca, .slice Ac L cc] 26)).cell? ⟨b, off + j, none⟩ = some (if j = 0 then .slice Aa L ca else .slice Ac L cc)) := Lib.hid (fun j hj => by
                refine ⟨_, 0, rfl, ?_⟩
                rw [Nat.zero_add, cell_of_heap HCB.out]
                match j, hj with
                | 0, _ => rfl
                | 1, _ => rfl)
              (with_reducible refine (apartBytes_w (some ⟨w12.heap.size, 0, none⟩) 2 2 (fun j => if j = 0 then .slice Aa L ca else .slice Ac L cc) (fun _ => xs.length) (fun _ => xs.map bv) _ HFC.out HF.out (by omega) (fun _ _ => by rw [HL.out]; have := HE5.out; omega)).mono ?_)
              rintro _ w13 ⟨rfl, kv⟩
              have HK13 : Hid (Ok w1 w13) := Lib.hid (by
                have o1 : Ok w1 (w12.alloc (.cells #[.slice Aa L ca, .slice Ac L cc] 26)) := Ok.trans HK9.out (Ok.trans HK12.out HKA.out)
                refine Below.trans o1 (kv.low (fun j b hj e => ?_) o1.size)
                have q6 := HK6.out.size
                by_cases h : j = 0
                · rw [if_pos h] at e
                  have := (HOA.out.lt b e).1; omega
                · rw [if_neg h] at e
                  have := (HOC.out.lt b e).1
                  have := HK67.out.size; have := HK78.out.size
                  omega)
              clear kv HF HFC HCB
              go_wp2_with fail
              (with_reducible refine (keptRows_w w13 W.heap.size c1 Ar nr cr rows A1 (HLR.out.ok HK13.out) (HA.out.ok (Ok.trans HK1.out HK13.out)).rows HNR.out hnrb HSH.out.rb).mono ?_)
              rintro _ w14 ⟨rfl, k14⟩
              have HK14 := Lib.hid (Ok.trans HK1.out (Ok.trans HK13.out k14))
              clear k14
              go_wp2_with fail
              (with_reducible refine (HAW.out _).mono ?_)
              rintro _ wa ⟨rfl, oa⟩
              go_wp2_with fail
              go_ret
              exact ⟨rfl, Ok.trans HK14.out oa⟩
end Go.Proofs.Ytolfdncmlfnbdaa
