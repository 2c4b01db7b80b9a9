/- The law WireBack, walked: for any numbers, flags, texts and rows it returns true, and turns nothing that was there. -/
import Derived.Test.YtmbnknbbfipciaaWk
namespace Go.Proofs.Ytmbnknbbfipciaa
open Go.RowKit

/-- The law's writer: what it has written of a row of things. -/
def WS (g : Nat) (w : World) (its : List Item) : Prop := ∃ v, Ws (spoil its) g w v (encAll its)
theorem WS.next {g : Nat} {w w' : World} {its p : List Item} {res : Value} {e : Ending} {ys : List B8} {sp : Bool} (h : WsP sp g w res ys e w') (h1 : sp = spoil (its ++ p)) (h2 : ys = encAll its ++ encAll p) : WS g w' (its ++ p) := by
  obtain ⟨_, ⟨A, c, hw⟩, _⟩ := h
  subst h1; subst h2
  rw [← encAll_append] at hw
  exact ⟨_, hw⟩

set_option maxRecDepth 100000 in
set_option maxHeartbeats 8000000 in
theorem wireBack_v (W : World) (nums : List Int) (flags : List Bool) (txts : List ByteArray) (rows : List (List B8)) (An Af At Ar : Option Addr) (cn cf ct cr : Nat)
    (ha : Args W nums flags txts rows An Af At Ar) (h1 : nums.length ≤ 140737488351232) (h2 : flags.length ≤ 140737488351232) (h3 : txts.length ≤ 140737488351232) (h4 : rows.length ≤ 140737488351232)
    (hts : ∀ k, k < txts.length → (txts.getD k { data := #[] }).size ≤ 140737488351232) :
    Calls Try.prog 3 #[.slice An nums.length cn, .slice Af flags.length cf, .slice At txts.length ct, .slice Ar rows.length cr] W fun e w' => e = .returned (.bool true) ∧ Ok W w' := by
  have HA := Lib.hid ha
  have HTS := Lib.hid hts
  clear ha hts
  generalize hnn : nums.length = nn at *
  generalize hnf : flags.length = nf at *
  generalize hnt : txts.length = nt at *
  generalize hnr : rows.length = nr at *
  have HNN := Lib.hid hnn
  have HNF := Lib.hid hnf
  have HNT := Lib.hid hnt
  have HNR := Lib.hid hnr
  clear hnn hnf hnt hnr
  go_enter Try.func3, Try.ntmps3
  go_wp2_with fail
  refine (awake_v _).mono ?_
  rintro e w1 ⟨rfl, hok1⟩
  have HO1 := Lib.hid hok1
  clear hok1
  go_wp2_with fail
  go_loop [9, 10] (fun v i => ∃ (k N : Nat), k ≤ nt ∧ i = .int .i64 k ∧ v = .int .i64 N ∧ N = nn + nf + nt + nr + tsum txts k ∧ N ≤ 1000000000000000) (fun _ i => nt - (intOf i).toNat)
  case atStart => exact ⟨0, nn + nf + nt + nr, Nat.zero_le _, rfl, by go_num, by simp [tsum], by omega⟩
  case round =>
    obtain ⟨k, N, hk, rfl, rfl, hN, hNb⟩ := hrel
    have HN := Lib.hid hN
    clear hN
    by_cases hc : k < nt ∧ N ≤ 20000
    · obtain ⟨hlt, hle⟩ := hc
      obtain ⟨b, o, rfl, hcell⟩ := HA.out.t k (by rw [HNT.out]; exact hlt)
      have hcell := HO1.out.cell hcell
      have HS := Lib.hid (tsum_succ txts k (by rw [HNT.out]; exact hlt))
      have hsz := HTS.out k hlt
      generalize txts.getD k { data := #[] } = s at *
      have hd : decide (k < nt) = true := decide_eq_true hlt
      have hi0 : (0 : Int) ≤ (k : Int) := Int.natCast_nonneg _
      have hi1 : (k : Int) < (nt : Int) := by omega
      go_wp2_with fail
      go_round
      case rel => exact ⟨k + 1, N + s.size, by omega, by go_num, by go_num, by rw [HS.out, HN.out]; omega, by omega⟩
      case measure => simp [intOf]; omega
    · by_cases hbig : 20000 < N
      · have hdb : decide ((20000 : Int) < (N : Int)) = true := decide_eq_true (by omega)
        have hdb2 : decide (20000 < N) = true := decide_eq_true hbig
        have hdb3 : decide ((N : Int) ≤ 20000) = false := decide_eq_false (by omega)
        have hdb4 : decide (N ≤ 20000) = false := decide_eq_false (by omega)
        have HB4 := Lib.hid hNb
        clear hc hbig hNb
        by_cases hkt : k < nt
        all_goals
          go_wp2_with fail
          go_loop [9, 11] (fun v i => v = .int .i64 N ∧ i = .int .i64 0) (fun _ _ => 0)
          case atStart => exact ⟨rfl, rfl⟩
          case round =>
            obtain ⟨rfl, rfl⟩ := hrel
            by_cases hnr0 : 0 < nr
            all_goals
              go_wp2_with fail
              go_ret
              exact ⟨rfl, HO1.out⟩
      · obtain rfl : nt = k := by omega
        have hdb3 : decide ((N : Int) ≤ 20000) = true := decide_eq_true (by omega)
        have hdb4 : decide (N ≤ 20000) = true := decide_eq_true (by omega)
        clear hc
        go_wp2_with fail
        go_loop [9, 11] (fun v i => ∃ (k M : Nat), k ≤ nr ∧ i = .int .i64 k ∧ v = .int .i64 M ∧ M = N + rsum rows k ∧ M ≤ 1000000000000000) (fun _ i => nr - (intOf i).toNat)
        case atStart => exact ⟨0, N, Nat.zero_le _, rfl, rfl, by simp [rsum], by omega⟩
        case round =>
          clear hdb3 hdb4
          obtain ⟨j, M, hj, rfl, rfl, hM, hMb⟩ := hrel
          have HM := Lib.hid hM
          clear hM
          by_cases hc : j < nr ∧ M ≤ 20000
          · obtain ⟨hlt, hle⟩ := hc
            obtain ⟨b, o, V, rfl, hcell, hby⟩ := HA.out.r j (by rw [HNR.out]; exact hlt)
            have hcell := HO1.out.cell hcell
            have HS := Lib.hid (rsum_succ rows j (by rw [HNR.out]; exact hlt))
            generalize rows.getD j [] = s at *
            obtain ⟨Av, cv, rfl, hsz⟩ := hby.form
            clear hby
            have hd : decide (j < nr) = true := decide_eq_true hlt
            have hi0 : (0 : Int) ≤ (j : Int) := Int.natCast_nonneg _
            have hi1 : (j : Int) < (nr : Int) := by omega
            go_wp2_with fail
            go_round
            case rel => exact ⟨j + 1, M + s.length, by omega, by go_num, by go_num, by rw [HS.out, HM.out]; omega, by omega⟩
            case measure => simp [intOf]; omega
          · by_cases hbig2 : 20000 < M
            · have hdb : decide ((20000 : Int) < (M : Int)) = true := decide_eq_true (by omega)
              have hdb2 : decide (20000 < M) = true := decide_eq_true hbig2
              have hdb3 : decide ((M : Int) ≤ 20000) = false := decide_eq_false (by omega)
              have hdb4 : decide (M ≤ 20000) = false := decide_eq_false (by omega)
              clear hc hbig2
              by_cases hkt : j < nr
              all_goals
                go_wp2_with fail
                go_ret
                exact ⟨rfl, HO1.out⟩
            · obtain rfl : nr = j := by omega
              have HML : Hid (M ≤ 20000) := Lib.hid (by omega)
              have HMN : Hid (nn ≤ M) := Lib.hid (by have h1 := HM.out; have h2 := HN.out; omega)
              have HFT : Hid (∀ k, k < txts.length → (txts.getD k { data := #[] }).size ≤ 20000) := Lib.hid fun k hk => by
                have h1 := size_le_tsum txts k hk
                rw [HNT.out] at h1
                have h2 := HM.out; have h3 := HN.out; omega
              have HFR : Hid (∀ k, k < rows.length → (rows.getD k []).length ≤ 20000) := Lib.hid fun k hk => by
                have h1 := len_le_rsum rows k hk
                rw [HNR.out] at h1
                have h2 := HM.out; omega
              have hdb : decide ((20000 : Int) < (M : Int)) = false := decide_eq_false (by omega)
              have hdb2 : decide (20000 < M) = false := decide_eq_false (by omega)
              clear hc hNb hMb HM HN
              go_wp2_with fail
              clear hdb hdb2
              refine (newWriter_s _).mono ?_
              rintro e w2 ⟨rfl, hws, hbe⟩
              have HO2 : Hid (Ok W w2) := Lib.hid (HO1.out.trans hbe)
              have hg : W.heap.size ≤ w1.heap.size := HO1.out.size
              have HW0 : Hid (WS w1.heap.size w2 (itemsTo nums flags (txts.map ofStr) rows 0)) := Lib.hid ⟨_, hws⟩
              clear hws hbe
              generalize w1.heap.size = g at *
              have HG := Lib.hid hg
              clear hg
              go_wp2_with fail
              go_loopw [13] (fun i wr => ∃ k : Nat, k ≤ M ∧ i = .int .i64 k ∧ WS g wr (itemsTo nums flags (txts.map ofStr) rows k) ∧ Ok W wr ∧ (encAll (itemsTo nums flags (txts.map ofStr) rows k)).length ≤ 50000 * k) (fun i _ => M - (intOf i).toNat)
              case atStart => exact ⟨0, Nat.zero_le _, rfl, HW0.out, HO2.out, by simp [itemsTo, encAll]⟩
              case round =>
                obtain ⟨k, hk, rfl, hwx, hokx, hlen⟩ := hrel
                have HLEN := Lib.hid hlen
                clear hlen
                by_cases hlt : k < M
                · have HALL : Hid (itemsTo nums flags (txts.map ofStr) rows k ++ rowPart rows k ++ flagPart flags k ++ numPart nums k ++ txtPart (txts.map ofStr) k = itemsTo nums flags (txts.map ofStr) rows (k + 1)) := Lib.hid (by
                    rw [itemsTo_succ]
                    simp only [itemsAt, rowPart, flagPart, numPart, txtPart, List.append_assoc])
                  have HKM : Hid (k < 20000) := Lib.hid (by have := HML.out; omega)
                  have hk2 : k < 20000 := HKM.out
                  generalize itemsTo nums flags (txts.map ofStr) rows k = its at *
                  obtain ⟨v, hws⟩ := hwx
                  have HWS := Lib.hid hws
                  have HOK := Lib.hid hokx
                  clear hws hokx
                  go_upto_if 76 with fail
                  go_cut [13] (fun i wx => i = .int .i64 k ∧ WS g wx (its ++ rowPart rows k) ∧ Ok W wx ∧ (encAll (its ++ rowPart rows k)).length ≤ 50000 * k + 20010)
                  case first =>
                    by_cases hr : k < nr
                    · have hd : decide (k < nr) = true := decide_eq_true hr
                      obtain ⟨b, o, V, rfl, hc, hby⟩ := HA.out.r k (by rw [HNR.out]; exact hr)
                      have HP := Lib.hid (rowPart_in rows k (by rw [HNR.out]; exact hr))
                      have HFX := Lib.hid (HFR.out k (by rw [HNR.out]; exact hr))
                      obtain ⟨Av, cv, rfl, _⟩ := hby.form
                      have HBB : Hid (∀ A c, Value.slice Av (rows.getD k []).length cv = .slice (some A) (rows.getD k []).length c → 0 < (rows.getD k []).length → A.block < g) := Lib.hid (by
                        intro A c he h0
                        rcases hby with ⟨h1, _⟩ | ⟨b', o', c', e, _, _, hcc⟩
                        · rw [h1] at h0; cases h0
                        · simp only [Value.slice.injEq] at he e
                          obtain ⟨rfl, _, _⟩ := he
                          obtain ⟨e1, _, _⟩ := e
                          obtain rfl := Option.some.inj e1
                          exact Nat.lt_of_lt_of_le (World.block_lt_of_cell? _ _ (hcc 0 h0)) HG.out)
                      have HBY : Hid (BytesIn wr (.slice Av (rows.getD k []).length cv) (rows.getD k [])) := Lib.hid (HOK.out.bytes hby)
                      clear hby
                      generalize rows.getD k [] = x at *
                      have hcw := HOK.out.cell hc
                      clear hc
                      have hi0 : (0 : Int) ≤ (k : Int) := Int.natCast_nonneg _
                      have hi1 : (k : Int) < (nr : Int) := by omega
                      have HL2 : Hid ((encAll (its ++ rowPart rows k)).length ≤ 50000 * k + 20010) := Lib.hid (by
                        rw [encAll_append, HP.out, List.length_append]
                        have hx : (encAll [.row x]).length ≤ 20010 := by
                          simp only [encAll, List.flatMap_cons, List.flatMap_nil, Item.enc, List.append_nil, List.length_append]; have := enc_len x.length; have := HFX.out; omega
                        have := HLEN.out
                        omega)
                      go_wp2_with fail
                      refine (rows_s (spoil its) g v (encAll its) x (.slice Av x.length cv) _ (HWS.out.alloc _) (((Ok.refl wr).alloc _).bytes HBY.out) HBB.out (by have := HFX.out; omega) (by have := HLEN.out; omega) wr.heap.size 0 1 (cell_new wr _ 27)).mono ?_
                      rintro e w3 hp
                      have HNX : Hid (WS g w3 (its ++ rowPart rows k)) := Lib.hid (WS.next hp (by rw [spoil_append, rowPart_spoil, Bool.or_false]) (by rw [HP.out]; simp [encAll, Item.enc]))
                      have HOK3 : Hid (Ok W w3) := Lib.hid (Below.trans (HOK.out.alloc _) (hp.2.2.mono HG.out))
                      obtain ⟨rfl, _⟩ := hp
                      clear hcw
                      go_wp2_with fail
                      go_meet
                      case rel => exact ⟨rfl, HNX.out, HOK3.out, HL2.out⟩
                    · have hd : decide (k < nr) = false := decide_eq_false hr
                      have HP : Hid (its ++ rowPart rows k = its) := Lib.hid (by rw [rowPart_out rows k (by rw [HNR.out]; exact hr), List.append_nil])
                      go_wp2_with fail
                      go_meet
                      case rel => rw [HP.out]; exact ⟨rfl, ⟨_, HWS.out⟩, HOK.out, by have := HLEN.out; omega⟩
                  case rest =>
                    clear HOK HWS HLEN
                    obtain ⟨rfl, hwx, hokx, hlen⟩ := hcut
                    have HLEN := Lib.hid hlen
                    clear hlen
                    obtain ⟨wr, rfl⟩ : ∃ wr : World, wr = wc := ⟨_, rfl⟩
                    generalize its ++ rowPart rows k = its at *
                    obtain ⟨v, hws⟩ := hwx
                    have HWS := Lib.hid hws
                    have HOK := Lib.hid hokx
                    clear hws hokx
                    go_upto_if 87 with fail
                    go_cut [13] (fun i wx => i = .int .i64 k ∧ WS g wx (its ++ flagPart flags k) ∧ Ok W wx ∧ (encAll (its ++ flagPart flags k)).length ≤ 50000 * k + 20011)
                    case first =>
                      by_cases hr : k < nf
                      · have hd : decide (k < nf) = true := decide_eq_true hr
                        obtain ⟨b, o, rfl, hc⟩ := HA.out.f k (by rw [HNF.out]; exact hr)
                        have HP := Lib.hid (flagPart_in flags k (by rw [HNF.out]; exact hr))
                        generalize flags.getD k false = x at *
                        have hcw := HOK.out.cell hc
                        clear hc
                        have hi0 : (0 : Int) ≤ (k : Int) := Int.natCast_nonneg _
                        have hi1 : (k : Int) < (nf : Int) := by omega
                        have HL2 : Hid ((encAll (its ++ flagPart flags k)).length ≤ 50000 * k + 20011) := Lib.hid (by
                          rw [encAll_append, HP.out, List.length_append]
                          have hx : (encAll [.flag x]).length ≤ 1 := by
                            simp only [encAll, List.flatMap_cons, List.flatMap_nil, Item.enc, List.append_nil, List.length_cons, List.length_nil]; omega
                          have := HLEN.out
                          omega)
                        go_wp2_with fail
                        refine (flags_s (spoil its) g v (encAll its) x _ (HWS.out.alloc _) (by have := HLEN.out; omega) wr.heap.size 0 1 (cell_new wr _ 4)).mono ?_
                        rintro e w3 hp
                        have HNX : Hid (WS g w3 (its ++ flagPart flags k)) := Lib.hid (WS.next hp (by rw [spoil_append, flagPart_spoil, Bool.or_false]) (by rw [HP.out]; simp [encAll]))
                        have HOK3 : Hid (Ok W w3) := Lib.hid (Below.trans (HOK.out.alloc _) (hp.2.2.mono HG.out))
                        obtain ⟨rfl, _⟩ := hp
                        clear hcw
                        go_wp2_with fail
                        go_meet
                        case rel => exact ⟨rfl, HNX.out, HOK3.out, HL2.out⟩
                      · have hd : decide (k < nf) = false := decide_eq_false hr
                        have HP : Hid (its ++ flagPart flags k = its) := Lib.hid (by rw [flagPart_out flags k (by rw [HNF.out]; exact hr), List.append_nil])
                        go_wp2_with fail
                        go_meet
                        case rel => rw [HP.out]; exact ⟨rfl, ⟨_, HWS.out⟩, HOK.out, by have := HLEN.out; omega⟩
                    case rest =>
                      clear HOK HWS HLEN
                      obtain ⟨rfl, hwx, hokx, hlen⟩ := hcut
                      have HLEN := Lib.hid hlen
                      clear hlen
                      obtain ⟨wr, rfl⟩ : ∃ wr : World, wr = wc := ⟨_, rfl⟩
                      generalize its ++ flagPart flags k = its at *
                      obtain ⟨v, hws⟩ := hwx
                      have HWS := Lib.hid hws
                      have HOK := Lib.hid hokx
                      clear hws hokx
                      go_upto_if 98 with fail
                      go_cut [13] (fun i wx => i = .int .i64 k ∧ WS g wx (its ++ numPart nums k) ∧ Ok W wx ∧ (encAll (its ++ numPart nums k)).length ≤ 50000 * k + 20021)
                      case first =>
                        by_cases hr : k < nn
                        · have hd : decide (k < nn) = true := decide_eq_true hr
                          obtain ⟨b, o, rfl, hc⟩ := HA.out.n k (by rw [HNN.out]; exact hr)
                          have HP := Lib.hid (numPart_in nums k (by rw [HNN.out]; exact hr))
                          generalize nums.getD k 0 = x at *
                          have hcw := HOK.out.cell hc
                          clear hc
                          have hi0 : (0 : Int) ≤ (k : Int) := Int.natCast_nonneg _
                          have hi1 : (k : Int) < (nn : Int) := by omega
                          have HL2 : Hid ((encAll (its ++ numPart nums k)).length ≤ 50000 * k + 20021) := Lib.hid (by
                            rw [encAll_append, HP.out, List.length_append]
                            have hx : (encAll [.num x]).length ≤ 10 := by
                              simp only [encAll, List.flatMap_cons, List.flatMap_nil, Item.enc, List.append_nil]; split; exact Nat.le_trans (enc_len _) (by omega); simp
                            have := HLEN.out
                            omega)
                          go_wp2_with fail
                          refine (numbers_s (spoil its) g v (encAll its) x _ (HWS.out.alloc _) (by have := HLEN.out; omega) wr.heap.size 0 1 (cell_new wr _ 3)).mono ?_
                          rintro e w3 hp
                          have HNX : Hid (WS g w3 (its ++ numPart nums k)) := Lib.hid (WS.next hp (by rw [spoil_append, HP.out]; simp [spoil, badI]) (by rw [HP.out]; simp [encAll]))
                          have HOK3 : Hid (Ok W w3) := Lib.hid (Below.trans (HOK.out.alloc _) (hp.2.2.mono HG.out))
                          obtain ⟨rfl, _⟩ := hp
                          clear hcw
                          go_wp2_with fail
                          go_meet
                          case rel => exact ⟨rfl, HNX.out, HOK3.out, HL2.out⟩
                        · have hd : decide (k < nn) = false := decide_eq_false hr
                          have HP : Hid (its ++ numPart nums k = its) := Lib.hid (by rw [numPart_out nums k (by rw [HNN.out]; exact hr), List.append_nil])
                          go_wp2_with fail
                          go_meet
                          case rel => rw [HP.out]; exact ⟨rfl, ⟨_, HWS.out⟩, HOK.out, by have := HLEN.out; omega⟩
                      case rest =>
                        clear HOK HWS HLEN
                        obtain ⟨rfl, hwx, hokx, hlen⟩ := hcut
                        have HLEN := Lib.hid hlen
                        clear hlen
                        obtain ⟨wr, rfl⟩ : ∃ wr : World, wr = wc := ⟨_, rfl⟩
                        generalize its ++ numPart nums k = its at *
                        obtain ⟨v, hws⟩ := hwx
                        have HWS := Lib.hid hws
                        have HOK := Lib.hid hokx
                        clear hws hokx
                        by_cases hr : k < nt
                        · have hd : decide (k < nt) = true := decide_eq_true hr
                          obtain ⟨b, o, rfl, hc⟩ := HA.out.t k (by rw [HNT.out]; exact hr)
                          have HP := Lib.hid (txtPart_in txts k (by rw [HNT.out]; exact hr))
                          have HFX := Lib.hid (HFT.out k (by rw [HNT.out]; exact hr))
                          generalize txts.getD k { data := #[] } = x at *
                          have hcw := HOK.out.cell hc
                          clear hc
                          have hi0 : (0 : Int) ≤ (k : Int) := Int.natCast_nonneg _
                          have hi1 : (k : Int) < (nt : Int) := by omega
                          have HL2 : Hid ((encAll (its ++ txtPart (txts.map ofStr) k)).length ≤ 50000 * k + 40031) := Lib.hid (by
                            rw [encAll_append, HP.out, List.length_append]
                            have hx : (encAll [.txt (ofStr x)]).length ≤ 20010 := by
                              simp only [encAll, List.flatMap_cons, List.flatMap_nil, Item.enc, List.append_nil, List.length_append, ofStr_len]; have := enc_len x.size; have := HFX.out; omega
                            have := HLEN.out
                            omega)
                          go_wp2_with fail
                          refine (texts_s (spoil its) g v (encAll its) x _ (HWS.out.alloc _) (by have := HFX.out; omega) (by have := HLEN.out; omega) wr.heap.size 0 1 (cell_new wr _ 9)).mono ?_
                          rintro e w3 hp
                          have HNX : Hid (WS g w3 (its ++ txtPart (txts.map ofStr) k)) := Lib.hid (WS.next hp (by rw [spoil_append, txtPart_spoil, Bool.or_false]) (by rw [HP.out]; simp [encAll, Item.enc, ofStr_len]))
                          have HOK3 : Hid (Ok W w3) := Lib.hid (Below.trans (HOK.out.alloc _) (hp.2.2.mono HG.out))
                          obtain ⟨rfl, _⟩ := hp
                          clear hcw
                          go_wp2_with fail
                          go_roundw
                          case rel => exact ⟨k + 1, by omega, by go_num, by rw [← HALL.out]; exact HNX.out, HOK3.out, by rw [← HALL.out]; have := HL2.out; omega⟩
                          case measure => simp [intOf]; omega
                        · have hd : decide (k < nt) = false := decide_eq_false hr
                          have HP : Hid (its ++ txtPart (txts.map ofStr) k = its) := Lib.hid (by rw [txtPart_out txts k (by rw [HNT.out]; exact hr), List.append_nil])
                          go_wp2_with fail
                          go_roundw
                          case rel => exact ⟨k + 1, by omega, by go_num, by rw [← HALL.out, HP.out]; exact ⟨_, HWS.out⟩, HOK.out, by rw [← HALL.out, HP.out]; have := HLEN.out; omega⟩
                          case measure => simp [intOf]; omega

                · obtain rfl : M = k := by omega
                  obtain ⟨v, hws⟩ := hwx
                  have HOKX := Lib.hid hokx
                  clear hokx
                  have HSP := Lib.hid (spoil_iff nums flags (txts.map ofStr) rows M (by rw [HNN.out]; exact HMN.out))
                  have HOKI : Hid ((∀ k, k < nums.length → goodB (nums.getD k 0) = true) → ∀ it ∈ itemsTo nums flags (txts.map ofStr) rows M, it.ok) := Lib.hid fun hg => by
                    refine itemsTo_ok nums flags (txts.map ofStr) rows M (fun n hn => ?_) (fun t ht => ?_) (fun t ht => ?_)
                    · obtain ⟨i, hi, rfl⟩ := List.mem_iff_getElem.1 hn
                      have := hg i hi
                      simpa [List.getD, hi] using this
                    · obtain ⟨s, hs, rfl⟩ := List.mem_map.1 ht
                      obtain ⟨i, hi, rfl⟩ := List.mem_iff_getElem.1 hs
                      have := HFT.out i hi
                      rw [ofStr_len]
                      simpa [List.getD, hi] using this
                    · obtain ⟨i, hi, rfl⟩ := List.mem_iff_getElem.1 ht
                      have := HFR.out i hi
                      simpa [List.getD, hi] using this
                  have HBL : Hid ((encAll (itemsTo nums flags (txts.map ofStr) rows M)).length ≤ 1000000000) := Lib.hid (by have h1 := HLEN.out; have h2 := HML.out; omega)
                  clear HLEN
                  cases hsp : spoil (itemsTo nums flags (txts.map ofStr) rows M) with
                  | true =>
                    rw [hsp] at hws
                    have HBAD := Lib.hid (HSP.out.1 hsp)
                    have HWS := Lib.hid hws
                    clear hws hsp
                    go_wp2_with fail
                    refine (done_bad g v _ _ HWS.out).mono ?_
                    rintro e w3 ⟨rfl, rfl⟩
                    go_wp2_with fail
                    go_loop [16] (fun i => ∃ k : Nat, k ≤ nn ∧ i = .int .i64 k ∧ ∀ j, j < k → goodB (nums.getD j 0) = true) (fun i => nn - (intOf i).toNat)
                    case atStart => exact ⟨0, Nat.zero_le _, rfl, fun j hj => by omega⟩
                    case round =>
                      obtain ⟨q, hq, rfl, hgd⟩ := hrel
                      have HGD := Lib.hid hgd
                      clear hgd
                      by_cases hr : q < nn
                      · have hd : decide (q < nn) = true := decide_eq_true hr
                        obtain ⟨b, o, rfl, hc⟩ := HA.out.n q (by rw [HNN.out]; exact hr)
                        have hcw := HOKX.out.cell hc
                        clear hc
                        have hi0 : (0 : Int) ≤ (q : Int) := Int.natCast_nonneg _
                        have hi1 : (q : Int) < (nn : Int) := by omega
                        cases hgb : goodB (nums.getD q 0) with
                        | true =>
                          have HG2 : Hid (∀ j, j < q + 1 → goodB (nums.getD j 0) = true) := Lib.hid fun j hj => by
                            by_cases h : j < q
                            · exact HGD.out j h
                            · obtain rfl : j = q := by omega
                              exact hgb
                          obtain ⟨hx0, hx1⟩ := (goodB_iff _).1 hgb
                          have hd1 : decide (nums.getD q 0 < 0) = false := decide_eq_false (by omega)
                          have hd2 : decide (4611686018427387903 < nums.getD q 0) = false := decide_eq_false (by omega)
                          clear hgb hx0 hx1
                          generalize nums.getD q 0 = x at *
                          go_wp2_with fail
                          go_round
                          case rel => exact ⟨q + 1, by omega, by go_num, HG2.out⟩
                          case measure => simp [intOf]; omega
                        | false =>
                          by_cases hx0 : nums.getD q 0 < 0
                          · have hd1 : decide (nums.getD q 0 < 0) = true := decide_eq_true hx0
                            clear hgb hx0
                            generalize nums.getD q 0 = x at *
                            go_wp2_with fail
                            go_ret
                            exact ⟨rfl, HOKX.out⟩
                          · have hx1 : 4611686018427387903 < nums.getD q 0 := by
                              have h2 : ¬ (0 ≤ nums.getD q 0 ∧ nums.getD q 0 ≤ 4611686018427387903) := fun h => by rw [(goodB_iff _).2 h] at hgb; cases hgb
                              omega
                            have hd1 : decide (nums.getD q 0 < 0) = false := decide_eq_false hx0
                            have hd2 : decide (4611686018427387903 < nums.getD q 0) = true := decide_eq_true hx1
                            clear hgb hx0 hx1
                            generalize nums.getD q 0 = x at *
                            go_wp2_with fail
                            go_ret
                            exact ⟨rfl, HOKX.out⟩
                      · exfalso
                        obtain ⟨j, hj, hb⟩ := HBAD.out
                        rw [HNN.out] at hj
                        rw [HGD.out j (by omega)] at hb
                        cases hb
                  | false =>
                    rw [hsp] at hws
                    have HGOOD : Hid (∀ k, k < nums.length → goodB (nums.getD k 0) = true) := Lib.hid fun k hk => by
                      cases hb : goodB (nums.getD k 0) with
                      | true => rfl
                      | false => have := HSP.out.2 ⟨k, hk, hb⟩; rw [hsp] at this; cases this
                    have HIT := Lib.hid (HOKI.out HGOOD.out)
                    have HFIT : Hid (Fit nums txts rows) := Lib.hid ⟨HGOOD.out, HFT.out, HFR.out⟩
                    have HRDS : Hid (∀ W0 g' w xs, Ok W W0 → Rd W0 g' w xs false → Calls Try.prog 14 #[.pointer (some ⟨g', 0, none⟩), .int .i64 (M : Int), .slice An nn cn, .slice Af nf cf, .slice At nt ct, .slice Ar nr cr] w
                        fun e w' => e = .returned (.bool (readsB (itemsTo nums flags (txts.map ofStr) rows M) xs)) ∧ Ok W0 w') := Lib.hid fun W0 g' w xs ho hr => by
                      have := reads_v W0 g' w xs M HML.out nums flags txts rows An Af At Ar cn cf ct cr (HA.out.ok ho) HFIT.out hr
                      rwa [HNN.out, HNF.out, HNT.out, HNR.out] at this
                    have HRD2 : Hid (∀ W0 g' w xs, Ok W W0 → Rd W0 g' w xs false → Calls Try.prog 17 #[.pointer (some ⟨g', 0, none⟩), .int .i64 (M : Int), .slice An nn cn, .slice Af nf cf, .slice At nt ct, .slice Ar nr cr] w
                        fun e w' => ∃ v, e = .returned v ∧ St W0 g' xs (itemsTo nums flags (txts.map ofStr) rows M) v w') := Lib.hid fun W0 g' w xs ho hr => by
                      have ha := HA.out.ok ho
                      have := reads2_v W0 g' w xs M HML.out nums flags txts rows An Af At Ar cn cf ct cr (fun k hk => let ⟨b, o, e, hc⟩ := ha.n k hk; ⟨b, o, e, hc, HFIT.out.n k hk⟩) ha.f
                        (fun k hk => let ⟨b, o, e, hc⟩ := ha.t k hk; ⟨b, o, e, hc, HFIT.out.t k hk⟩) (fun k hk => let ⟨b, o, V, e, hc, hb⟩ := ha.r k hk; ⟨b, o, V, e, hc, hb, HFIT.out.r k hk⟩) hr
                      rwa [HNN.out, HNF.out, HNT.out, HNR.out] at this
                    have HWS := Lib.hid hws
                    clear hws hsp HSP HOKI HFT HFR
                    generalize itemsTo nums flags (txts.map ofStr) rows M = its at *
                    go_wp2_with fail
                    refine (done_s g v _ _ HWS.out (by have := HBL.out; omega)).mono ?_
                    rintro e w3 ⟨⟨A, c, rfl, hby⟩, hok3, _⟩
                    have HOK3 := Lib.hid (HOKX.out.trans hok3)
                    have HBY := Lib.hid hby
                    clear hby hok3
                    have HRT := Lib.hid (readsB_all its HIT.out)
                    have HRF := Lib.hid (readsB_short its HIT.out)
                    have HFW : Hid (runI its (encAll its ++ [0#8]) false = ([0#8], false, true)) := Lib.hid (runI_fwd its [0#8] HIT.out)
                    generalize encAll its = bs at *
                    generalize hL : bs.length = L at *
                    have HL := Lib.hid hL
                    clear hL
                    go_wp2_with fail
                    go_loop [16] (fun i => ∃ k : Nat, k ≤ nn ∧ i = .int .i64 k) (fun i => nn - (intOf i).toNat)
                    case atStart => exact ⟨0, Nat.zero_le _, rfl⟩
                    case round =>
                      obtain ⟨q, hq, rfl⟩ := hrel
                      by_cases hr : q < nn
                      · have hd : decide (q < nn) = true := decide_eq_true hr
                        obtain ⟨b, o, rfl, hc⟩ := HA.out.n q (by rw [HNN.out]; exact hr)
                        have hcw := HOK3.out.cell hc
                        clear hc
                        have hi0 : (0 : Int) ≤ (q : Int) := Int.natCast_nonneg _
                        have hi1 : (q : Int) < (nn : Int) := by omega
                        obtain ⟨hx0, hx1⟩ := (goodB_iff _).1 (HGOOD.out q (by rw [HNN.out]; exact hr))
                        have hd1 : decide (nums.getD q 0 < 0) = false := decide_eq_false (by omega)
                        have hd2 : decide (4611686018427387903 < nums.getD q 0) = false := decide_eq_false (by omega)
                        clear hx0 hx1
                        generalize nums.getD q 0 = x at *
                        go_wp2_with fail
                        go_round
                        case rel => exact ⟨q + 1, by omega, by go_num⟩
                        case measure => simp [intOf]; omega
                      · have hd : decide (q < nn) = false := decide_eq_false hr
                        go_wp2_with fail
                        refine (newReader_r _ _ bs HBY.out (by have := HBL.out; have := HL.out; omega)).mono ?_
                        rintro e w4 ⟨W0, g4, rfl, hrd4, hok4, _⟩
                        have HO4 : Hid (Ok W W0) := Lib.hid (HOK3.out.trans hok4)
                        have HO40 : Hid (Ok w3 W0) := Lib.hid hok4
                        have HRD4 := Lib.hid hrd4
                        clear hrd4 hok4
                        go_wp2_with fail
                        refine (HRDS.out W0 g4 _ bs HO4.out HRD4.out).mono ?_
                        rintro e w5 ⟨rfl, hok5⟩
                        have HO5 : Hid (Ok w3 w5) := Lib.hid (HO40.out.trans hok5)
                        clear hok5
                        rw [HRT.out]
                        go_wp2_with fail
                        refine (copyBytes_v _ _ bs (HO5.out.bytes HBY.out) (by have := HBL.out; have := HL.out; omega)).mono ?_
                        rintro e w6 ⟨⟨A6, c6, rfl, hown6⟩, hok6⟩
                        rw [HL.out] at hown6 ⊢
                        have HO6 : Hid (Ok w3 w6) := Lib.hid (HO5.out.trans hok6)
                        have hsz6 := hok6.size
                        have HOW6 := Lib.hid (World.ownsRow.alloc (o := .cells #[.int .u8 0] 5) hown6)
                        have HNEW : Hid (BytesIn (w6.alloc (.cells #[.int .u8 0] 5)) (.slice (some ⟨w6.heap.size, 0, none⟩) 1 1) [0#8]) := Lib.hid (bytes_new w6 _ _ 5 _ _ _ 1 rfl rfl (by decide) (by simp) rfl)
                        have HSZ : Hid (w5.heap.size ≤ (w6.alloc (.cells #[.int .u8 0] 5)).heap.size) := Lib.hid (by rw [World.size_alloc]; omega)
                        have HOK5 := Lib.hid (hok6.alloc (.cells #[.int .u8 0] 5))
                        clear hown6 hok6 hsz6
                        go_wp2_with (at_builtin; go_must (refine wpList_app rfl (.tmp 161) (.tmp 162) rfl w5.heap.size (.slice A6 L c6) bs [0#8] (.slice (some ⟨w6.heap.size, 0, none⟩) 1 1) rfl rfl HOW6.out HNEW.out (by have := HBL.out; have := HL.out; simp only [List.length_singleton]; omega) HSZ.out ?_; intro A7 c7 w7 hown7 hbel7; have HOW7 := Lib.hid hown7; have HBEL7 : Hid (Ok w3 w7) := Lib.hid (HO5.out.call (Below.trans HOK5.out hbel7)); clear hown7 hbel7; rw [HL.out]))
                        refine (newReader_r _ _ (bs ++ [0#8]) (by have := HOW7.out.bytes (by rw [List.length_append]; have := HBL.out; have := HL.out; simp only [List.length_singleton]; omega); rw [HL.out] at this; exact this) (by rw [List.length_append]; have := HBL.out; have := HL.out; simp only [List.length_singleton]; omega)).mono ?_
                        rintro e w8 ⟨W1, g8, rfl, hrd8, hok8, _⟩
                        have HO8 : Hid (Ok w3 W1) := Lib.hid (HBEL7.out.trans hok8)
                        have HRD8 := Lib.hid hrd8
                        clear hrd8 hok8
                        go_wp2_with fail
                        refine (HRD2.out W1 g8 _ (bs ++ [0#8]) (HOK3.out.trans HO8.out) HRD8.out).mono ?_
                        rintro e w9 ⟨v9, rfl, rfl, hrd9⟩
                        rw [HFW.out] at hrd9 ⊢
                        have HRD9 : Hid (Rd W1 g8 w9 [0#8] false) := Lib.hid hrd9
                        clear hrd9
                        go_wp2_with fail
                        refine (left_r W1 g8 _ [0#8] false HRD9.out (fun h => by cases h)).mono ?_
                        rintro e w10 ⟨rfl, rfl⟩
                        simp only [List.length_singleton]
                        go_wp2_with fail
                        refine (end_r W1 g8 _ [0#8] false HRD9.out).mono ?_
                        rintro e w10 ⟨rfl, rfl⟩
                        have he : endOf [0#8] false = 4 := rfl
                        rw [he]
                        clear he
                        have HO9 : Hid (Ok w3 w9) := Lib.hid (HO8.out.trans HRD9.out.2.1)
                        by_cases hL0 : L = 0
                        · subst hL0
                          go_wp2_with fail
                          go_ret
                          exact ⟨rfl, HOK3.out.trans HO9.out⟩
                        · have hLp : 0 < L := by omega
                          have hz : ((L : Int) == 0) = false := by rw [beq_eq_false_iff_ne]; omega
                          have hz2 : (L == 0) = false := by rw [beq_eq_false_iff_ne]; omega
                          have hl1 : (1 : Int) ≤ (L : Int) := by omega
                          have hl2 : (L : Int) ≤ 1000000000 := by have h1 := HBL.out; have h2 := HL.out; omega
                          have HCL : Hid (L ≤ c) := Lib.hid (by
                            rcases HBY.out with ⟨h, _⟩ | ⟨_, _, _, e, hc, _⟩
                            · have := HL.out; rw [h] at this; simp at this; omega
                            · simp only [Value.slice.injEq] at e; have := HL.out; omega)
                          have hc1 : L ≤ c := HCL.out
                          have hc2 : (L : Int) ≤ (c : Int) := by omega
                          have hc3 : (L : Int) - 1 ≤ (c : Int) := by omega
                          have hc4 : L - 1 ≤ c := by omega
                          have HSH : Hid (BytesIn w9 (.slice A (L - 1) c) (bs.take (L - 1))) := Lib.hid (bytes_take (HO9.out.bytes HBY.out) (by have := HL.out; omega))
                          have HRF2 : Hid (readsB its (bs.take (L - 1)) = false) := Lib.hid (HRF.out _ (by rw [List.length_take, HL.out]; omega))
                          have HLT : Hid ((bs.take (L - 1)).length ≤ 140737488350000) := Lib.hid (by rw [List.length_take]; have h1 := HBL.out; have h2 := HL.out; omega)
                          clear hL0
                          go_wp2_with fail
                          refine (newReader_r _ _ (bs.take (L - 1)) HSH.out HLT.out).mono ?_
                          rintro e wa ⟨W2, ga, rfl, hrda, hoka, _⟩
                          have HOA : Hid (Ok W W2) := Lib.hid (HOK3.out.trans (HO9.out.trans hoka))
                          have HRDA := Lib.hid hrda
                          clear hrda hoka
                          go_wp2_with fail
                          refine (HRDS.out W2 ga _ (bs.take (L - 1)) HOA.out HRDA.out).mono ?_
                          rintro e wb ⟨rfl, hokb⟩
                          rw [HRF2.out]
                          have HOB : Hid (Ok W wb) := Lib.hid (HOA.out.trans hokb)
                          clear hokb
                          go_wp2_with fail
                          go_ret
                          exact ⟨rfl, HOB.out⟩


end Go.Proofs.Ytmbnknbbfipciaa
