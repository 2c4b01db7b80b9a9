/- The document's own writing of any numbers, flags, texts and rows. -/
import Derived.Test.YtolfdncmlfnbdaaHa
namespace Go.Proofs.Ytolfdncmlfnbdaa
open Go.RowKit

set_option maxHeartbeats 400000 in
theorem rflag_w (b : Bool) (W : World) : Calls Try.prog 88 #[.bool b] W (RowP W [fB b]) := by
  have H : Hid (∀ b, OwnN (W.alloc (.cells #[.int .u8 (ub (fB b))] 5)) W.heap.size (.slice (some ⟨W.heap.size, 0, none⟩) 1 1) [fB b]) := Lib.hid fun b => own_one W (fB b)
  cases b
  · have H0 := Lib.hid (H.out false)
    clear H
    have e0 : ub (fB false) = 0 := rfl
    rw [e0] at H0
    go_enter Try.func88, Try.ntmps88
    go_wp2_with fail
    go_ret
    exact ⟨_, _, rfl, H0.out, (Ok.refl W).alloc _⟩
  · have H0 := Lib.hid (H.out true)
    clear H
    have e0 : ub (fB true) = 1 := rfl
    rw [e0] at H0
    go_enter Try.func88, Try.ntmps88
    go_wp2_with fail
    go_ret
    exact ⟨_, _, rfl, H0.out, (Ok.refl W).alloc _⟩
/-- The arguments of the law, in memory. -/
structure Args (w : World) (nums : List Int) (flags : List Bool) (txts : List ByteArray) (rows : List (List B8)) (An Af At Ar : Option Addr) : Prop where
  n : ∀ k, k < nums.length → ∃ b o, An = some ⟨b, o, none⟩ ∧ w.cell? ⟨b, o + k, none⟩ = some (.int .i64 (nums.getD k 0))
  f : ∀ k, k < flags.length → ∃ b o, Af = some ⟨b, o, none⟩ ∧ w.cell? ⟨b, o + k, none⟩ = some (.bool (flags.getD k false))
  t : ∀ k, k < txts.length → ∃ b o, At = some ⟨b, o, none⟩ ∧ w.cell? ⟨b, o + k, none⟩ = some (.string (txts.getD k { data := #[] }))
  r : ∀ k, k < rows.length → ∃ b o V, Ar = some ⟨b, o, none⟩ ∧ w.cell? ⟨b, o + k, none⟩ = some V ∧ BytesIn w V (rows.getD k [])
theorem Args.ok {w w' : World} {nums : List Int} {flags : List Bool} {txts : List ByteArray} {rows : List (List B8)} {An Af At Ar : Option Addr} (h : Args w nums flags txts rows An Af At Ar) (k : Ok w w') : Args w' nums flags txts rows An Af At Ar where
  n := fun i hi => let ⟨b, o, e, hc⟩ := h.n i hi; ⟨b, o, e, k.cell hc⟩
  f := fun i hi => let ⟨b, o, e, hc⟩ := h.f i hi; ⟨b, o, e, k.cell hc⟩
  t := fun i hi => let ⟨b, o, e, hc⟩ := h.t i hi; ⟨b, o, e, k.cell hc⟩
  r := fun i hi => let ⟨b, o, V, e, hc, hb⟩ := h.r i hi; ⟨b, o, V, e, k.cell hc, k.bytes hb⟩
/-- What is written of a row of things. -/
def encA (nums : List Int) (flags : List Bool) (txts : List ByteArray) (rows : List (List B8)) : List B8 := encsI nums ++ flags.map fB ++ encsT txts ++ encsR rows
structure Short (nums : List Int) (flags : List Bool) (txts : List ByteArray) (rows : List (List B8)) : Prop where
  n : nums.length ≤ 1000000
  f : flags.length ≤ 1000000
  t : txts.length ≤ 1000000
  r : rows.length ≤ 1000000
  tb : ∀ k, k < txts.length → (txts.getD k { data := #[] }).size ≤ 1000000
  rb : ∀ k, k < rows.length → (rows.getD k []).length ≤ 1000000
  te : (encsT txts).length ≤ 100000000
  re : (encsR rows).length ≤ 100000000
set_option maxRecDepth 100000 in
set_option maxHeartbeats 4000000 in
theorem rWrite_w (nums : List Int) (flags : List Bool) (txts : List ByteArray) (rows : List (List B8)) (An Af At Ar : Option Addr) (nn nf nt nr cn cf ct cr : Nat) (W : World)
    (hnn : nums.length = nn) (hnf : flags.length = nf) (hnt : txts.length = nt) (hnr : rows.length = nr)
    (ha : Args W nums flags txts rows An Af At Ar) (hs : Short nums flags txts rows) :
    Calls Try.prog 19 #[.slice An nn cn, .slice Af nf cf, .slice At nt ct, .slice Ar nr cr] W (WriteQ W (nums.any badN) (encA nums flags txts rows)) := by
  have HA := Lib.hid ha
  have HS := Lib.hid hs
  have hnnm : nn ≤ 1000000 := hnn ▸ hs.n
  have hnfm : nf ≤ 1000000 := hnf ▸ hs.f
  have hntm : nt ≤ 1000000 := hnt ▸ hs.t
  have hnrm : nr ≤ 1000000 := hnr ▸ hs.r
  have HNN := Lib.hid hnn
  have HNF := Lib.hid hnf
  have HNT := Lib.hid hnt
  have HNR := Lib.hid hnr
  have HL1 : Hid ((encsI nums).length ≤ 10000000) := Lib.hid (by have := encsI_len nums; omega)
  clear ha hs hnn hnf hnt hnr
  go_enter Try.func19, Try.ntmps19
  go_wp2_with fail
  go_loopw [10, 11, 12, 13] (fun o i _ _ wr => ∃ (k : Nat) (B : Option Addr) (L d : Nat), k ≤ nn ∧ i = .int .i64 k ∧ o = .slice B L d ∧ L = (encsI (nums.take k)).length ∧ OwnN wr W.heap.size (.slice B L d) (encsI (nums.take k)) ∧ Ok W wr ∧ (nums.take k).any badN = false) (fun _ i _ _ _ => nn - (intOf i).toNat)
  case atStart => exact ⟨0, none, 0, 0, Nat.zero_le _, rfl, rfl, by simp [encsI], by simpa [encsI] using OwnN.nil W _, Ok.refl _, rfl⟩
  case round =>
    obtain ⟨k, B, L, d, hk, rfl, rfl, hL, hown, hok, hbd⟩ := hrel
    have HL := Lib.hid hL
    have HOWN := Lib.hid hown
    have HOK := Lib.hid hok
    have HBD := Lib.hid hbd
    clear hL hown hok hbd
    by_cases hlt : k < nn
    · have d1 : decide ((k : Int) < (nn : Int)) = true := decide_eq_true (by omega)
      have hi0 : (0 : Int) ≤ (k : Int) := Int.natCast_nonneg _
      have hi1 : (k : Int) < (nn : Int) := by omega
      have HE := Lib.hid (encsI_take nums k (by rw [HNN.out]; exact hlt))
      have HLN : Hid ((encsI (nums.take k)).length ≤ 900000000) := Lib.hid (by have := encsI_len (nums.take k); rw [List.length_take] at this; omega)
      obtain ⟨b, off, rfl, C0⟩ := HA.out.n k (by rw [HNN.out]; exact hlt)
      have C0 := Ok.cell HOK.out C0
      have HBT := Lib.hid (bad_take nums k (by rw [HNN.out]; exact hlt))
      have HAT := Lib.hid (any_at (l := nums) (k := k) (by rw [HNN.out]; exact hlt))
      generalize nums.getD k 0 = m at *
      by_cases hb : badN m = true
      · have h2 : m < 0 ∨ 4611686018427387903 < m := by unfold badN at hb; simpa using hb
        have HW := Lib.hid (rnumber_bad m wr h2)
        have HQ := Lib.hid (HAT.out hb)
        clear h2 hb HAT HBT HE
        generalize encsI (nums.take k) = xs at *
        go_wp2_with fail
        refine HW.out.mono ?_
        rintro _ w2 ⟨rfl, rfl⟩
        clear HW
        go_wp2_with fail
        go_ret2
        exact .inl ⟨HQ.out, rfl, HOK.out⟩
      have h1 : badN m = false := by simpa using hb
      have h2 : ¬ m < 0 ∧ ¬ 4611686018427387903 < m := by unfold badN at h1; simpa using h1
      obtain ⟨m, rfl⟩ : ∃ x : Nat, m = x := ⟨m.toNat, by omega⟩
      have HW := Lib.hid (rnumber_w m (by omega) wr)
      have HEL : Hid ((enc m).length ≤ 1000) := Lib.hid (by have := enc_len m; omega)
      have HE2 : Hid (encsI (nums.take (k + 1)) = encsI (nums.take k) ++ enc m) := Lib.hid (by rw [HE.out, encI, if_neg hb]; rfl)
      have HBT2 : Hid ((nums.take (k + 1)).any badN = false) := Lib.hid (by rw [HBT.out, HBD.out, h1]; rfl)
      have HOWX := HOWN
      have HOKX := HOK
      clear h2 h1 hb HAT HE HBT
      generalize enc m = ys at *
      generalize encsI (nums.take k) = xs at *
      go_wp2_with fail
      refine HW.out.mono ?_
      rintro _ w2 ⟨A2, c2, rfl, hown2, hok2⟩
      have HB2 : Hid (BytesIn w2 (.slice A2 ys.length c2) ys) := Lib.hid (hown2.bytes (by have := HEL.out; omega))
      have HOW2 := Lib.hid (HOWX.out.ok hok2)
      have HOK2 := Lib.hid (Ok.trans HOKX.out hok2)
      clear hown2 hok2
      obtain ⟨M, hM⟩ : ∃ M, ys.length = M := ⟨_, rfl⟩
      rw [hM] at HB2 HEL ⊢
      have HM := Lib.hid hM
      clear hM
      go_wp2_with (at_builtin; go_must (refine wpList_app rfl (.tmp 33) (.tmp 34) rfl W.heap.size (.slice B L d) xs ys (.slice A2 M c2) rfl rfl HOW2.out HB2.out (by have := HLN.out; have := HEL.out; have := HM.out; omega) HOK2.out.size ?_; intro A' c' w3 hown3 hbel3; have HOWN3 := Lib.hid hown3; have HOK3 : Hid (Ok W w3) := Lib.hid (Below.trans HOK2.out hbel3); clear hown3 hbel3; rw [← HL.out, HM.out]))
      refine ⟨⟨k + 1, A', L + M, c', hlt, by go_num, rfl, by rw [HE2.out, List.length_append, HL.out, HM.out], by have h := HOWN3.out; rw [← HL.out, HM.out] at h; rw [HE2.out]; exact h, HOK3.out, HBT2.out⟩, ?_⟩
      simp [intOf]; omega
    · have d1 : decide ((k : Int) < (nn : Int)) = false := decide_eq_false (by omega)
      have HFI : Hid (nums.take k = nums) := Lib.hid (List.take_of_length_le (by rw [HNN.out]; omega))
      rw [HFI.out] at HL HOWN HBD
      have HPL : Hid ((encsI nums).length ≤ 10000000) := Lib.hid (by exact HL1.out)
      clear HFI
      obtain ⟨wb, hwb⟩ : ∃ x, x = wr := ⟨_, rfl⟩
      subst hwb
      go_wp2_with fail
      have HPL0 := HPL
      clear HPL
      have HNB := HBD
      clear HBD
      go_loopw [10, 14] (fun o i wr => ∃ (k : Nat) (B : Option Addr) (L d : Nat), k ≤ nf ∧ i = .int .i64 k ∧ o = .slice B L d ∧ L = (encsI nums ++ (flags.take k).map fB).length ∧ OwnN wr W.heap.size (.slice B L d) (encsI nums ++ (flags.take k).map fB) ∧ Ok W wr) (fun _ i _ => nf - (intOf i).toNat)
      case atStart => exact ⟨0, B, L, d, Nat.zero_le _, rfl, rfl, by simpa [encsI] using HL.out, by simpa [encsI] using HOWN.out, HOK.out⟩
      case round =>
        obtain ⟨k, B, L, d, hk, rfl, rfl, hL, hown, hok⟩ := hrel
        have HL := Lib.hid hL
        have HOWN := Lib.hid hown
        have HOK := Lib.hid hok
        clear hL hown hok
        by_cases hlt : k < nf
        · have d1 : decide ((k : Int) < (nf : Int)) = true := decide_eq_true (by omega)
          have hi0 : (0 : Int) ≤ (k : Int) := Int.natCast_nonneg _
          have hi1 : (k : Int) < (nf : Int) := by omega
          have HE := Lib.hid (fB_take flags k (by rw [HNF.out]; exact hlt))
          have HLN : Hid ((encsI nums ++ (flags.take k).map fB).length ≤ 900000000) := Lib.hid (by rw [List.length_append, List.length_map, List.length_take]; have := HPL0.out; omega)
          obtain ⟨b, off, rfl, C0⟩ := HA.out.f k (by rw [HNF.out]; exact hlt)
          have C0 := Ok.cell HOK.out C0
          generalize flags.getD k false = m at *
          have HW := Lib.hid (rflag_w m wr)
          have HEL : Hid (([fB m]).length ≤ 1000) := Lib.hid (by simp)
          have HE2 : Hid (encsI nums ++ (flags.take (k + 1)).map fB = encsI nums ++ (flags.take k).map fB ++ [fB m]) := Lib.hid (by rw [HE.out, List.append_assoc])
          have HOWX := HOWN
          have HOKX := HOK
          clear HE
          generalize [fB m] = ys at *
          generalize encsI nums ++ (flags.take k).map fB = xs at *
          go_wp2_with fail
          refine HW.out.mono ?_
          rintro _ w2 ⟨A2, c2, rfl, hown2, hok2⟩
          have HB2 : Hid (BytesIn w2 (.slice A2 ys.length c2) ys) := Lib.hid (hown2.bytes (by have := HEL.out; omega))
          have HOW2 := Lib.hid (HOWX.out.ok hok2)
          have HOK2 := Lib.hid (Ok.trans HOKX.out hok2)
          clear hown2 hok2
          obtain ⟨M, hM⟩ : ∃ M, ys.length = M := ⟨_, rfl⟩
          rw [hM] at HB2 HEL ⊢
          have HM := Lib.hid hM
          clear hM
          go_wp2_with (at_builtin; go_must (refine wpList_app rfl (.tmp 42) (.tmp 47) rfl W.heap.size (.slice B L d) xs ys (.slice A2 M c2) rfl rfl HOW2.out HB2.out (by have := HLN.out; have := HEL.out; have := HM.out; omega) HOK2.out.size ?_; intro A' c' w3 hown3 hbel3; have HOWN3 := Lib.hid hown3; have HOK3 : Hid (Ok W w3) := Lib.hid (Below.trans HOK2.out hbel3); clear hown3 hbel3; rw [← HL.out, HM.out]))
          refine ⟨⟨k + 1, A', L + M, c', hlt, by go_num, rfl, by rw [HE2.out, List.length_append, HL.out, HM.out], by have h := HOWN3.out; rw [← HL.out, HM.out] at h; rw [HE2.out]; exact h, HOK3.out⟩, ?_⟩
          simp [intOf]; omega
        · have d1 : decide ((k : Int) < (nf : Int)) = false := decide_eq_false (by omega)
          have HFI : Hid (flags.take k = flags) := Lib.hid (List.take_of_length_le (by rw [HNF.out]; omega))
          rw [HFI.out] at HL HOWN
          have HPL : Hid ((encsI nums ++ flags.map fB).length ≤ 20000000) := Lib.hid (by rw [List.length_append, List.length_map]; have := HPL0.out; have := HNF.out; omega)
          clear HFI
          obtain ⟨wb, hwb⟩ : ∃ x, x = wr := ⟨_, rfl⟩
          subst hwb
          go_wp2_with fail
          have HPL0 := HPL
          clear HPL
          go_loopw [10, 15] (fun o i wr => ∃ (k : Nat) (B : Option Addr) (L d : Nat), k ≤ nt ∧ i = .int .i64 k ∧ o = .slice B L d ∧ L = (encsI nums ++ flags.map fB ++ encsT (txts.take k)).length ∧ OwnN wr W.heap.size (.slice B L d) (encsI nums ++ flags.map fB ++ encsT (txts.take k)) ∧ Ok W wr) (fun _ i _ => nt - (intOf i).toNat)
          case atStart => exact ⟨0, B, L, d, Nat.zero_le _, rfl, rfl, by simpa [encsT] using HL.out, by simpa [encsT] using HOWN.out, HOK.out⟩
          case round =>
            obtain ⟨k, B, L, d, hk, rfl, rfl, hL, hown, hok⟩ := hrel
            have HL := Lib.hid hL
            have HOWN := Lib.hid hown
            have HOK := Lib.hid hok
            clear hL hown hok
            by_cases hlt : k < nt
            · have d1 : decide ((k : Int) < (nt : Int)) = true := decide_eq_true (by omega)
              have hi0 : (0 : Int) ≤ (k : Int) := Int.natCast_nonneg _
              have hi1 : (k : Int) < (nt : Int) := by omega
              have HE := Lib.hid (encsT_take txts k (by rw [HNT.out]; exact hlt))
              have HLN : Hid ((encsI nums ++ flags.map fB ++ encsT (txts.take k)).length ≤ 900000000) := Lib.hid (by rw [List.length_append]; have h1 := encsT_le txts k; have h2 := HS.out.te; have := HPL0.out; omega)
              obtain ⟨b, off, rfl, C0⟩ := HA.out.t k (by rw [HNT.out]; exact hlt)
              have C0 := Ok.cell HOK.out C0
              have HM0 := Lib.hid (HS.out.tb k (by rw [HNT.out]; exact hlt))
              generalize txts.getD k { data := #[] } = s at *
              have hcv := Lib.run_convert_string_bytes (P := Try.prog) wr 9 26 5 s Try.underlying9 Try.underlying26 Try.underlying5
              have HBW := Lib.hid (bytesWorld_bytes wr s (by have := HM0.out; omega))
              have HKW : Hid (Ok wr (Lib.bytesWorld wr 5 s)) := Lib.hid (bytesWorld_ok _ _)
              have HEL : Hid ((encT s).length ≤ 1000100) := Lib.hid (by have := encT_len s; have := HM0.out; omega)
              have HET : Hid (encT s = enc (ofStr s).length ++ ofStr s) := Lib.hid (by rw [ofStr_len]; rfl)
              obtain ⟨cap, hcap⟩ : ∃ cap, grownCap wr s.size 0 5 = cap := ⟨_, rfl⟩
              rw [hcap] at hcv HBW
              clear hcap
              generalize Lib.bytesWorld wr 5 s = w1 at *
              have HW := Lib.hid (rRow_w _ (ofStr s) w1 HBW.out (by rw [ofStr_len]; have := HM0.out; omega))
              rw [← HET.out] at HW
              clear HET
              have HE2 : Hid (encsI nums ++ flags.map fB ++ encsT (txts.take (k + 1)) = encsI nums ++ flags.map fB ++ encsT (txts.take k) ++ encT s) := Lib.hid (by rw [HE.out, ← List.append_assoc])
              have HOWX := Lib.hid (HOWN.out.ok HKW.out)
              have HOKX := Lib.hid (Ok.trans HOK.out HKW.out)
              clear HE
              generalize encT s = ys at *
              generalize encsI nums ++ flags.map fB ++ encsT (txts.take k) = xs at *
              go_wp2_with fail
              refine HW.out.mono ?_
              rintro _ w2 ⟨A2, c2, rfl, hown2, hok2⟩
              have HB2 : Hid (BytesIn w2 (.slice A2 ys.length c2) ys) := Lib.hid (hown2.bytes (by have := HEL.out; omega))
              have HOW2 := Lib.hid (HOWX.out.ok hok2)
              have HOK2 := Lib.hid (Ok.trans HOKX.out hok2)
              clear hown2 hok2
              obtain ⟨M, hM⟩ : ∃ M, ys.length = M := ⟨_, rfl⟩
              rw [hM] at HB2 HEL ⊢
              have HM := Lib.hid hM
              clear hM
              go_wp2_with (at_builtin; go_must (refine wpList_app rfl (.tmp 55) (.tmp 61) rfl W.heap.size (.slice B L d) xs ys (.slice A2 M c2) rfl rfl HOW2.out HB2.out (by have := HLN.out; have := HEL.out; have := HM.out; omega) HOK2.out.size ?_; intro A' c' w3 hown3 hbel3; have HOWN3 := Lib.hid hown3; have HOK3 : Hid (Ok W w3) := Lib.hid (Below.trans HOK2.out hbel3); clear hown3 hbel3; rw [← HL.out, HM.out]))
              refine ⟨⟨k + 1, A', L + M, c', hlt, by go_num, rfl, by rw [HE2.out, List.length_append, HL.out, HM.out], by have h := HOWN3.out; rw [← HL.out, HM.out] at h; rw [HE2.out]; exact h, HOK3.out⟩, ?_⟩
              simp [intOf]; omega
            · have d1 : decide ((k : Int) < (nt : Int)) = false := decide_eq_false (by omega)
              have HFI : Hid (txts.take k = txts) := Lib.hid (List.take_of_length_le (by rw [HNT.out]; omega))
              rw [HFI.out] at HL HOWN
              have HPL : Hid ((encsI nums ++ flags.map fB ++ encsT txts).length ≤ 200000000) := Lib.hid (by rw [List.length_append]; have h2 := HS.out.te; have := HPL0.out; omega)
              clear HFI
              obtain ⟨wb, hwb⟩ : ∃ x, x = wr := ⟨_, rfl⟩
              subst hwb
              go_wp2_with fail
              have HPL0 := HPL
              clear HPL
              go_loopw [10, 16] (fun o i wr => ∃ (k : Nat) (B : Option Addr) (L d : Nat), k ≤ nr ∧ i = .int .i64 k ∧ o = .slice B L d ∧ L = (encsI nums ++ flags.map fB ++ encsT txts ++ encsR (rows.take k)).length ∧ OwnN wr W.heap.size (.slice B L d) (encsI nums ++ flags.map fB ++ encsT txts ++ encsR (rows.take k)) ∧ Ok W wr) (fun _ i _ => nr - (intOf i).toNat)
              case atStart => exact ⟨0, B, L, d, Nat.zero_le _, rfl, rfl, by simpa [encsR] using HL.out, by simpa [encsR] using HOWN.out, HOK.out⟩
              case round =>
                obtain ⟨k, B, L, d, hk, rfl, rfl, hL, hown, hok⟩ := hrel
                have HL := Lib.hid hL
                have HOWN := Lib.hid hown
                have HOK := Lib.hid hok
                clear hL hown hok
                by_cases hlt : k < nr
                · have d1 : decide ((k : Int) < (nr : Int)) = true := decide_eq_true (by omega)
                  have hi0 : (0 : Int) ≤ (k : Int) := Int.natCast_nonneg _
                  have hi1 : (k : Int) < (nr : Int) := by omega
                  have HE := Lib.hid (encsR_take rows k (by rw [HNR.out]; exact hlt))
                  have HLN : Hid ((encsI nums ++ flags.map fB ++ encsT txts ++ encsR (rows.take k)).length ≤ 900000000) := Lib.hid (by rw [List.length_append]; have h1 := encsR_le rows k; have h2 := HS.out.re; have := HPL0.out; omega)
                  obtain ⟨b, off, V, rfl, C0, hby⟩ := HA.out.r k (by rw [HNR.out]; exact hlt)
                  have C0 := Ok.cell HOK.out C0
                  have hby2 := HOK.out.bytes hby
                  have HM0 := Lib.hid (HS.out.rb k (by rw [HNR.out]; exact hlt))
                  obtain ⟨AV, cV, rfl, _⟩ := hby.form
                  generalize rows.getD k [] = s at *
                  have HW := Lib.hid (rRow_w _ s wr hby2 (by have := HM0.out; omega))
                  have HEL : Hid ((encR s).length ≤ 1000100) := Lib.hid (by unfold encR; rw [List.length_append]; have := enc_len s.length; have := HM0.out; omega)
                  have HE2 : Hid (encsI nums ++ flags.map fB ++ encsT txts ++ encsR (rows.take (k + 1)) = encsI nums ++ flags.map fB ++ encsT txts ++ encsR (rows.take k) ++ encR s) := Lib.hid (by rw [HE.out, ← List.append_assoc])
                  have HOWX := HOWN
                  have HOKX := HOK
                  clear HE hby hby2
                  change Hid (Calls Try.prog 89 _ wr (RowP wr (encR s))) at HW
                  generalize encR s = ys at *
                  generalize encsI nums ++ flags.map fB ++ encsT txts ++ encsR (rows.take k) = xs at *
                  go_wp2_with fail
                  refine HW.out.mono ?_
                  rintro _ w2 ⟨A2, c2, rfl, hown2, hok2⟩
                  have HB2 : Hid (BytesIn w2 (.slice A2 ys.length c2) ys) := Lib.hid (hown2.bytes (by have := HEL.out; omega))
                  have HOW2 := Lib.hid (HOWX.out.ok hok2)
                  have HOK2 := Lib.hid (Ok.trans HOKX.out hok2)
                  clear hown2 hok2
                  obtain ⟨M, hM⟩ : ∃ M, ys.length = M := ⟨_, rfl⟩
                  rw [hM] at HB2 HEL ⊢
                  have HM := Lib.hid hM
                  clear hM
                  go_wp2_with (at_builtin; go_must (refine wpList_app rfl (.tmp 69) (.tmp 74) rfl W.heap.size (.slice B L d) xs ys (.slice A2 M c2) rfl rfl HOW2.out HB2.out (by have := HLN.out; have := HEL.out; have := HM.out; omega) HOK2.out.size ?_; intro A' c' w3 hown3 hbel3; have HOWN3 := Lib.hid hown3; have HOK3 : Hid (Ok W w3) := Lib.hid (Below.trans HOK2.out hbel3); clear hown3 hbel3; rw [← HL.out, HM.out]))
                  refine ⟨⟨k + 1, A', L + M, c', hlt, by go_num, rfl, by rw [HE2.out, List.length_append, HL.out, HM.out], by have h := HOWN3.out; rw [← HL.out, HM.out] at h; rw [HE2.out]; exact h, HOK3.out⟩, ?_⟩
                  simp [intOf]; omega
                · have d1 : decide ((k : Int) < (nr : Int)) = false := decide_eq_false (by omega)
                  have HFI : Hid (rows.take k = rows) := Lib.hid (List.take_of_length_le (by rw [HNR.out]; omega))
                  rw [HFI.out] at HL HOWN
                  have HPL : Hid ((encsI nums ++ flags.map fB ++ encsT txts ++ encsR rows).length ≤ 400000000) := Lib.hid (by rw [List.length_append]; have h2 := HS.out.re; have := HPL0.out; omega)
                  clear HFI
                  obtain ⟨wb, hwb⟩ : ∃ x, x = wr := ⟨_, rfl⟩
                  subst hwb
                  go_wp2_with fail
                  go_ret2
                  have hee : (encA nums flags txts rows).length = L := HL.out.symm
                  exact .inr ⟨HNB.out, B, d, by rw [hee]; rfl, by rw [hee]; exact HOWN.out, HOK.out⟩
end Go.Proofs.Ytolfdncmlfnbdaa
