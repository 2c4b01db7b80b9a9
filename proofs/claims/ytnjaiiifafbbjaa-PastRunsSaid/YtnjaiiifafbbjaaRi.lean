/- The law PastRuns, walked. -/
import Derived.Test.YtnjaiiifafbbjaaRh
namespace Go.Proofs.Ytnjaiiifafbbjaa
open Go.RowKit

set_option maxRecDepth 100000 in
set_option maxHeartbeats 16000000 in
theorem pastRuns_w (A B : Option Addr) (L cL q cq : Nat) (rows : List NRow) (ask : List Nm) (w : World) (hL : rows.length = L) (hq : ask.length = q) (hR : RowsAt w.heap.size w A rows) (hB : NamesAt w B ask) (hBb : ∀ b off, B = some ⟨b, off, none⟩ → b < w.heap.size) (hB0 : B = none → cq = 0)
    (hL6 : L ≤ 140737488351232) (hq6 : q ≤ 140737488351232) :
    Calls Try.prog 7 #[.slice A L cL, .slice B q cq] w (Ret w (.bool true)) := by
  have HL := Lib.hid hL
  have HQ := Lib.hid hq
  have HR := Lib.hid hR
  have HB := Lib.hid hB
  have HBB := Lib.hid hBb
  have HB0 := Lib.hid hB0
  clear hL hq hR hB hBb hB0
  go_enter Try.func7, Try.ntmps7
  go_wp2_with fail
  go_loopw [5, 6] (fun s i wr => ∃ k N : Nat, k ≤ L ∧ i = .int .i64 k ∧ s = .int .i64 N ∧ N = q + cntN rows k ∧ N ≤ 281474976710656 ∧ w = wr) (fun _ i _ => L - (intOf i).toNat)
  case atStart => exact ⟨0, q, Nat.zero_le _, rfl, rfl, by simp [cntN], by omega, rfl⟩
  case round =>
    obtain ⟨k, N, hk, rfl, rfl, hN, hN6, rfl⟩ := hrel
    have HN := Lib.hid hN
    clear hN
    by_cases hlt : k < L
    · have d1 : decide ((k : Int) < (L : Int)) = true := decide_eq_true (by omega)
      by_cases hm : N ≤ 1000
      · have d2 : decide ((N : Int) ≤ (1000 : Int)) = true := decide_eq_true (by omega)
        have d3 : decide (N ≤ 1000) = true := decide_eq_true hm
        have HS := Lib.hid (cntN_succ rows k (by rw [HL.out]; exact hlt))
        obtain ⟨⟨b, off, rfl, C0⟩, -, -, -, hlen⟩ := HR.out k (by rw [HL.out]; exact hlt)
        generalize atR rows k = r at *
        obtain ⟨M, hM⟩ : ∃ M, r.xs.length = M := ⟨_, rfl⟩
        rw [hM] at C0 HS hlen
        have hi0 : (0 : Int) ≤ (k : Int) := Int.natCast_nonneg _
        have hi1 : (k : Int) < (L : Int) := by omega
        go_wp2
        refine ⟨⟨k + 1, N + M, hlt, by go_num, by go_num, by rw [HS.out, HN.out]; omega, by omega, (by first | rfl | trivial)⟩, ?_⟩
        show L - ((k : Int) + 1).toNat < L - (k : Int).toNat
        omega
      · have d2 : decide ((N : Int) ≤ (1000 : Int)) = false := decide_eq_false (by omega)
        have d3 : decide ((1000 : Int) < (N : Int)) = true := decide_eq_true (by omega)
        have d4 : decide (N ≤ 1000) = false := decide_eq_false hm
        have d5 : decide (1000 < N) = true := decide_eq_true (by omega)
        go_wp2_with fail
        refine (awake_w _).mono ?_
        rintro _ w1 ⟨rfl, o1⟩
        go_wp2
        go_ret
        exact ⟨rfl, o1⟩
    · have d1 : decide ((k : Int) < (L : Int)) = false := decide_eq_false (by omega)
      obtain rfl : k = L := by omega
      by_cases hm : N ≤ 1000
      · have d3 : decide ((1000 : Int) < (N : Int)) = false := decide_eq_false (by omega)
        by_cases h20 : k ≤ 20
        · have d4 : decide ((20 : Int) < (k : Int)) = false := decide_eq_false (by omega)
          have HQ6 : Hid (q ≤ 1000) := Lib.hid (by have := HN.out; omega)
          have HC6 : Hid (∀ j, j < k → (atR rows j).xs.length ≤ 1000) := Lib.hid fun j hj => by
            have := cntN_le rows j k hj (by rw [HL.out]; exact Nat.le_refl _)
            have := HN.out
            omega
          clear hq6 hL6 hN6
          clear HN
          go_wp2_with fail
          go_loopw [7, 8, 9, 10, 11, 12] (fun s7 s8 i _ _ _ wr => ∃ (j : Nat) (A1 A2 : Option Addr) (c1 c2 : Nat) (T : List Tr), j ≤ k ∧ i = .int .i64 j ∧ s7 = .slice A1 j c1 ∧ s8 = .slice A2 j c2 ∧ T.length = j ∧ Run w A1 A2 j c1 j c2 T wr) (fun _ _ i _ _ _ _ => k - (intOf i).toNat)
          case atStart => exact ⟨0, none, none, 0, 0, [], Nat.zero_le _, rfl, rfl, rfl, rfl, Run.nil w⟩
          case round =>
            obtain ⟨j, A1, A2, c1, c2, T, hj, rfl, rfl, rfl, hT, hrun⟩ := hrel
            have HT := Lib.hid hT
            have HRUN := Lib.hid hrun
            clear hT hrun
            by_cases hjk : j < k
            · have d5 : decide ((j : Int) < (k : Int)) = true := decide_eq_true (by omega)
              obtain ⟨⟨b, off, rfl, C0⟩, hnr, hnil, hrb, hlen⟩ := (HR.out j (by rw [HL.out]; exact hjk)).ok HRUN.out.below
              have hm6 := HC6.out j hjk
              generalize atR rows j = r at *
              obtain ⟨RA, rc, xs⟩ := r
              simp only at C0 hnr hnil hrb hlen hm6
              obtain ⟨M, hM⟩ : ∃ M, xs.length = M := ⟨_, rfl⟩
              rw [hM] at C0 hlen hm6
              have HM := Lib.hid hM
              have HNR := Lib.hid hnr
              have HNI := Lib.hid hnil
              have HRB := Lib.hid hrb
              have hi0 : (0 : Int) ≤ (j : Int) := Int.natCast_nonneg _
              have hi1 : (j : Int) < (k : Int) := by omega
              clear hM hnr hnil hrb
              have HC0 := Lib.hid C0
              clear C0
              go_wp2_with fail
              refine (new_p _).mono ?_
              rintro _ w1 ⟨rfl, hp1, o1, hs1⟩
              have HS1 := Lib.hid hs1
              obtain ⟨p, hp⟩ : ∃ p, wr.heap.size = p := ⟨_, rfl⟩
              rw [hp] at hp1 ⊢
              have HPW := Lib.hid hp
              have HP1 := Lib.hid hp1
              have HO1 := Lib.hid o1
              clear hs1 hp hp1 o1
              go_upto_region 14 with fail
              have HW2 : Hid (RpAt (w1.alloc (.cells #[.int .i64 0, .int .i64 0, .int .i64 0, .int .i64 0, .int .i64 0, .int .i64 0, .int .i64 0, .int .i64 0, .int .i64 0] 97)) w1.heap.size fz ∧ Ok w1 (w1.alloc (.cells #[.int .i64 0, .int .i64 0, .int .i64 0, .int .i64 0, .int .i64 0, .int .i64 0, .int .i64 0, .int .i64 0, .int .i64 0] 97)) ∧ (w1.alloc (.cells #[.int .i64 0, .int .i64 0, .int .i64 0, .int .i64 0, .int .i64 0, .int .i64 0, .int .i64 0, .int .i64 0, .int .i64 0] 97)).heap.size = w1.heap.size + 1) := Lib.hid ⟨rpast_new w1, Ok.alloc (Ok.refl _) _, World.size_alloc _ _⟩
              generalize w1.alloc (.cells #[.int .i64 0, .int .i64 0, .int .i64 0, .int .i64 0, .int .i64 0, .int .i64 0, .int .i64 0, .int .i64 0, .int .i64 0] 97) = w2 at *
              obtain ⟨m, hm⟩ : ∃ m, w1.heap.size = m := ⟨_, rfl⟩
              rw [hm] at HW2 HS1 ⊢
              have HO2 : Hid (Ok wr w2) := Lib.hid (Ok.trans HO1.out HW2.out.2.1)
              have C0 := Ok.cell HO2.out HC0.out
              have HLENT := Lib.hid (lentN_w RA M rc xs HM.out (by omega) w2 (HNR.out.ok HO2.out) HNI.out)
              clear hm
              go_wp2_with fail
              refine HLENT.out.mono ?_
              rintro _ w3 ⟨g, cap, rfl, hcap, hg, o3, hin⟩
              rw [HM.out] at hcap ⊢
              have HRR : Hid (Rr wr p m g fz fz (xs ++ marksN 12) w3) := Lib.hid ⟨Ok.trans HO2.out o3, Nat.le_of_eq HPW.out, by have := HS1.out; have := HPW.out; omega, by have := HW2.out.2.2; omega, (HP1.out.ok HW2.out.2.1).ok o3, HW2.out.1.ok o3, hin⟩
              have HCAP := Lib.hid hcap
              clear hcap hg o3 hin HLENT HW2 HO2 HP1 HO1
              have HBW := Lib.hid HRUN.out.below.size
              have H46 : Hid (∀ v, Rr wr p m g fz fz (xs ++ marksN 12) v → Calls Try.prog 46 #[.slice (some ⟨g, 0, none⟩) M cap] v fun e v' => e = .returned (.bool (allB xs)) ∧ Rr wr p m g fz fz (xs ++ marksN 12) v') := Lib.hid fun v h =>
                (Right_w _ M cap xs HM.out (by omega) v h.inn.pre).mono fun e v' ⟨he, o⟩ => ⟨he, h.okk o⟩
              have H47 : Hid (∀ v, Rr wr p m g fz fz (xs ++ marksN 12) v → Calls Try.prog 47 #[.slice RA M rc] v fun e v' => e = .returned (.bool (allB xs)) ∧ Rr wr p m g fz fz (xs ++ marksN 12) v') := Lib.hid fun v h =>
                (all_w _ M rc xs HM.out (by omega) v (HNR.out.ok h.ok)).mono fun e v' ⟨he, o⟩ => ⟨he, h.okk o⟩
              have H48 : Hid (∀ v, Rr wr p m g fz fz (xs ++ marksN 12) v → Calls Try.prog 48 #[.pointer (some ⟨p, 0, none⟩), .slice (some ⟨g, 0, none⟩) M cap] v fun e v' => e = .returned (.int .i64 (rOf xs)) ∧ Rr wr p m g (fOf fz xs) fz (xs ++ marksN 12) v') := Lib.hid fun v h =>
                (Raise_u p fz _ M cap xs HM.out (by omega) v h.pp h.inn.pre (fun b o e => by have := h.pm; have := h.mg; simp only [Option.some.injEq, Addr.mk.injEq, and_true] at e; omega)).mono fun e v' ⟨he, hp, hm⟩ => ⟨he, h.atp hm hp⟩
              have H49 : Hid (∀ v, Rr wr p m g (fOf fz xs) fz (xs ++ marksN 12) v → Calls Try.prog 49 #[.pointer (some ⟨m, 0, none⟩), .slice RA M rc] v fun e v' => e = .returned (.int .i64 (rOf xs)) ∧ Rr wr p m g (fOf fz xs) (fOf fz xs) (xs ++ marksN 12) v') := Lib.hid fun v h =>
                (rRaise_u m fz _ M rc xs HM.out (by omega) v h.mm (HNR.out.ok h.ok) (fun hx b o e => by have := h.pm; have := h.hp; have := HRB.out hx b o e; have := HBW.out; omega)).mono fun e v' ⟨he, hp, hm⟩ => ⟨he, h.atm hm hp⟩
              have HF1 : Hid (Fits (fOf fz xs)) := Lib.hid (fOf_fits fz xs fz_fits)
              generalize fOf fz xs = f1 at *
              generalize rOf xs = R1 at *
              have H50 : Hid (∀ v, Rr wr p m g f1 f1 (xs ++ marksN 12) v → Calls Try.prog 50 #[.pointer (some ⟨p, 0, none⟩), .pointer (some ⟨m, 0, none⟩)] v fun e v' => e = .returned (.bool true) ∧ Rr wr p m g f1 f1 (xs ++ marksN 12) v') := Lib.hid fun v h =>
                (same_w p m f1 v h.pp h.mm).mono fun e v' ⟨he, o⟩ => ⟨he, o ▸ h⟩
              have H51 : Hid (∀ v, Rr wr p m g f1 f1 (xs ++ marksN 12) v → Calls Try.prog 51 #[.slice (some ⟨g, 0, none⟩) M cap, .slice RA M rc] v fun e v' => e = .returned (.bool true) ∧ Rr wr p m g f1 f1 (xs ++ marksN 12) v') := Lib.hid fun v h =>
                (keptN_w g cap _ M rc xs HM.out (by omega) v HCAP.out h.inn (HNR.out.ok h.ok)).mono fun e v' ⟨he, o⟩ => ⟨he, h.okk o⟩
              have HSS : Hid (∀ {fp fm v}, Rr wr p m g fp fm (xs ++ marksN 12) v → v.cell? ⟨b, off + j, none⟩ = some (.slice RA M rc)) := Lib.hid fun h => Ok.cell h.ok HC0.out
              generalize allB xs = bb at *
              generalize xs ++ marksN 12 = zs at *
              have hr : Rr wr p m g fz fz zs w3.drew := HRR.out.okk (Ok.drew (Ok.refl _))
              clear HRR HCAP HNR HNI HRB C0 HS1 HPW HM
              go_upto_region 15 with fail
              go_region_held3 (fun w' => w'.cell? ⟨b, off + j, none⟩ = some (.slice RA M rc))
                (exact HSS.out hr)
                (first
                  | (go_at_call 46; (with_reducible refine (H46.out _ hr).mono ?_); rintro e v1 ⟨rfl, hr⟩)
                  | (go_at_call 47; (with_reducible refine (H47.out _ hr).mono ?_); rintro e v2 ⟨rfl, hr⟩)
                  | (go_at_call 48; (with_reducible refine (H48.out _ hr).mono ?_); rintro e v3 ⟨rfl, hr⟩)
                  | (go_at_call 49; (with_reducible refine (H49.out _ hr).mono ?_); rintro e v4 ⟨rfl, hr⟩)
                  | (go_at_call 50; (with_reducible refine (H50.out _ hr).mono ?_); rintro e v5 ⟨rfl, hr⟩)
                  | (go_at_call 51; (with_reducible refine (H51.out _ hr).mono ?_); rintro e v6 ⟨rfl, hr⟩))
              have HRR := Lib.hid hr
              clear hr H46 H47 H48 H49 H50 H51 HSS
              have HNA : Hid (OwnQ 92 (v6.alloc (.cells #[ptrV p] 92)) w.heap.size A1 j c1 (T.map Tr.p) ∧ (v6.alloc (.cells #[ptrV p] 92)).cell? ⟨v6.heap.size, 0, none⟩ = some (ptrV p)) := Lib.hid ⟨((HRUN.out.ok HRR.out.ok).ps).alloc _, by go_cell⟩
              have HBS : Hid (w.heap.size ≤ (v6.alloc (.cells #[ptrV p] 92)).heap.size) := Lib.hid (by have := HRR.out.ok.size; have := HBW.out; rw [World.size_alloc]; omega)
              have HTL : Hid (j ≤ 1000000) := Lib.hid (by omega)
              have HTP : Hid ((T.map Tr.p).length = j ∧ (T.map Tr.m).length = j) := Lib.hid (by simp [HT.out])
              have HNM : Hid (∀ v2, (v6.alloc (.cells #[ptrV p] 92)).grownBy v2 (rowOf A1) → OwnQ 94 (v2.alloc (.cells #[ptrV m] 94)) w.heap.size A2 j c2 (T.map Tr.m) ∧ (v2.alloc (.cells #[ptrV m] 94)).cell? ⟨v2.heap.size, 0, none⟩ = some (ptrV m) ∧ w.heap.size ≤ (v2.alloc (.cells #[ptrV m] 94)).heap.size) := Lib.hid fun v2 k2 => by
                refine ⟨(((HRUN.out.ok HRR.out.ok).ms.alloc _).kept k2 ?_).alloc _, by go_cell, ?_⟩
                · rcases HRUN.out.nn with e | e
                  · cases e' : rowOf A2 with
                    | none => exact .inl rfl
                    | some b => rw [e]; exact .inr (fun e => by cases e)
                  · exact .inr (fun e' => e e'.symm)
                · have := k2.size; have := HBS.out; rw [World.size_alloc]; omega
              unfold ptrV at HNA HBS HNM
              go_wp2_with (at_builtin; go_must (first
                | (refine wpList_appQ rfl (.tmp 95) (.tmp 97) 90 92 rfl Try.underlying90 info92 w.heap.size A1 j c1 (T.map Tr.p) v6.heap.size p rfl rfl HNA.out.1 HNA.out.2 (by rw [HTP.out.1]; exact HTL.out) HBS.out ?_; intro B1 d1' x1 hown1 hg1 hl1; have HX1 := Lib.hid hown1; have HG1 := Lib.hid hg1; have HL1 := Lib.hid hl1; have HNM1 := Lib.hid (HNM.out x1 hg1); clear hown1 hg1 hl1)
                | (refine wpList_appQ rfl (.tmp 99) (.tmp 101) 91 94 rfl Try.underlying91 info94 w.heap.size A2 j c2 (T.map Tr.m) x1.heap.size m rfl rfl HNM1.out.1 HNM1.out.2.1 (by rw [HTP.out.2]; exact HTL.out) HNM1.out.2.2 ?_; intro B2 d2' x2 hown2 hg2 hl2; have HX2 := Lib.hid hown2; have HG2 := Lib.hid hg2; have HL2 := Lib.hid hl2; clear hown2 hg2 hl2)))
              refine ⟨⟨j + 1, B1, B2, d1', d2', T ++ [⟨p, m, f1⟩], hjk, by go_num, rfl, rfl, by simp [HT.out], ?_⟩, ?_⟩
              · exact HRUN.out.snoc HRR.out HF1.out HX1.out HG1.out (by have h := HL1.out; rwa [World.size_alloc] at h) HX2.out HG2.out (by have h := HL2.out; rwa [World.size_alloc] at h)
              · show k - ((j : Int) + 1).toNat < k - (j : Int).toNat
                omega
            · have d5 : decide ((j : Int) < (k : Int)) = false := decide_eq_false (by omega)
              obtain rfl : j = k := by omega
              clear HC6 HR
              go_wp2_with fail
              refine (new_p _).mono ?_
              rintro _ w1 ⟨rfl, hp1, o1, hs1⟩
              have HS1 := Lib.hid hs1
              obtain ⟨p, hp⟩ : ∃ p, wr.heap.size = p := ⟨_, rfl⟩
              rw [hp] at hp1 ⊢
              have HPW := Lib.hid hp
              have HP1 := Lib.hid hp1
              have HO1 := Lib.hid o1
              clear hs1 hp hp1 o1
              go_upto_region 20 with fail
              have HW2 : Hid (RpAt (w1.alloc (.cells #[.int .i64 0, .int .i64 0, .int .i64 0, .int .i64 0, .int .i64 0, .int .i64 0, .int .i64 0, .int .i64 0, .int .i64 0] 97)) w1.heap.size fz ∧ Ok w1 (w1.alloc (.cells #[.int .i64 0, .int .i64 0, .int .i64 0, .int .i64 0, .int .i64 0, .int .i64 0, .int .i64 0, .int .i64 0, .int .i64 0] 97)) ∧ (w1.alloc (.cells #[.int .i64 0, .int .i64 0, .int .i64 0, .int .i64 0, .int .i64 0, .int .i64 0, .int .i64 0, .int .i64 0, .int .i64 0] 97)).heap.size = w1.heap.size + 1) := Lib.hid ⟨rpast_new w1, Ok.alloc (Ok.refl _) _, World.size_alloc _ _⟩
              generalize w1.alloc (.cells #[.int .i64 0, .int .i64 0, .int .i64 0, .int .i64 0, .int .i64 0, .int .i64 0, .int .i64 0, .int .i64 0, .int .i64 0] 97) = w2 at *
              obtain ⟨m, hm⟩ : ∃ m, w1.heap.size = m := ⟨_, rfl⟩
              rw [hm] at HW2 HS1 ⊢
              have HR2 : Hid (Rr wr p m (m + 1) fz fz [] w2) := Lib.hid ⟨Ok.trans HO1.out HW2.out.2.1, Nat.le_of_eq HPW.out, by have := HS1.out; have := HPW.out; omega, by omega, HP1.out.ok HW2.out.2.1, HW2.out.1, NamesAt.empty _ _⟩
              have HPS : Hid (∀ x, x < wr.heap.size → x ≠ p ∧ x ≠ m) := Lib.hid fun x hx => by have := HPW.out; have := HS1.out; omega
              have HRM := Lib.hid (rMerge_w m fz A2 j c2 (ML T) (by simp [ML, HT.out]) (by omega) w2 HR2.out.mm (HRUN.out.ok HR2.out.ok).rpasts (fun b o e => (HPS.out b (HRUN.out.ms.lt b (by rw [e]; rfl)).2).2) (fun i hi => by
                have hi' : i < T.length := by simpa [ML] using hi
                rw [ML_at T i hi']
                exact (HPS.out _ (HRUN.out.mm i hi').lt).2))
              have HFF : Hid (Fits (mgs fz (ML T))) := Lib.hid (ML_fits T HRUN.out.ft)
              have HEQ := Lib.hid (mgs_PM T)
              clear hm HW2 HO1 HP1 HPW HS1
              go_wp2_with fail
              refine HRM.out.mono ?_
              rintro _ w3 ⟨rfl, hm3, hv3⟩
              have HR3 := Lib.hid (HR2.out.atm hv3 hm3)
              have HME := Lib.hid (Merge_w p fz A1 j c1 (PL T) (by simp [PL, HT.out]) (by omega) w3 HR3.out.pp (HRUN.out.ok HR3.out.ok).pasts (fun b o e => (HPS.out b (HRUN.out.ps.lt b (by rw [e]; rfl)).2).1) (fun i hi => by
                have hi' : i < T.length := by simpa [PL] using hi
                rw [PL_at T i hi']
                exact (HPS.out _ (HRUN.out.pp i hi').lt).1))
              rw [HEQ.out] at HME
              clear hm3 hv3 HRM HR2 HEQ
              generalize mgs fz (ML T) = F at *
              go_wp2_with fail
              refine HME.out.mono ?_
              rintro _ w4 ⟨rfl, hp4, hv4⟩
              have HR4 := Lib.hid (HR3.out.atp hv4 hp4)
              have hso := HRUN.out.below
              have HSO := Lib.hid hso
              clear hp4 hv4 HME HR3 hso HRUN HT HPS
              go_wp2_with fail
              refine (same_w p m F _ HR4.out.pp HR4.out.mm).mono ?_
              rintro _ w5 ⟨rfl, rfl⟩
              go_wp2_with fail
              refine (copy_p p F _ HR4.out.pp).mono ?_
              rintro _ w5 ⟨rfl, hc5, o5, hs5⟩
              have HTL5 : Hid (∀ c, w4.heap.size = c → Tl w p m c F F F B ask w5) := Lib.hid fun c hc => by
                have h1 := HR4.out.mm.lt
                have h2 := HR4.out.hp
                have h3 := HSO.out.size
                rw [hc] at hc5
                exact ⟨Ok.trans (Ok.trans HSO.out HR4.out.ok) o5, by omega, HR4.out.pm, by omega, HR4.out.pp.ok o5, HR4.out.mm.ok o5, hc5, HB.out.ok (Ok.trans (Ok.trans HSO.out HR4.out.ok) o5), HBB.out⟩
              obtain ⟨cc, hcc⟩ : ∃ c, w4.heap.size = c := ⟨_, rfl⟩
              have HT5 := Lib.hid (HTL5.out cc hcc)
              rw [hcc]
              clear hc5 o5 hs5 HTL5 hcc HR4 HSO HB HBB
              go_wp2_with fail
              refine (newWriter_w _).mono ?_
              rintro _ w6 ⟨rfl, ⟨A20, c20, hw20⟩, o20, hs20⟩
              obtain ⟨g, hg⟩ : ∃ g, w5.heap.size = g := ⟨_, rfl⟩
              have HT6 := Lib.hid (HT5.out.okk o20)
              have hpg : p < g := by have := HT5.out.pp.lt; omega
              have HWB : Hid (∀ v, Below g w6 v → Ok w5 v) := Lib.hid fun v hb => by subst hg; exact Below.trans o20 hb
              rw [hg] at hw20 ⊢
              have HW20 := Lib.hid hw20
              clear hw20 o20 hs20 hg
              go_wp2_with fail
              refine (write_p p F HFF.out g hpg _ [] (by simp) w6 HT6.out.pp HW20.out).mono ?_
              rintro _ w7 ⟨rfl, ⟨A21, c21, hw21⟩, hb21⟩
              rw [List.nil_append] at hw21
              have HT7 := Lib.hid (HT5.out.okk (HWB.out _ hb21))
              have HW21 := Lib.hid hw21
              have hlen : (encs (numsL F)).length ≤ 140737488350000 := by
                have := encs_len (numsL F)
                have h8 : (numsL F).length = 8 := rfl
                omega
              have HRB := Lib.hid fun v (h : RpAt v m F) => rBytes_w m F HFF.out v h
              clear hw21 hb21 HW20 HT6 HT5 HWB
              generalize encs (numsL F) = es at *
              go_wp2_with fail
              refine (done_w g _ es w7 HW21.out hlen).mono ?_
              rintro _ w8 ⟨⟨A22, c22, rfl, hby⟩, o22, -⟩
              have HT8 := Lib.hid (HT7.out.okk o22)
              have HBY := Lib.hid hby
              clear hby o22 HW21 HT7 hpg
              obtain ⟨E, hE⟩ : ∃ E, es.length = E := ⟨_, rfl⟩
              rw [hE] at HBY hlen ⊢
              have HE := Lib.hid hE
              clear hE
              go_upto_region 25 with fail
              go_cut [153] from 128 to 153 (fun v wx => v = .bool false ∧ Tl w p m cc F F (fOf F ask) B ask wx)
              case first =>
                have hne : ∀ b off, B = some ⟨b, off, none⟩ → b ≠ cc := fun b off e => by have := HT8.out.ba b off e; have := HT8.out.hp; have := HT8.out.pm; have := HT8.out.mc; omega
                have HNE := Lib.hid hne
                clear hne
                go_wp2_with fail
                refine (HRB.out _ HT8.out.mm).mono ?_
                rintro _ w9 ⟨A9, c9, rfl, hb9, o9⟩
                have HT9 := Lib.hid (HT8.out.okk o9)
                rw [HE.out] at hb9 ⊢
                have HSB := Lib.hid (sameBytes_v _ _ es w9 (o9.bytes HBY.out) hb9)
                clear o9 hb9
                go_wp2_with fail
                refine HSB.out.mono ?_
                rintro _ w10 ⟨rfl, o10⟩
                have HT10 := Lib.hid (HT9.out.okk o10)
                clear o10 HSB HT9 HT8
                go_wp2_with fail
                refine (Raise_u cc F B q cq ask HQ.out (by have := HQ6.out; omega) _ HT10.out.cc HT10.out.na HNE.out).mono ?_
                rintro _ w11 ⟨rfl, hc11, hm11⟩
                have HT11 := Lib.hid (HT10.out.atc hm11 hc11)
                have HAL := Lib.hid (all_w B q cq ask HQ.out (by have := HQ6.out; omega) w11 HT11.out.na)
                have hro : rOf ask = if allB ask = true then 0 else 2 := rfl
                clear hc11 hm11 HT10
                cases hb : allB ask with
                | true =>
                  rw [hb, if_pos rfl] at hro
                  rw [hb] at HAL
                  rw [hro]
                  go_wp2_with fail
                  refine HAL.out.mono ?_
                  rintro _ w12 ⟨rfl, o12⟩
                  have HT12 := Lib.hid (HT11.out.okk o12)
                  clear o12
                  go_wp2_with fail
                  refine (same_w p m F _ HT12.out.pp HT12.out.mm).mono ?_
                  rintro _ w13 ⟨rfl, rfl⟩
                  go_wp2
                  go_meet
                  exact ⟨rfl, HT12.out⟩
                | false =>
                  rw [hb, if_neg Bool.false_ne_true] at hro
                  rw [hro]
                  go_wp2_with fail
                  refine (same_w p m F _ HT11.out.pp HT11.out.mm).mono ?_
                  rintro _ w13 ⟨rfl, rfl⟩
                  go_wp2
                  go_meet
                  exact ⟨rfl, HT11.out⟩
              case rest =>
                obtain ⟨rfl, ht12⟩ := hcut
                have HT12 := Lib.hid ht12
                clear ht12 HT8 HRB HBY
                go_wp2_with fail
                go_loopw [18] (fun i wq => ∃ t : Nat, t ≤ q ∧ i = .int .i64 t ∧ Tl w p m cc F F (fOf F ask) B ask wq) (fun i _ => q - (intOf i).toNat)
                case atStart => exact ⟨0, Nat.zero_le _, rfl, HT12.out⟩
                case round =>
                  obtain ⟨t, ht, rfl, htl⟩ := hrel
                  have HTL := Lib.hid htl
                  clear htl HT12
                  have hq10 : q ≤ 1000 := HQ6.out
                  by_cases htq : t < q
                  · have d6 : decide ((t : Int) < (q : Int)) = true := decide_eq_true (by omega)
                    obtain ⟨b, off, rfl, C0, C1⟩ := HTL.out.na t (by rw [HQ.out]; exact htq)
                    have H1 := Lib.hid fun v (k : Ok wr v) => Is_w p F (atN ask t) v (HTL.out.pp.ok k)
                    have H2 := Lib.hid fun v (k : Ok wr v) => rIs_w m F (atN ask t) v (HTL.out.mm.ok k)
                    generalize isB F (atN ask t) = z at *
                    unfold nmV at H1 H2
                    generalize atN ask t = x at *
                    obtain ⟨xc, xn⟩ := x
                    simp only at C0 C1 H1 H2
                    have hj0 : (0 : Int) ≤ (t : Int) := Int.natCast_nonneg _
                    have hj1 : (t : Int) < (q : Int) := by omega
                    have kC0 := cell_regrown C0
                    have kC1 := cell_regrown C1
                    have q1 : ∀ d os, Calls Try.prog 59 #[.pointer (some ⟨p, 0, none⟩), .agg #[.int .i64 xc, .int .i64 xn]] (Go.Sort.grow (redrawn wr d) os) fun e w'' => e = .returned (.bool z) ∧ ∃ q : Regrown, w'' = Go.Sort.grow (redrawn wr q.d) q.os := fun d os => Calls.regrown_of (H1.out _ (below_regrown wr d os))
                    have q2 : ∀ d os, Calls Try.prog 60 #[.pointer (some ⟨m, 0, none⟩), .agg #[.int .i64 xc, .int .i64 xn]] (Go.Sort.grow (redrawn wr d) os) fun e w'' => e = .returned (.bool z) ∧ ∃ q : Regrown, w'' = Go.Sort.grow (redrawn wr q.d) q.os := fun d os => Calls.regrown_of (H2.out _ (below_regrown wr d os))
                    clear H1 H2
                    go_wp2_with fail
                    refine wp_region_quiet_below (by kernel_rfl) (by kernel_rfl) ?_
                    refine HeldU.out ?_
                    repeat (
                      refine hqU_step (fun K hK => ?_)
                      go_simp
                      first
                        | (refine hK _ ?_; clear hK K)
                        | (apply Exists.intro
                           refine ⟨fun _ => ?_, hK _ ?_⟩
                           (with_reducible first
                             | exact q1 _ _
                             | exact q2 _ _)
                           clear hK K))
                    refine HeldU.mk (wpQuiet_nil ?_)
                    intro _ hw'
                    obtain ⟨⟨dq, osq⟩, hw''⟩ := hw'
                    subst hw''
                    go_wp2
                    refine ⟨⟨t + 1, htq, by go_num, HTL.out.okk (below_regrown wr dq osq)⟩, ?_⟩
                    show q - ((t : Int) + 1).toNat < q - (t : Int).toNat
                    omega
                  · have d6 : decide ((t : Int) < (q : Int)) = false := decide_eq_false (by omega)
                    have hne : ∀ b off, B = some ⟨b, off, none⟩ → b ≠ m := fun b off e => by have := HTL.out.ba b off e; have := HTL.out.hp; have := HTL.out.pm; omega
                    have HRR := Lib.hid (rRaise_u m F B q cq ask HQ.out (by have := HQ6.out; omega) wr HTL.out.mm HTL.out.na (fun _ => hne))
                    clear hne
                    generalize fOf F ask = G at *
                    go_wp2_with fail
                    refine HRR.out.mono ?_
                    rintro _ w14 ⟨rfl, hm14, hv14⟩
                    have HT14 := Lib.hid (HTL.out.atm hv14 hm14)
                    clear hm14 hv14 HTL
                    go_wp2_with fail
                    refine (same_w cc m G _ HT14.out.cc HT14.out.mm).mono ?_
                    rintro _ w15 ⟨rfl, rfl⟩
                    go_wp2_with fail
                    refine (awake_w _).mono ?_
                    rintro _ w16 ⟨rfl, o16⟩
                    go_wp2
                    go_ret
                    exact ⟨rfl, Ok.trans HT14.out.ok o16⟩
        · have d4 : decide ((20 : Int) < (k : Int)) = true := decide_eq_true (by omega)
          go_wp2_with fail
          refine (awake_w _).mono ?_
          rintro _ w1 ⟨rfl, o1⟩
          go_wp2
          go_ret
          exact ⟨rfl, o1⟩
      · have d3 : decide ((1000 : Int) < (N : Int)) = true := decide_eq_true (by omega)
        go_wp2_with fail
        refine (awake_w _).mono ?_
        rintro _ w1 ⟨rfl, o1⟩
        go_wp2
        go_ret
        exact ⟨rfl, o1⟩
end Go.Proofs.Ytnjaiiifafbbjaa
