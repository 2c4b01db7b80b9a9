/- Disks: Crash. -/
import Derived.Test.YtfchjdhjbepocaaMo
namespace Go.Proofs.Ytfchjdhjbepocaa
open Go Go.RowKit

def CrashP (p mb : Nat) (S : Nat → Prop) (D' : Dk) (W : World) (e : Ending) (w' : World) : Prop := e = .returned (.tuple #[]) ∧ ∃ pv' vs', DkAt p D' pv' mb vs' w' ∧ (∀ b, Blk p pv' mb vs' b → New S W b) ∧ Kp S W w'
set_option maxRecDepth 100000 in
set_option maxHeartbeats 4000000 in
theorem crash_f (p : Nat) (D : Dk) (pv : Sl) (mb : Nat) (vs : Tb Sl) (keep : Int) (W : World) (h : DkAt p D pv mb vs W) (hs : Small D) (hk1 : -9223372036854775808 ≤ keep) (hk2 : keep ≤ 9223372036854775807) :
    Calls Try.prog 23 #[.pointer (some ⟨p, 0, none⟩), .int .i64 keep] W (CrashP p mb (Blk p pv mb vs) (D.crash keep) W) := by
  have hno := none_f p mb W h.c2
  have HOM : Hid (Ok W (W.alloc (.map #[] 0))) := Lib.hid ((Ok.refl W).alloc _)
  have HMV : Hid (MapV (W.alloc (.map #[] 0)) W.heap.size (kmv [])) := Lib.hid (MapV.new W)
  have hmk : (Instr.makeMap 114 none).run Try.prog W = .ok (.map (some W.heap.size)) (W.alloc (.map #[] 0)) := rfl
  have HDW := Lib.hid h
  have HD := Lib.hid (h.ok HOM.out)
  have HSM := Lib.hid hs
  have HQ := Lib.hid (OwnQ.of h.ps)
  have HMY : Hid (many D.ps ≤ 100000000) := Lib.hid (Nat.le_trans h.inv.many_le hs.us)
  have HK1 := Lib.hid hk1
  have HK2 := Lib.hid hk2
  have HN6 : Hid (pv.n ≤ 1000000) := Lib.hid (by rw [← HQ.out.1]; exact hs.ps)
  clear h hs hk1 hk2
  go_enter Try.func23, Try.ntmps23
  go_wp2_with fail
  refine hno.mono ?_
  rintro _ w1 ⟨rfl, rfl⟩
  clear hno
  go_upto_region 2 with fail
  obtain ⟨kb, hkb⟩ : ∃ kb, W.heap.size = kb := ⟨_, rfl⟩
  rw [hkb] at HMV ⊢
  have HKB : Hid (W.heap.size ≤ kb) := Lib.hid (by omega)
  clear hmk hkb
  generalize W.alloc (.map #[] 0) = w1 at *
  have c0 := HD.out.c0
  unfold Sl.v at c0
  go_wp2_with fail
  go_loopw [1, 7, 20] (fun kp _ i wr => ∃ (k : Nat) (kk : Int) (m : Tb Nat), k ≤ pv.n ∧ i = .int .i64 (k : Int) ∧ kp = .int .i64 kk ∧ min keep 0 ≤ kk ∧ kk ≤ keep ∧ keptF (D.ps.drop k) kk m = keptF D.ps keep [] ∧ (∀ q, (m.at? q).getD 0 ≤ many (D.ps.take k)) ∧ MapV wr kb (kmv m) ∧ Ok W wr) (fun _ _ i _ => pv.n - (intOf i).toNat)
  case atStart => exact ⟨0, keep, [], Nat.zero_le _, rfl, rfl, by omega, by omega, rfl, fun q => Nat.zero_le _, HMV.out, HOM.out⟩
  case round =>
    obtain ⟨k, kk, m, hk, rfl, rfl, hlo, hhi, hkf, hbd, hmv, okr⟩ := hrel
    have HLO := Lib.hid hlo
    have HHI := Lib.hid hhi
    have HKF := Lib.hid hkf
    have HBD := Lib.hid hbd
    have HMW := Lib.hid hmv
    have HOK := Lib.hid okr
    clear hlo hhi hkf hbd hmv okr
    by_cases hlt : k < pv.n
    · have d1 : decide (k < pv.n) = true := decide_eq_true hlt
      have HOW : Hid (OwnQ wr pv.A pv.n pv.c D.ps) := Lib.hid (HQ.out.ok HOK.out)
      obtain ⟨g, hgA, x0, x1⟩ := HOW.out.at k hlt
      have HLK : Hid (k < D.ps.length) := Lib.hid (by rw [HQ.out.1]; exact hlt)
      have HKD := Lib.hid (keptF_drop D.ps k HLK.out kk m)
      have HMT := Lib.hid (many_take D.ps k HLK.out)
      have HML := Lib.hid (many_take_le D.ps (k + 1))
      have hi0 : (0 : Int) ≤ (k : Int) := Int.natCast_nonneg _
      have hi1 : (k : Int) < (pv.n : Int) := by omega
      generalize (pcA D.ps k).1 = km at *
      generalize (pcA D.ps k).2 = vm at *
      rw [hgA] at *
      have HOA : Hid (Ok wr (wr.alloc (.cells #[.string km, .int .i64 (vm : Int)] 105))) := Lib.hid ((Ok.refl wr).alloc _)
      obtain ⟨q, hq⟩ : ∃ q, wr.heap.size = q := ⟨_, rfl⟩
      have HQC : Hid ((wr.alloc (.cells #[.string km, .int .i64 (vm : Int)] 105)).cell? ⟨q, 0, none⟩ = some (.string km) ∧ (wr.alloc (.cells #[.string km, .int .i64 (vm : Int)] 105)).cell? ⟨q, 1, none⟩ = some (.int .i64 (vm : Int))) := Lib.hid (by rw [← hq]; exact two_new wr _ _ _)
      have HMA : Hid (MapV (wr.alloc (.cells #[.string km, .int .i64 (vm : Int)] 105)) kb (kmv m)) := Lib.hid (HMW.out.block (HOA.out.block kb HMW.out.lt))
      go_upto_region 5 with fail
      clear hq x0 x1
      generalize wr.alloc (.cells #[.string km, .int .i64 (vm : Int)] 105) = w0 at *
      have q0 := HQC.out.1
      have q1 := HQC.out.2
      have e1 : IntKind.i64.wrap ((k : Int) + 1) = (k : Int) + 1 := IntWalk.i64_in _ (by have := HN6.out; omega)
      go_upto_region 6 with fail
      have hke : (if (vm : Int) < if kk < 0 then 0 else kk then (vm : Int) else if kk < 0 then 0 else kk) = ((kept1 kk vm : Nat) : Int) := by
        rw [kept1_int]
        split <;> split <;> omega
      rw [hke]
      have HKE := Lib.hid (kept1_le kk vm)
      have HKI := Lib.hid (kept1_int kk vm)
      obtain ⟨mx, hmx⟩ : ∃ mx, (if kk < 0 then 0 else kk) = mx := ⟨_, rfl⟩
      rw [hmx]
      clear hke hmx
      obtain ⟨kp, hkp⟩ : ∃ kp, kept1 kk vm = kp := ⟨_, rfl⟩
      rw [hkp] at HKD HKE HKI ⊢
      clear hkp
      have hg := run_get (t := 114) (k := 9) Try.underlying114 Try.underlying9 w0 (zero3 w0) kb (kmv m) HMA.out km false
      rw [kmv_at] at hg
      simp only [Bool.false_eq_true, if_false] at hg
      have HOL := Lib.hid (HBD.out km)
      have HBD2 : Hid (∀ q, ((m.put km ((m.at? km).getD 0 + kp)).at? q).getD 0 ≤ many (D.ps.take (k + 1))) := Lib.hid fun q => by
        rw [Tb.at_put, HMT.out]
        split
        · rw [Option.getD_some]; have := HBD.out km; have := HKE.out; omega
        · have := HBD.out q; omega
      obtain ⟨old, hold⟩ : ∃ old, (m.at? km).getD 0 = old := ⟨_, rfl⟩
      rw [hold] at hg HOL HKD HBD2
      clear hold
      have e2 : IntKind.i64.wrap ((old : Int) + (kp : Int)) = (old : Int) + (kp : Int) := IntWalk.i64_in _ (by have := HOL.out; have := HKE.out; have := HML.out; have := HMT.out; have := HMY.out; omega)
      have e3 : IntKind.i64.wrap (kk - (kp : Int)) = kk - (kp : Int) := IntWalk.i64_in _ (by have := HKI.out; have := HLO.out; have := HHI.out; have := HK1.out; have := HK2.out; omega)
      have HLO2 : Hid (min keep 0 ≤ kk - (kp : Int) ∧ kk - (kp : Int) ≤ keep) := Lib.hid (by have := HKI.out; have := HLO.out; have := HHI.out; omega)
      have HMS : Hid (pv.n - ((k : Int) + 1).toNat < pv.n - (k : Int).toNat) := Lib.hid (by omega)
      go_wp2_with (at_mapUpdate; go_must (refine wpList_map_put rfl 114 (.tmp 29) (.tmp 31) (.tmp 34) rfl Try.underlying114 Try.underlying9 kb (kmv m) rfl HMA.out km rfl ?_; intro w2 hm2 hg2 hs2; have HM2 : Hid (MapV w2 kb ((kmv m).put km (.int .i64 ((old : Int) + (kp : Int))))) := Lib.hid hm2; have HG2 := Lib.hid hg2; clear hm2 hg2 hs2))
      refine ⟨⟨k + 1, kk - (kp : Int), m.put km (old + kp), hlt, rfl, rfl, HLO2.out.1, HLO2.out.2, ?_, HBD2.out, ?_, (HOK.out.trans HOA.out).grow HG2.out HKB.out⟩, HMS.out⟩
      · rw [← HKF.out, HKD.out]
      · rw [kmv_put]; exact HM2.out
    · have d1 : decide (k < pv.n) = false := decide_eq_false hlt
      obtain rfl : k = pv.n := by omega
      have HMM : Hid (m = keptF D.ps keep []) := Lib.hid (by
        rw [← HKF.out, List.drop_eq_nil_of_le (by rw [HQ.out.1]; exact Nat.le_refl _)]; rfl)
      clear HKF HBD HLO HHI HMV
      go_wp2_with (at_range; go_must (refine wpList_map_range rfl (.tmp 39) 114 rfl Try.underlying114 kb (kmv m) rfl HMW.out ?_; intro w2 hr2 hg2 hs2; have HR2 := Lib.hid hr2; have HG2 := Lib.hid hg2; clear hr2 hg2 hs2))
      obtain ⟨r, hr⟩ : ∃ r, wr.heap.size = r := ⟨_, rfl⟩
      rw [hr] at HR2 ⊢
      have HRW : Hid (W.heap.size ≤ r) := Lib.hid (by rw [← hr]; exact HOK.out.size)
      clear hr
      have HON : Hid (Ok W w2) := Lib.hid (HOK.out.trans (ok_grown HG2.out (fun j e => by cases e)))
      have HMO := Lib.hid (once_kmv HMW.out.1)
      clear HG2
      go_frame
      go_loopw [8, 9, 10] (fun _ _ _ wr => ∃ (mk todo : Tb Nat) (vk : Tb Sl), Part m mk todo ∧ RangeV wr r kb (kmv m) (kmv todo) ∧ MapV wr mb (mvs vk) ∧ FilesIn wr vk (crashF D.ps mk D.fs) ∧ (∀ q, q ∈ vk → ∀ g, q.2.v.ownBlock = some g → ∃ q0, q0 ∈ vs ∧ q0.2.v.ownBlock = some g) ∧ Kp (fun b => b = mb) W wr) (fun _ _ _ wr => wr.rangeLeft kb r)
      case atStart => exact ⟨[], m, vs, Part.start HMO.out, HR2.out, HDW.out.mp.block (HON.out.block mb HDW.out.mp.lt), by rw [crashF_nil]; exact HDW.out.fs.kept (fun q hq g e => HON.out.block g (HDW.out.lt (.inr (.inr (.inr ⟨q, hq, e⟩))))), fun q hq g e => ⟨q, hq, e⟩, Kp.of HON.out⟩
      case round =>
        obtain ⟨mk, todo, vk, hpt, hrv, hmv, hfi, hfr, hkp⟩ := hrel
        have HPT := Lib.hid hpt
        have HRV := Lib.hid hrv
        have HMV3 := Lib.hid hmv
        have HFI := Lib.hid hfi
        have HFR := Lib.hid hfr
        have HKP := Lib.hid hkp
        clear hpt hrv hmv hfi hfr hkp
        have hpm : p ≠ mb := HDW.out.p_mb
        have HST : Hid (wr.heap[p]? = some (.cells #[pv.v, .int .i64 D.size, .map (some mb)] 57 (0, 0))) := Lib.hid ((HKP.out.block p (HDW.out.lt (.inl rfl)) hpm).trans HDW.out.st)
        have HPM := Lib.hid hpm
        clear hpm
        go_wp2_with (at_next; refine wpList_map_next rfl (.tmp 40) rfl r kb (kmv m) (kmv todo) rfl HRV.out ?_ ?_)
        · intro h0
          have h1 : todo = [] := List.map_eq_nil_iff.1 h0
          have HE : Hid (crashF D.ps mk D.fs = crashF D.ps (keptF D.ps keep []) D.fs) := Lib.hid (crashF_congr _ _ _ _ fun q => by rw [← HMM.out]; exact (h1 ▸ HPT.out).done q)
          have d0 := (st_cell HST.out).1
          have f0 := (st_cell HST.out).2
          unfold Sl.v at d0
          clear h0 h1
          go_wp2_with fail
          go_end0
          have hne : ∀ q, q ∈ vk → ∀ g, q.2.v.ownBlock = some g → g ≠ p := fun q hq g e r => by
            obtain ⟨q0, h1, h2⟩ := HFR.out q hq g e
            exact (HDW.out.file_ne h1 h2).1 r
          refine ⟨rfl, sl0, vk, ⟨st_set HST.out, World.ownsRow_nil _ _ _ _, HMV3.out.block (Below.heap_setCell _ ⟨p, 0, none⟩ _ mb (fun e => HPM.out e.symm)), ?_, HDW.out.inv.crash keep⟩, ?_, ?_⟩
          · show FilesIn _ vk (crashF D.ps (keptF D.ps keep []) D.fs)
            rw [← HE.out]
            exact HFI.out.kept fun q hq g e => Below.heap_setCell _ ⟨p, 0, none⟩ _ g (fun r => hne q hq g e r)
          · intro b hb
            refine .inl ?_
            rcases hb with e | e | e | ⟨q, hq, e⟩
            · exact .inl e
            · exact .inr (.inl e)
            · cases e
            · obtain ⟨q0, h1, h2⟩ := HFR.out q hq b e
              exact .inr (.inr (.inr ⟨q0, h1, h2⟩))
          · exact (HKP.out.mono (S' := Blk p pv mb vs) (fun j _ e => .inr (.inl e))).set (.inr (.inl rfl)) 0 _
        · intro A B qk qv w3 ht hrv3 hg3 hs3 hen
          obtain ⟨A', B', nq, e1, rfl, rfl, rfl⟩ := kmv_mid ht
          have hpt2 := HPT.out
          rw [e1] at hpt2
          obtain ⟨hp1, hp2, hp3⟩ := hpt2.step HMO.out
          have HP1 := Lib.hid hp1
          have HP2 := Lib.hid hp2
          have HP3 := Lib.hid hp3
          have HRV3 : Hid (RangeV w3 r kb (kmv m) (kmv (A' ++ B'))) := Lib.hid (by rw [← kmv_app]; exact hrv3)
          have HMT : Hid (w3.rangeLeft kb r < wr.rangeLeft kb r) := Lib.hid (by rw [HRV3.out.left, HRV.out.left, e1]; simp [kmv])
          have HG3 := Lib.hid hg3
          have HEN := Lib.hid hen
          have HRM : Hid (r ≠ mb) := Lib.hid (fun e => by have := HRW.out; have := HDW.out.mp.lt; omega)
          have HK3 : Hid (Kp (fun b => b = mb) W w3) := Lib.hid (HKP.out.then (Kp.grown (S := fun b => b = r) hg3 (fun j e => .inl (by simpa using e.symm))) (fun j hj e => by have := HRW.out; omega))
          clear ht hrv3 hg3 hs3 hp1 hp2 hp3 hpt2 e1 hen
          have HMVw : Hid (MapV w3 mb (mvs vk)) := Lib.hid (HMV3.out.block (HG3.out.block mb HMV3.out.lt (fun e => HRM.out (by simpa using e.symm))))
          have HFI3 : Hid (FilesIn w3 vk (crashF D.ps mk D.fs)) := Lib.hid (HFI.out.kept fun q hq g e => by
            obtain ⟨q0, h1, h2⟩ := HFR.out q hq g e
            have := HDW.out.lt (.inr (.inr (.inr ⟨q0, h1, h2⟩)))
            exact HG3.out.block g (Nat.lt_of_lt_of_le this HKP.out.size) (fun r' => by have := HRW.out; have : g = r := (by simpa using r'); omega))
          clear HMV3 HFI
          have HMV3 := HMVw
          have hth : (D.fs.at? qk).isSome = true := by
            have h1 := keptF_some D.ps keep [] qk
            rw [← HMM.out, HP2.out] at h1
            simp only [Option.isSome_some, Tb.at?_nil, Option.isSome_none, Bool.false_or] at h1
            obtain ⟨p', hp', e⟩ := List.any_eq_true.1 h1.symm
            rw [← (by simpa using e : p'.1 = qk)]
            exact HDW.out.inv.there hp'
          have HNQ : Hid (nq ≤ ofP D.ps qk) := Lib.hid (by
            have h1 := keptF_le D.ps keep [] qk
            rw [← HMM.out, HP2.out] at h1
            simpa [Tb.at?_nil] using h1)
          obtain ⟨b0, hb0⟩ := Option.isSome_iff_exists.1 hth
          have HOP : Hid (ofP D.ps qk ≤ b0.length) := Lib.hid (by have := HDW.out.inv.within qk; unfold Dk.file at this; rwa [hb0] at this)
          have HBL : Hid (b0.length ≤ 100000000) := Lib.hid (by have h1 := file_le_used (fs := D.fs) qk; rw [hb0] at h1; exact Nat.le_trans h1 HSM.out.us)
          have HB0 := Lib.hid hb0
          obtain ⟨s, b, hs1, hs2, hs3, hs4, -⟩ : ∃ s b, vk.at? qk = some s ∧ (crashF D.ps mk D.fs).at? qk = some b ∧ OwnN w3 s.v b ∧ (qk, s) ∈ vk ∧ (qk, b) ∈ crashF D.ps mk D.fs := by
            rcases HFI3.out.at qk with ⟨_, q⟩ | q
            · rw [crashF_at, hb0] at q; cases q
            · exact q
          have hbb : b = b0 := by
            rw [crashF_at, hb0] at hs2
            simp only [Option.map_some, Option.some.injEq] at hs2
            rw [← hs2]; unfold keptB; rw [HP3.out]
          subst hbb
          have HOB := Lib.hid hs3
          have HSV := Lib.hid hs4
          have HSL : Hid (s.n = b.length) := Lib.hid (by obtain ⟨s', e, hn⟩ := hs3.form; simp only [Sl.v, Value.slice.injEq] at e; rw [e.2.1, hn])
          have HS1 := Lib.hid hs1
          have hg := run_get (t := 55) (k := 9) Try.underlying55 Try.underlying9 w3 (zero48 w3) mb (mvs vk) HMV3.out qk false
          rw [mvs_at, hs1] at hg
          simp only [Bool.false_eq_true, if_false, Option.map_some, Option.getD_some] at hg
          unfold Sl.v at hg
          have hen := HEN.out
          have hst3 : w3.heap[p]? = some (.cells #[pv.v, .int .i64 D.size, .map (some mb)] 57 (0, 0)) := (HG3.out.block p (Array.getElem?_eq_some_iff.1 HST.out).1 (fun e => by have := HRW.out; have := HDW.out.lt (.inl rfl); have : p = r := (by simpa using e); omega)).trans HST.out
          have hc2 : w3.cell? ⟨p, 2, none⟩ = some (.map (some mb)) := by unfold World.cell?; simp only [hst3]; rfl
          have HCP : Hid (w3.cell? ⟨p, 0, none⟩ = some (.slice pv.A pv.n pv.c)) := Lib.hid (st_cell hst3).1
          have HQ3 : Hid (OwnQ w3 pv.A pv.n pv.c D.ps) := Lib.hid (HQ.out.kept fun a e => HK3.out.block a.block (HDW.out.lt (.inr (.inr (.inl (by unfold Sl.v Value.ownBlock; rw [e]))))) (fun q => HDW.out.mb_ps (by unfold Sl.v Value.ownBlock; rw [e, ← q])))
          clear hs1 hs2 hs3 hs4 hb0 hth hst3
          have HC2 : Hid (w3.drew.cell? ⟨p, 2, none⟩ = some (.map (some mb))) := Lib.hid ((Ok.refl w3).drew.cell hc2)
          obtain ⟨op, hop⟩ : ∃ op, ofP D.ps qk = op := ⟨_, rfl⟩
          have HOPE := Lib.hid hop
          rw [hop] at HNQ HOP
          clear hop
          obtain ⟨cl, hcl⟩ : ∃ cl, b.length - op + nq = cl := ⟨_, rfl⟩
          have HCL := Lib.hid hcl
          have hcn : ((s.n : Int) - (op : Int)) + (nq : Int) = (cl : Int) := by have := HSL.out; have := HOP.out; omega
          have e4 : IntKind.i64.wrap ((s.n : Int) - (op : Int)) = (s.n : Int) - (op : Int) := IntWalk.i64_in _ (by have := HSL.out; have := HOP.out; have := HBL.out; omega)
          have e5 : IntKind.i64.wrap (((s.n : Int) - (op : Int)) + (nq : Int)) = (cl : Int) := by rw [hcn]; exact IntWalk.i64_in _ (by have := HSL.out; have := HOP.out; have := HBL.out; have := HNQ.out; omega)
          have hcl0 : (0 : Int) ≤ (cl : Int) := Int.natCast_nonneg _
          have hcl1 : (cl : Int) ≤ (s.n : Int) := by have := HSL.out; have := HOP.out; have := HNQ.out; omega
          have hcl2 : s.n ≤ s.c := by
            rcases HOB.out.2 with ⟨e, _⟩ | ⟨g, cap, cur, e, _, _, hnc, _⟩
            · simp only [Sl.v, Value.slice.injEq] at e; omega
            · simp only [Sl.v, Value.slice.injEq] at e; have := HSL.out; omega
          have hcl3 : (cl : Int) ≤ (s.c : Int) := by omega
          clear hcl hcl2 hcn
          go_upto_region 13 with fail
          refine Until.begin (S := fun w => w.cell? ⟨p, 2, none⟩ = some (.map (some mb))) (j := 17) (by kernel_rfl) ?_ ?_
          · exact HC2.out
          intro hS
          have HD : Hid (Ok w3 w3.drew) := Lib.hid ((Ok.refl w3).drew)
          generalize w3.drew = V0 at *
          have HC0 : Hid (V0.cell? ⟨p, 0, none⟩ = some (.slice pv.A pv.n pv.c)) := Lib.hid (HD.out.cell HCP.out)
          have HOQ : Hid (OwnQ V0 pv.A pv.n pv.c D.ps) := Lib.hid (HQ3.out.ok HD.out)
          refine Until.take0 (i := 0) (v := ?v0) rfl (by kernel_rfl) (by kernel_rfl) (by kernel_rfl) (by kernel_rfl) (fun _ _ _ h => h) (Or.inl ⟨by rfl, ?hy0⟩) (fun _ => hS) ?rest0
          case hy0 => ((intro w hSw); clear hSw; go_simp; (try with_reducible rfl))
          try go_frame
          refine Until.take0 (i := 1) (v := ?v1) rfl (by kernel_rfl) (by kernel_rfl) (by kernel_rfl) (by kernel_rfl) (fun _ _ _ h => h) (Or.inl ⟨by rfl, ?hy1⟩) (fun _ => hS) ?rest1
          case hy1 => ((intro w hSw); clear hSw; go_simp; (try with_reducible rfl))
          try go_frame
          refine Until.take0 (i := 2) (v := ?v2) rfl (by kernel_rfl) (by kernel_rfl) (by kernel_rfl) (by kernel_rfl) (fun _ _ _ h => h) (Or.inl ⟨by rfl, ?hy2⟩) (fun _ => hS) ?rest2
          case hy2 => ((intro w hSw); clear hSw; go_simp; (try with_reducible rfl))
          try go_frame
          refine Until.take (i := 3) (v := ?v3) rfl (by kernel_rfl) (by kernel_rfl) (by kernel_rfl) (by kernel_rfl) (fun _ _ _ h => h) (Or.inl ⟨by rfl, ?hy3⟩) hS ?rest3
          case hy3 => ((intro w hSw; (try dsimp only at hSw)); skip; go_simp; (try with_reducible rfl))
          try go_frame
          refine Until.take0 (i := 4) (v := ?v4) rfl (by kernel_rfl) (by kernel_rfl) (by kernel_rfl) (by kernel_rfl) (fun _ _ _ h => h) (Or.inl ⟨by rfl, ?hy4⟩) (fun _ => hS) ?rest4
          case hy4 => ((intro w hSw); clear hSw; go_simp; (try with_reducible rfl))
          try go_frame
          refine Until.take0 (i := 5) (v := ?v5) rfl (by kernel_rfl) (by kernel_rfl) (by kernel_rfl) (by kernel_rfl) (fun _ _ _ h => h) (Or.inl ⟨by rfl, ?hy5⟩) (fun _ => hS) ?rest5
          case hy5 => ((intro w hSw); clear hSw; go_simp; (try with_reducible rfl))
          try go_frame
          refine Until.take0 (i := 6) (v := ?v6) rfl (by kernel_rfl) (by kernel_rfl) (by kernel_rfl) (by kernel_rfl) (fun _ _ _ h => h) (Or.inl ⟨by rfl, ?hy6⟩) (fun _ => hS) ?rest6
          case hy6 => ((intro w hSw); clear hSw; go_simp; (try with_reducible rfl))
          try go_frame
          refine Until.take0 (i := 7) (v := ?v7) rfl (by kernel_rfl) (by kernel_rfl) (by kernel_rfl) (by kernel_rfl) (fun _ _ _ h => h) (Or.inl ⟨by rfl, ?hy7⟩) (fun _ => hS) ?rest7
          case hy7 => ((intro w hSw); clear hSw; go_simp; (try with_reducible rfl))
          try go_frame
          refine Until.take0 (i := 8) (v := ?v8) rfl (by kernel_rfl) (by kernel_rfl) (by kernel_rfl) (by kernel_rfl) (fun _ _ _ h => h) (Or.inl ⟨by rfl, ?hy8⟩) (fun _ => hS) ?rest8
          case hy8 => ((intro w hSw); clear hSw; go_simp; (try with_reducible rfl))
          try go_frame
          refine Until.take0 (i := 9) (v := ?v9) rfl (by kernel_rfl) (by kernel_rfl) (by kernel_rfl) (by kernel_rfl) (fun _ _ _ h => h) (Or.inl ⟨by rfl, ?hy9⟩) (fun _ => hS) ?rest9
          case hy9 => ((intro w hSw); clear hSw; go_simp; (try with_reducible rfl))
          try go_frame
          refine Until.take0 (i := 10) (v := ?v10) rfl (by kernel_rfl) (by kernel_rfl) (by kernel_rfl) (by kernel_rfl) (fun _ _ _ h => h) (Or.inl ⟨by rfl, ?hy10⟩) (fun _ => hS) ?rest10
          case hy10 => ((intro w hSw); clear hSw; go_simp; (try with_reducible rfl))
          try go_frame
          refine Until.take0 (i := 11) (v := ?v11) rfl (by kernel_rfl) (by kernel_rfl) (by kernel_rfl) (by kernel_rfl) (fun _ _ _ h => h) (Or.inl ⟨by rfl, ?hy11⟩) (fun _ => hS) ?rest11
          case hy11 => ((intro w hSw); clear hSw; go_simp; (try with_reducible rfl))
          try go_frame
          refine Until.take0 (i := 14) (v := ?v14) rfl (by kernel_rfl) (by kernel_rfl) (by kernel_rfl) (by kernel_rfl) (fun _ _ _ h => h) (Or.inl ⟨by rfl, ?hy14⟩) (fun _ => hS) ?rest14
          case hy14 => ((intro w hSw); clear hSw; go_simp; (try with_reducible rfl))
          try go_frame
          refine Until.one (i := 12) (by kernel_rfl) rfl (fun K hK => ?_)
          have HK := Lib.hid hK
          clear hK
          go_simp
          have hof := of_f p pv.A pv.n pv.c D.ps qk V0 HC0.out HOQ.out HN6.out (Nat.le_trans HMY.out (by omega))
          rw [HOPE.out] at hof
          refine (hof).mono ?_
          rintro _ V1 ⟨rfl, o4⟩
          have HO4 := Lib.hid o4
          have hS1 := o4.cell hS
          clear o4
          refine HK.out.out _ _ (fun _ => hS1) (fun _ => ?_)
          clear hS
          have hS := hS1
          clear HK K
          try go_frame
          refine Until.take0 (i := 13) (v := ?v13) rfl (by kernel_rfl) (by kernel_rfl) (by kernel_rfl) (by kernel_rfl) (fun _ _ _ h => h) (Or.inl ⟨by rfl, ?hy13⟩) (fun _ => hS) ?rest13
          case hy13 => ((intro w hSw); clear hSw; go_simp; (try with_reducible rfl))
          try go_frame
          refine Until.take0 (i := 15) (v := ?v15) rfl (by kernel_rfl) (by kernel_rfl) (by kernel_rfl) (by kernel_rfl) (fun _ _ _ h => h) (Or.inl ⟨by rfl, ?hy15⟩) (fun _ => hS) ?rest15
          case hy15 => ((intro w hSw); clear hSw; go_simp; (try with_reducible rfl))
          try go_frame
          refine Until.take0 (i := 16) (v := ?v16) rfl (by kernel_rfl) (by kernel_rfl) (by kernel_rfl) (by kernel_rfl) (fun _ _ _ h => h) (Or.inl ⟨by rfl, ?hy16⟩) (fun _ => hS) ?rest16
          case hy16 => ((intro w hSw); clear hSw; go_simp; (try with_reducible rfl))
          try go_frame
          refine Until.one (i := 17) (o := ⟨none, .mapUpdate 55 (.tmp 55) (.tmp 56) (.tmp 68), _, _, _, _⟩) (by kernel_rfl) rfl (fun K hK => ?_)
          have HK := Lib.hid hK
          clear hK
          refine wp_map_put 55 (.tmp 55) (.tmp 56) (.tmp 68) rfl Try.underlying55 Try.underlying9 mb (mvs vk) rfl (HMV3.out.block ((HO4.out.block mb (by have := HMV3.out.lt; have := HD.out.size; omega)).trans (HD.out.block mb HMV3.out.lt))) qk rfl ?_
          intro w5 hm5 hg5 hs5
          have HM5 : Hid (MapV w5 mb ((mvs vk).put qk (.slice s.A cl s.c))) := Lib.hid hm5
          have HG5 := Lib.hid hg5
          clear hm5 hg5 hs5
          refine HK.out.out _ _ (fun h => absurd (h.symm.trans (by kernel_rfl : _ = true)) Bool.false_ne_true) (fun _ => ?_)
          clear HK K
          try go_frame
          refine Until.done (by kernel_rfl) ?_ _
          have HK5 : Hid (Kp (fun b => b = mb) w3 w5) := Lib.hid ((Kp.of (HD.out.trans HO4.out)).then (Kp.grown (S := fun b => b = mb) HG5.out (fun j e => .inl (by simpa using e.symm))) (fun _ _ e => e))
          have HNB : Hid (∀ q, q ∈ vk → ∀ g, q.2.v.ownBlock = some g → g ≠ mb ∧ g < w3.heap.size) := Lib.hid fun q hq g e => by
            obtain ⟨q0, h1, h2⟩ := HFR.out q hq g e
            exact ⟨(HDW.out.file_ne h1 h2).2.1, Nat.lt_of_lt_of_le (HDW.out.lt (.inr (.inr (.inr ⟨q0, h1, h2⟩)))) HK3.out.size⟩
          have hown : OwnN w5 (.slice s.A cl s.c) (left1 D.ps qk nq b) := by
            have h1 : OwnN w3 (.slice s.A cl s.c) (b.take cl) := OwnN.take (show OwnN w3 (.slice s.A s.n s.c) b from HOB.out) cl (by have := HCL.out; have := HOP.out; have := HNQ.out; omega)
            have h2 : left1 D.ps qk nq b = b.take cl := by unfold left1; rw [HOPE.out, HCL.out]
            rw [h2]
            exact h1.kept fun g e => HK5.out.block g (owns_lt h1 e) (HNB.out _ HSV.out g (by revert e; unfold Sl.v; cases s.A <;> exact id)).1
          have honce := once_mvs HMV3.out.1
          have hfil : FilesIn w5 (vk.put qk ⟨s.A, cl, s.c⟩) (crashF D.ps (mk ++ [(qk, nq)]) D.fs) := by
            rw [crashF_put D.ps mk D.fs HDW.out.inv.once qk nq b HB0.out HP3.out]
            refine HFI3.out.put honce qk ⟨s.A, cl, s.c⟩ (left1 D.ps qk nq b) hown (fun q hq hn g e => ?_) (fun q hq _ g e => HK5.out.block g (HNB.out q hq g e).2 (HNB.out q hq g e).1)
            exact apart_of HFI3.out.apart honce HSV.out hq hn g (by revert e; unfold Sl.v; cases s.A <;> exact id)
          have HFIL := Lib.hid hfil
          have HMVN : Hid (MapV w5 mb (mvs (vk.put qk ⟨s.A, cl, s.c⟩))) := Lib.hid (by rw [mvs_put]; exact HM5.out)
          have HRVN : Hid (RangeV w5 r kb (kmv m) (kmv (A' ++ B'))) := Lib.hid (HRV3.out.block (HK5.out.block kb (by have := HRV3.out.map.lt; exact this) (fun e => by have := HKB.out; have := HDW.out.mp.lt; omega)) (HK5.out.block r HRV3.out.lt HRM.out))
          have HFRN : Hid (∀ q, q ∈ vk.put qk ⟨s.A, cl, s.c⟩ → ∀ g, q.2.v.ownBlock = some g → ∃ q0, q0 ∈ vs ∧ q0.2.v.ownBlock = some g) := Lib.hid fun q hq g e => by
            rcases Tb.mem_put hq with rfl | hq
            · exact HFR.out _ HSV.out g (by revert e; unfold Sl.v; cases s.A <;> exact id)
            · exact HFR.out q hq g e
          have HKN : Hid (Kp (fun b => b = mb) W w5) := Lib.hid (HK3.out.then HK5.out (fun _ _ e => e))
          have HMTN : Hid (w5.rangeLeft kb r < wr.rangeLeft kb r) := Lib.hid (by rw [HRVN.out.left, ← HRV3.out.left]; exact HMT.out)
          clear hown hfil honce hS hen hg hc2
          go_roundw
          case rel => (repeat apply Exists.intro); exact ⟨⟨mk ++ [(qk, nq)], A' ++ B', _, HP1.out, HRVN.out, HMVN.out, HFIL.out, HFRN.out, HKN.out⟩, rfl⟩
          case measure => exact HMTN.out
end Go.Proofs.Ytfchjdhjbepocaa
