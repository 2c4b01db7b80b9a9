/- The law DiskCrash. -/
import Derived.Test.YtfchjdhjbepocaaNl
namespace Go.Proofs.Ytfchjdhjbepocaa
open Go Go.RowKit

theorem all2_len {w : World} : ∀ {vs : Tb Sl} {fs : Tb (List B8)} (_ : All2 (FileR w) vs fs), vs.length = fs.length
  | [], [], _ => rfl
  | _ :: _, _ :: _, h => by rw [List.length_cons, List.length_cons, all2_len h.2]
  | [], _ :: _, h => h.elim
  | _ :: _, [], h => h.elim
theorem FB.len {fm : Nat} {vf : Tb Sl} {T : Tb (List B8)} {B : Nat → Prop} {w : World} (h : FB fm vf T B w) : (mvs vf).length = T.length := by
  unfold mvs; rw [List.length_map, all2_len h.1.1.fs.each]
theorem FB.get {fm : Nat} {vf : Tb Sl} {T : Tb (List B8)} {B : Nat → Prop} {w : World} (h : FB fm vf T B w) {k : Str} {b : List B8} (hb : T.at? k = some b) : ∃ s : Sl, vf.at? k = some s ∧ OwnN w s.v b ∧ s.n = b.length := by
  rcases h.1.1.fs.at k with ⟨_, q⟩ | ⟨s, b', h1, h2, h3, _, _⟩
  · rw [q] at hb; cases hb
  · rw [hb] at h2
    cases h2
    refine ⟨s, h1, h3, ?_⟩
    obtain ⟨s', e, hn⟩ := h3.form
    simp only [Sl.v, Value.slice.injEq] at e
    rw [e.2.1, hn]
theorem FB.ent {fm : Nat} {vf : Tb Sl} {T : Tb (List B8)} {B : Nat → Prop} {w : World} (h : FB fm vf T B w) (ho : Once T) {k : Str} {s : Sl} (hs : (k, s) ∈ vf) : ∃ b, T.at? k = some b ∧ OwnN w s.v b ∧ s.n = b.length := by
  obtain ⟨f, h1, h2, h3⟩ := h.1.1.fs.own hs
  refine ⟨f.2, ?_, h3, ?_⟩
  · rw [show k = f.1 from h2]; exact Tb.mem_at ho h1
  · obtain ⟨s', e, hn⟩ := h3.form
    simp only [Sl.v, Value.slice.injEq] at e
    rw [e.2.1, hn]
theorem fb_look {fm : Nat} {vf : Tb Sl} {T : Tb (List B8)} {B : Nat → Prop} {w : World} (h : FB fm vf T B w) {k : Str} {s : Sl} (hs : vf.at? k = some s) : (Instr.lookup 55 (.map (some fm)) (.string k) false).run Try.prog w = .ok (.slice s.A s.n s.c) w := by
  have hg := run_get (t := 55) (k := 9) Try.underlying55 Try.underlying9 w (zero48 w) fm (mvs vf) h.1.1.mp k false
  rw [mvs_at, hs] at hg
  simpa [Sl.v] using hg
theorem own_in {w : World} {s : Sl} {xs : List B8} (h : OwnN w s.v xs) (hl : xs.length ≤ 100000000) : BytesIn w (.slice s.A s.n s.c) xs := h.bytes (by omega)
theorem gones_mid (D : Dk) (keep : Int) (A B : Tb Sl) (x : Str × Sl) : gones D keep ((A ++ x :: B).map Prod.fst) = gones D keep ((A ++ B).map Prod.fst) + goneK D keep x.1 := by
  unfold gones
  simp only [List.map_append, List.map_cons, List.sum_append, List.sum_cons]
  omega
theorem Like.inv {D D' : Dk} (h : Like D D') (hi : D.Inv) : D'.Inv := by
  have := hi.perm h.fs
  obtain ⟨sz, ps, fs⟩ := D'
  have h1 : sz = D.size := h.sz
  have h2 : ps = D.ps := h.ps
  subst h1 h2
  exact this
theorem same_true {xs ys : List B8} (h : xs = ys) : eqB xs ys = true := decide_eq_true h
set_option maxRecDepth 100000 in
set_option maxHeartbeats 4000000 in
theorem crashes_w (t0 : Int) (A : Option Addr) (n c : Nat) (l : List Deed) (t2 t3 : Int) (W : World) (hl : l.length = n) (hn : n ≤ 140737488355328) (hd : DeedsIn (fun b => W.heap.size ≤ b) W A l)
    (hk : ∀ j, j < l.length → -9223372036854775808 ≤ (deA l j).num ∧ (deA l j).num ≤ 9223372036854775807) : Calls Try.prog 5 #[.int .i64 t0, .slice A n c, .int .i64 t2, .int .i64 t3] W (Ret W (.bool true)) := by
  have HL := Lib.hid hl
  have HN := Lib.hid hn
  have HDE := Lib.hid hd
  have HKB := Lib.hid hk
  clear hl hn hd hk
  go_enter Try.func5, Try.ntmps5
  go_wp2_with fail
  refine (awake_f W).mono ?_
  rintro _ w1 ⟨rfl, o1⟩
  have HO1 := Lib.hid o1
  clear o1
  go_wp2_with fail
  refine (light_f (fun b => W.heap.size ≤ b) A n c l w1 HL.out (HDE.out.ok HO1.out)).mono ?_
  rintro _ w2 ⟨lb, rfl, o2, hlb⟩
  have HO2 : Hid (Ok W w2) := Lib.hid (HO1.out.trans o2)
  clear HO1 o2
  cases lb with
  | false =>
    go_wp2_with fail
    go_ret
    exact ⟨rfl, HO2.out⟩
  | true =>
  have HLT : Hid (n ≤ 300 ∧ wts l ≤ 20000) := Lib.hid (by have := hlb rfl; rw [HL.out] at this; exact this)
  clear hlb
  go_wp2_with fail
  refine (new_b t0 w2).mono ?_
  rintro _ w3 ⟨p, rfl, hd, o3⟩
  have HD3 : Hid (DkB p (fresh0 t0) (fun b => W.heap.size ≤ b ∧ b < w3.heap.size) w3) := Lib.hid (by
    obtain ⟨⟨pv, mb, vs, h1, h2⟩, h3⟩ := hd
    exact ⟨⟨pv, mb, vs, h1, fun b q => ⟨Nat.le_trans HO2.out.size (h2 b q).1, (h2 b q).2⟩⟩, fun b q => q.2⟩)
  have HO3 := Lib.hid (HO2.out.trans o3)
  clear hd o3 HO2
  go_wp2_with fail
  go_loopw [10] (fun i wr => ∃ (k : Nat) (D : Dk), k ≤ n ∧ i = .int .i64 (k : Int) ∧ DkB p D (fun b => W.heap.size ≤ b ∧ b < wr.heap.size) wr ∧ Sz t0 (wts (l.take k)) k D ∧ Ok W wr) (fun i _ => n - (intOf i).toNat)
  case atStart => exact ⟨0, fresh0 t0, Nat.zero_le _, rfl, HD3.out, Sz.new t0, HO3.out⟩
  case round =>
    obtain ⟨k, D, hk, rfl, hdk, hsz, hok⟩ := hrel
    have HD := Lib.hid hdk
    have HSZ := Lib.hid hsz
    have HOK := Lib.hid hok
    clear hdk hsz hok HD3 HO3
    by_cases hlt : k < n
    · have d1 : decide (k < n) = true := decide_eq_true hlt
      obtain ⟨b, o, A2, c2, A4, c4, rfl, hsb, hde⟩ := HDE.out.ok HOK.out k (by rw [HL.out]; exact hlt)
      have HWT := Lib.hid (wts_take l k (by rw [HL.out]; exact hlt))
      have HWL := Lib.hid (wts_le l (k + 1))
      have HKK := Lib.hid (HKB.out k (by rw [HL.out]; exact hlt))
      have HMS : Hid (n - ((k : Int) + 1).toNat < n - (k : Int).toNat) := Lib.hid (by omega)
      have hi0 : (0 : Int) ≤ (k : Int) := Int.natCast_nonneg _
      have hi1 : (k : Int) < (n : Int) := by omega
      have e9 : IntKind.i64.wrap ((k : Int) + 1) = (k : Int) + 1 := IntWalk.i64_in _ (by have := HLT.out.1; omega)
      generalize deA l k = d at *
      have hact := act_b HD.out d A2 c2 A4 c4 (HSZ.out.small (by have := HWT.out; have := HWL.out; have := HLT.out; omega) (by have := HLT.out.1; omega)) (by have := HSZ.out.ps; have := HLT.out.1; omega)
        (hde.ns.mono fun b q => q.1) (hde.ps.mono fun b q => q.1) (by have := HWT.out; have := HWL.out; have := HLT.out; omega) HKK.out.1 HKK.out.2
      have HS2 : Hid (Sz t0 (wts (l.take (k + 1))) (k + 1) (D.actR (pickI d.kind 8) d).1) := Lib.hid ((HSZ.out.act HD.out.inv (pickI d.kind 8) d).mono (by rw [HWT.out]; unfold wtD; omega) (Nat.le_refl _))
      have x0 := hde.x0
      have x1 := hde.x1
      have x2 := hde.x2
      have x3 := hde.x3
      have x4 := hde.x4
      clear hde hsb
      unfold dvals at hact
      generalize D.actR (pickI d.kind 8) d = R at *
      go_wp2_with fail
      refine hact.mono ?_
      clear hact x0 x1 x2 x3 x4
      rintro _ w5 ⟨rfl, h1, h2⟩
      have HD5 : Hid (DkB p R.1 (fun b => W.heap.size ≤ b ∧ b < w5.heap.size) w5) := Lib.hid (by
        obtain ⟨⟨pv, mb, vs, h3, h4⟩, h5⟩ := h1
        refine ⟨⟨pv, mb, vs, h3, fun b q => ?_⟩, fun b q => q.2⟩
        rcases h4 b q with r | r
        · exact ⟨r.1, Nat.lt_of_lt_of_le r.2 h2.size⟩
        · exact ⟨Nat.le_trans HOK.out.size r.1, r.2⟩)
      have HO5 : Hid (Ok W w5) := Lib.hid (((Kp.of (S := fun _ => False) HOK.out).then h2 (fun j hj e => by have := e.1; omega)).toOk (fun _ e => e.elim))
      clear h1 h2
      by_cases hz : (0 : Int) < t0
      · have hz1 : decide (0 < t0) = true := decide_eq_true hz
        have hz2 : decide (t0 > 0) = true := decide_eq_true hz
        have htt := total_b HD5.out (HS2.out.small (by have := HWL.out; have := HLT.out; omega) (by have := HLT.out.1; omega)) (HS2.out.few (by have := HLT.out.1; omega))
        have dc : decide ((used R.1.fs : Int) > t0) = false := decide_eq_false (by have := HS2.out.cap (by omega); omega)
        have dc2 : decide (t0 < (used R.1.fs : Int)) = false := decide_eq_false (by have := HS2.out.cap (by omega); omega)
        clear hz
        go_wp2_with fail
        refine htt.mono ?_
        clear htt
        rintro _ w6 ⟨rfl, o6⟩
        have HO6 := Lib.hid o6
        clear o6
        go_wp2_with fail
        refine ⟨⟨k + 1, R.1, hlt, rfl, ?_, HS2.out, HO5.out.trans HO6.out⟩, HMS.out⟩
        obtain ⟨⟨pv, mb, vs, h3, h4⟩, h5⟩ := HD5.out.ok HO6.out
        exact ⟨⟨pv, mb, vs, h3, fun b q => ⟨(h4 b q).1, h3.lt q⟩⟩, fun b q => q.2⟩
      · have hz1 : decide (0 < t0) = false := decide_eq_false hz
        have hz2 : decide (t0 > 0) = false := decide_eq_false hz
        clear hz
        go_wp2_with fail
        exact ⟨⟨k + 1, R.1, hlt, rfl, HD5.out, HS2.out, HO5.out⟩, HMS.out⟩
    · have d1 : decide (k < n) = false := decide_eq_false hlt
      obtain rfl : k = n := by omega
      have HSZ2 : Hid (Sz t0 20000 300 D) := Lib.hid (HSZ.out.mono (Nat.le_trans (wts_le l k) HLT.out.2) HLT.out.1)
      have HSM : Hid (Small D) := Lib.hid (HSZ2.out.small (by omega) (by omega))
      have HFW : Hid (Few D) := Lib.hid (HSZ2.out.few (by omega))
      have HINV := Lib.hid HD.out.inv
      obtain ⟨B0, hB0⟩ : ∃ B0, (fun b => W.heap.size ≤ b ∧ b < wr.heap.size) = B0 := ⟨_, rfl⟩
      have HB0 : Hid (∀ b, B0 b → W.heap.size ≤ b) := Lib.hid fun b q => by rw [← hB0] at q; exact q.1
      rw [hB0] at HD
      clear hB0 HSZ HLT HKB HDE HL HN hk hlt
      go_wp2_with fail
      refine (files_b HD.out HSM.out HFW.out).mono ?_
      rintro _ w4 ⟨ff, vF, F, rfl, h1, h2, h3⟩
      have HF := Lib.hid h1
      have HFP := Lib.hid h2
      have HD4 := Lib.hid (HD.out.ok h3)
      have HO4 := Lib.hid (HOK.out.trans h3)
      have HBF : Hid (∀ b, Ab wr w4 b → W.heap.size ≤ b) := Lib.hid fun b q => Nat.le_trans HOK.out.size q.1
      have HA0F : Hid (Apart B0 (Ab wr w4)) := Lib.hid (Apart.ab HD.out.bel)
      clear h1 h2 h3 d1 HOK HD
      generalize Ab wr w4 = BF at *
      go_wp2_with fail
      refine (waits_b HD4.out HSM.out).mono ?_
      rintro _ w5 ⟨rfl, o5⟩
      have HF5 := Lib.hid (HF.out.ok o5)
      have HD5 := Lib.hid (HD4.out.ok o5)
      have HO5 := Lib.hid (HO4.out.trans o5)
      clear o5 HF HD4 HO4
      go_wp2_with fail
      refine (copy_b HD5.out HSM.out).mono ?_
      rintro _ w6 ⟨q1, D1, rfl, h1, h2, h3⟩
      have HC1 := Lib.hid h1
      have HL1 := Lib.hid h2
      have HO6 := Lib.hid (HO5.out.trans h3)
      have HD6 := Lib.hid (HD5.out.ok h3)
      have HF6 := Lib.hid (HF5.out.ok h3)
      have HB1 : Hid (∀ b, Ab w5 w6 b → W.heap.size ≤ b) := Lib.hid fun b q => Nat.le_trans HO5.out.size q.1
      have HA01 : Hid (Apart B0 (Ab w5 w6)) := Lib.hid (Apart.ab HD5.out.bel)
      have HAF1 : Hid (Apart BF (Ab w5 w6)) := Lib.hid (Apart.ab HF5.out.2)
      clear h1 h2 h3 HO5 HD5 HF5
      generalize Ab w5 w6 = B1 at *
      go_wp2_with fail
      refine (copy_b HD6.out HSM.out).mono ?_
      rintro _ w7 ⟨q2, D2, rfl, h1, h2, h3⟩
      have HC2 := Lib.hid h1
      have HL2 := Lib.hid h2
      have HO7 := Lib.hid (HO6.out.trans h3)
      have HD7 := Lib.hid (HD6.out.ok h3)
      have HF7 := Lib.hid (HF6.out.ok h3)
      have HC17 := Lib.hid (HC1.out.ok h3)
      have HB2 : Hid (∀ b, Ab w6 w7 b → W.heap.size ≤ b) := Lib.hid fun b q => Nat.le_trans HO6.out.size q.1
      have HA02 : Hid (Apart B0 (Ab w6 w7)) := Lib.hid (Apart.ab HD6.out.bel)
      have HAF2 : Hid (Apart BF (Ab w6 w7)) := Lib.hid (Apart.ab HF6.out.2)
      have HA12 : Hid (Apart B1 (Ab w6 w7)) := Lib.hid (Apart.ab HC1.out.bel)
      clear h1 h2 h3 HO6 HD6 HF6 HC1
      generalize Ab w6 w7 = B2 at *
      go_wp2_with fail
      refine (copy_b HD7.out HSM.out).mono ?_
      rintro _ w8 ⟨q3, D3, rfl, h1, h2, h3⟩
      have HC3 := Lib.hid h1
      have HL3 := Lib.hid h2
      have HO8 := Lib.hid (HO7.out.trans h3)
      have HD8 := Lib.hid (HD7.out.ok h3)
      have HF8 := Lib.hid (HF7.out.ok h3)
      have HC18 := Lib.hid (HC17.out.ok h3)
      have HC28 := Lib.hid (HC2.out.ok h3)
      have HB3 : Hid (∀ b, Ab w7 w8 b → W.heap.size ≤ b) := Lib.hid fun b q => Nat.le_trans HO7.out.size q.1
      have HA03 : Hid (Apart B0 (Ab w7 w8)) := Lib.hid (Apart.ab HD7.out.bel)
      have HAF3 : Hid (Apart BF (Ab w7 w8)) := Lib.hid (Apart.ab HF7.out.2)
      have HA13 : Hid (Apart B1 (Ab w7 w8)) := Lib.hid (Apart.ab HC17.out.bel)
      have HA23 : Hid (Apart B2 (Ab w7 w8)) := Lib.hid (Apart.ab HC2.out.bel)
      clear h1 h2 h3 HO7 HD7 HF7 HC17 HC2
      generalize Ab w7 w8 = B3 at *
      have HS1 := Lib.hid (HL1.out.sz' HSZ2.out)
      have HS2 := Lib.hid (HL2.out.sz' HSZ2.out)
      have HS3 := Lib.hid (HL3.out.sz' HSZ2.out)
      go_wp2_with fail
      refine (pick_f t2 20000 (by omega) (by omega) w8).mono ?_
      rintro _ w9 ⟨rfl, o9⟩
      have HP1 := Lib.hid (pickI_lt t2 20000 (by omega))
      obtain ⟨k1, hk1⟩ : ∃ k1, pickI t2 20000 = k1 := ⟨_, rfl⟩
      rw [hk1] at HP1 ⊢
      have HO9 := Lib.hid o9
      clear o9 hk1
      go_wp2_with fail
      refine (pick_f t3 20000 (by omega) (by omega) w9).mono ?_
      rintro _ w10 ⟨rfl, o10⟩
      have HP2 := Lib.hid (pickI_lt t3 20000 (by omega))
      obtain ⟨k2, hk2⟩ : ∃ k2, pickI t3 20000 = k2 := ⟨_, rfl⟩
      rw [hk2] at HP2 ⊢
      have HOA := Lib.hid (HO9.out.trans o10)
      clear o10 hk2 HO9
      have HDA := Lib.hid (HD8.out.ok HOA.out)
      have HFA := Lib.hid (HF8.out.ok HOA.out)
      have HC1A := Lib.hid (HC18.out.ok HOA.out)
      have HC2A := Lib.hid (HC28.out.ok HOA.out)
      have HC3A := Lib.hid (HC3.out.ok HOA.out)
      have HOAA := Lib.hid (HO8.out.trans HOA.out)
      clear HD8 HF8 HC18 HC28 HC3 HO8 HOA
      have e1 : IntKind.i64.wrap (k1 + k2) = k1 + k2 := IntWalk.i64_in _ (by have := HP1.out; have := HP2.out; omega)
      go_wp2_with fail
--REST
      clear e1
      refine (crash_b HC1A.out (HS1.out.small (by omega) (by omega)) k1 (by have := HP1.out; omega) (by have := HP1.out; omega)).mono ?_
      rintro _ w11 ⟨rfl, h1, h2⟩
      have HE1 := Lib.hid h1
      have HDB := Lib.hid (HDA.out.kp h2 HA01.out)
      have HFB := Lib.hid (HFA.out.kp h2 HAF1.out)
      have HC2B := Lib.hid (HC2A.out.kp h2 HA12.out.symm)
      have HC3B := Lib.hid (HC3A.out.kp h2 HA13.out.symm)
      have HA01x := Lib.hid (HA01.out.nw HDA.out.bel (w := w10) (w' := w11))
      have HAF1x := Lib.hid (HAF1.out.nw HFA.out.2 (w := w10) (w' := w11))
      have HA12x := Lib.hid ((HA12.out.symm.nw HC2A.out.bel (w := w10) (w' := w11)).symm)
      have HA13x := Lib.hid ((HA13.out.symm.nw HC3A.out.bel (w := w10) (w' := w11)).symm)
      have HOB : Hid (Ok W w11) := Lib.hid (((Kp.of (S := fun _ => False) HOAA.out).then h2 (fun j hj e => by have := HB1.out j e; omega)).toOk (fun _ e => e.elim))
      have HB1x : Hid (∀ b, Nw B1 w10 w11 b → W.heap.size ≤ b) := Lib.hid fun b e => e.elim (fun e => HB1.out b e) (fun e => Nat.le_trans HOAA.out.size e.1)
      generalize Nw B1 w10 w11 = B1x at *
      clear h1 h2 HC1A HDA HFA HC2A HC3A HOAA HA01 HAF1 HA12 HA13 HB1
      go_wp2_with fail
      refine (crash_b HC2B.out (HS2.out.small (by omega) (by omega)) (k1 + k2) (by have := HP1.out; have := HP2.out; omega) (by have := HP1.out; have := HP2.out; omega)).mono ?_
      rintro _ w12 ⟨rfl, h1, h2⟩
      have HE2 := Lib.hid h1
      have HDC := Lib.hid (HDB.out.kp h2 HA02.out)
      have HFC := Lib.hid (HFB.out.kp h2 HAF2.out)
      have HE1C := Lib.hid (HE1.out.kp h2 HA12x.out)
      have HC3C := Lib.hid (HC3B.out.kp h2 HA23.out.symm)
      have HA02x := Lib.hid (HA02.out.nw HDB.out.bel (w := w11) (w' := w12))
      have HAF2x := Lib.hid (HAF2.out.nw HFB.out.2 (w := w11) (w' := w12))
      have HA12y := Lib.hid (HA12x.out.nw HE1.out.bel (w := w11) (w' := w12))
      have HA23x := Lib.hid ((HA23.out.symm.nw HC3B.out.bel (w := w11) (w' := w12)).symm)
      have HOC : Hid (Ok W w12) := Lib.hid (((Kp.of (S := fun _ => False) HOB.out).then h2 (fun j hj e => by have := HB2.out j e; omega)).toOk (fun _ e => e.elim))
      have HB2x : Hid (∀ b, Nw B2 w11 w12 b → W.heap.size ≤ b) := Lib.hid fun b e => e.elim (fun e => HB2.out b e) (fun e => Nat.le_trans HOB.out.size e.1)
      generalize Nw B2 w11 w12 = B2x at *
      clear h1 h2 HC2B HDB HFB HE1 HC3B HOB HA02 HAF2 HA12x HA23 HB2
      go_wp2_with fail
      refine (names_b HC3C.out (HS3.out.few (by omega))).mono ?_
      rintro _ w13 ⟨A3, c3, l3, rfl, h1, h2, h3⟩
      have HNP := Lib.hid h1
      have HTX := Lib.hid (h2 B3 HC3C.out.bel)
      have HDD := Lib.hid (HDC.out.ok h3)
      have HFD := Lib.hid (HFC.out.ok h3)
      have HE1D := Lib.hid (HE1C.out.ok h3)
      have HE2D := Lib.hid (HE2.out.ok h3)
      have HC3D := Lib.hid (HC3C.out.ok h3)
      have HOD := Lib.hid (HOC.out.trans h3)
      have HSY := Lib.hid (syncs_all HC3C.out.inv h1)
      have HL36 : Hid (l3.length ≤ 1000000) := Lib.hid (by rw [h1.length_eq, List.length_map]; have := HS3.out.ct; omega)
      clear h1 h2 h3 HDC HFC HE1C HE2 HC3C HOC
      go_wp2_with fail
      refine (sync_b HC3D.out A3 c3 l3 (by have := HS3.out.ps; omega) HL36.out HTX.out).mono ?_
      rintro _ w14 ⟨rfl, h1, h2⟩
      rw [HSY.out] at h1 ⊢
      have HC3E := Lib.hid h1
      have HDE := Lib.hid (HDD.out.kp h2 HA03.out)
      have HFE := Lib.hid (HFD.out.kp h2 HAF3.out)
      have HE1E := Lib.hid (HE1D.out.kp h2 HA13x.out)
      have HE2E := Lib.hid (HE2D.out.kp h2 HA23x.out)
      have HOE : Hid (Ok W w14) := Lib.hid (((Kp.of (S := fun _ => False) HOD.out).then h2 (fun j hj e => by have := HB3.out j e; omega)).toOk (fun _ e => e.elim))
      have HA03y := Lib.hid (HA03.out.nw HDD.out.bel (w := w13) (w' := w14))
      have HAF3y := Lib.hid (HAF3.out.nw HFD.out.2 (w := w13) (w' := w14))
      have HA13y := Lib.hid (HA13x.out.nw HE1D.out.bel (w := w13) (w' := w14))
      have HA23y := Lib.hid (HA23x.out.nw HE2D.out.bel (w := w13) (w' := w14))
      have HB3y : Hid (∀ b, Nw B3 w13 w14 b → W.heap.size ≤ b) := Lib.hid fun b e => e.elim (fun e => HB3.out b e) (fun e => Nat.le_trans HOD.out.size e.1)
      generalize Nw B3 w13 w14 = B3y at *
      clear h1 h2 HC3D HDD HFD HE1D HE2D HOD HA03 HAF3 HA13x HA23x HB3 HTX HNP HSY HL36
      have HS3e : Hid (Sz t0 20000 300 { D3 with ps := [] }) := Lib.hid ⟨HS3.out.sz, HS3.out.us, HS3.out.cap, Nat.zero_le _, HS3.out.nm, HS3.out.ct⟩
      unfold errOf
      go_wp2_with fail
      refine (waits_b HC3E.out (HS3e.out.small (by omega) (by omega))).mono ?_
      rintro _ w15 ⟨rfl, o15⟩
      have HO15 := Lib.hid o15
      clear o15
      go_wp2_with fail
      have HC3G := Lib.hid (HC3E.out.ok HO15.out)
      have HDG := Lib.hid (HDE.out.ok HO15.out)
      have HFG := Lib.hid (HFE.out.ok HO15.out)
      have HE1G := Lib.hid (HE1E.out.ok HO15.out)
      have HE2G := Lib.hid (HE2E.out.ok HO15.out)
      have HOG := Lib.hid (HOE.out.trans HO15.out)
      clear HC3E HDE HFE HE1E HE2E HOE HO15
      refine (crash_b HC3G.out (HS3e.out.small (by omega) (by omega)) 0 (by omega) (by omega)).mono ?_
      rintro _ w16 ⟨rfl, h1, h2⟩
      rw [crash_none _ rfl] at h1
      have HC3H := Lib.hid h1
      have HDH := Lib.hid (HDG.out.kp h2 HA03y.out)
      have HFH := Lib.hid (HFG.out.kp h2 HAF3y.out)
      have HE1H := Lib.hid (HE1G.out.kp h2 HA13y.out)
      have HE2H := Lib.hid (HE2G.out.kp h2 HA23y.out)
      have HOH : Hid (Ok W w16) := Lib.hid (((Kp.of (S := fun _ => False) HOG.out).then h2 (fun j hj e => by have := HB3y.out j e; omega)).toOk (fun _ e => e.elim))
      clear h1 h2 HC3G HDG HFG HE1G HE2G HOG HA03y HAF3y HA13y HA23y HB3y
      have HSE1 : Hid (Sz t0 20000 300 (D1.crash k1)) := Lib.hid (HS1.out.crash k1)
      have HSE2 : Hid (Sz t0 20000 300 (D2.crash (k1 + k2))) := Lib.hid (HS2.out.crash (k1 + k2))
      go_wp2_with fail
      refine (files_b HE1H.out (HSE1.out.small (by omega) (by omega)) (HSE1.out.few (by omega))).mono ?_
      rintro _ w17 ⟨f1, v1, T1, rfl, h1, h2, h3⟩
      have HT1 := Lib.hid h1
      have HT1P := Lib.hid h2
      have HO17 := Lib.hid h3
      have HAT1 : Hid (Apart B1x (Ab w16 w17)) := Lib.hid (Apart.ab HE1H.out.bel)
      clear h1 h2 h3
      generalize Ab w16 w17 = BT1 at *
      go_wp2_with fail
      refine (files_b (HE2H.out.ok HO17.out) (HSE2.out.small (by omega) (by omega)) (HSE2.out.few (by omega))).mono ?_
      rintro _ w18 ⟨f2, v2, T2, rfl, h1, h2, h3⟩
      have HT2 := Lib.hid h1
      have HT2P := Lib.hid h2
      have HT1B := Lib.hid (HT1.out.ok h3)
      have HO18 := Lib.hid (HO17.out.trans h3)
      clear h1 h2 h3 HT1 HO17
      generalize Ab w17 w18 = BT2 at *
      go_wp2_with fail
      refine (files_b (HC3H.out.ok HO18.out) (HS3e.out.small (by omega) (by omega)) (HS3e.out.few (by omega))).mono ?_
      rintro _ w19 ⟨f3, v3, T3, rfl, h1, h2, h3⟩
      have HT3 := Lib.hid h1
      have HT3P : Hid (T3.Perm D.fs) := Lib.hid (h2.trans HL3.out.fs)
      have HT1C := Lib.hid (HT1B.out.ok h3)
      have HT2C := Lib.hid (HT2.out.ok h3)
      have HO19 := Lib.hid (HO18.out.trans h3)
      clear h1 h2 h3 HT1B HT2 HO18
      generalize Ab w18 w19 = BT3 at *
      have HE1I := Lib.hid (HE1H.out.ok HO19.out)
      have HE2I := Lib.hid (HE2H.out.ok HO19.out)
      have HDI := Lib.hid (HDH.out.ok HO19.out)
      have HFI := Lib.hid (HFH.out.ok HO19.out)
      have HOI := Lib.hid (HOH.out.trans HO19.out)
      clear HE1H HE2H HDH HFH HOH HO19 HC3H
      have HLF : Hid ((mvs vF).length = D.fs.length) := Lib.hid (by rw [HFI.out.len, HFP.out.length_eq])
      have HL1F : Hid ((mvs v1).length = D.fs.length) := Lib.hid (by
        rw [HT1C.out.len, HT1P.out.length_eq]
        show (crashF _ _ D1.fs).length = _
        unfold crashF
        rw [List.length_map, HL1.out.fs.length_eq])
      have HL2F : Hid ((mvs v2).length = D.fs.length) := Lib.hid (by
        rw [HT2C.out.len, HT2P.out.length_eq]
        show (crashF _ _ D2.fs).length = _
        unfold crashF
        rw [List.length_map, HL2.out.fs.length_eq])
      have HL3F : Hid ((mvs v3).length = D.fs.length) := Lib.hid (by rw [HT3.out.len, HT3P.out.length_eq])
      obtain ⟨NN, hNN⟩ : ∃ NN, D.fs.length = NN := ⟨_, rfl⟩
      rw [hNN] at HLF HL1F HL2F HL3F
      have hm0 := fun ty => run_many (t := 55) Try.underlying55 w19 ff (mvs vF) HFI.out.1.1.mp ty
      have hm1 := fun ty => run_many (t := 55) Try.underlying55 w19 f1 (mvs v1) HT1C.out.1.1.mp ty
      have hm2 := fun ty => run_many (t := 55) Try.underlying55 w19 f2 (mvs v2) HT2C.out.1.1.mp ty
      have hm3 := fun ty => run_many (t := 55) Try.underlying55 w19 f3 (mvs v3) HT3.out.1.1.mp ty
      rw [HLF.out] at hm0
      rw [HL1F.out] at hm1
      rw [HL2F.out] at hm2
      rw [HL3F.out] at hm3
      clear hNN
      go_wp2_with fail
      refine (waits_b HE1I.out (HSE1.out.small (by omega) (by omega))).mono ?_
      rintro _ w20 ⟨rfl, o20⟩
      have HO20 := Lib.hid o20
      clear o20 hm0 hm1 hm2 hm3
      have em1 : many (D1.crash k1).ps = 0 := rfl
      have em2 : many (D2.crash (k1 + k2)).ps = 0 := rfl
      rw [em1]
      go_wp2_with fail
      refine (waits_b (HE2I.out.ok HO20.out) (HSE2.out.small (by omega) (by omega))).mono ?_
      rintro _ w21 ⟨rfl, o21⟩
      have HO21 := Lib.hid (HO20.out.trans o21)
      clear o21 HO20
      rw [em2]
      go_wp2_with fail
      refine (waits_b (HDI.out.ok HO21.out) HSM.out).mono ?_
      rintro _ w22 ⟨rfl, o22⟩
      have HO22 := Lib.hid (HO21.out.trans o22)
      clear o22 HO21 em1 em2
      have HFJ := Lib.hid (HFI.out.ok HO22.out)
      have HT1J := Lib.hid (HT1C.out.ok HO22.out)
      have HT2J := Lib.hid (HT2C.out.ok HO22.out)
      have HT3J := Lib.hid (HT3.out.ok HO22.out)
      have HE1J := Lib.hid (HE1I.out.ok HO22.out)
      have HOJ := Lib.hid (HOI.out.trans HO22.out)
      clear HFI HT1C HT2C HT3 HE1I HE2I HDI HOI HO22 HLF HL1F HL2F HL3F
      obtain ⟨wt, hwt⟩ : ∃ wt, many D.ps = wt := ⟨_, rfl⟩
      rw [hwt]
      have HWT := Lib.hid hwt
      have HWB : Hid (wt ≤ 20000) := Lib.hid (by rw [← hwt]; exact Nat.le_trans HINV.out.many_le HSZ2.out.us)
      clear hwt
      go_wp2_with (at_range; go_must (refine wpList_map_range rfl (.tmp 129) 55 rfl Try.underlying55 ff (mvs vF) rfl HFJ.out.1.1.mp ?_; intro w23 hr2 hg2 hs2; have HR2 := Lib.hid hr2; have HG2 := Lib.hid hg2; clear hr2 hg2 hs2))
      obtain ⟨r, hr⟩ : ∃ r, w22.heap.size = r := ⟨_, rfl⟩
      rw [hr] at HR2 ⊢
      have HRW : Hid (W.heap.size ≤ r) := Lib.hid (by rw [← hr]; exact HOJ.out.size)
      have HAFr : Hid (Apart BF (fun b => b = r)) := Lib.hid fun b h e => by have := HFJ.out.2 b h; omega
      have HA1r : Hid (Apart BT1 (fun b => b = r)) := Lib.hid fun b h e => by have := HT1J.out.2 b h; omega
      have HA2r : Hid (Apart BT2 (fun b => b = r)) := Lib.hid fun b h e => by have := HT2J.out.2 b h; omega
      have HA3r : Hid (Apart BT3 (fun b => b = r)) := Lib.hid fun b h e => by have := HT3J.out.2 b h; omega
      have HAEr : Hid (Apart B1x (fun b => b = r)) := Lib.hid fun b h e => by have := HE1J.out.bel b h; omega
      clear hr
      have HO23 : Hid (Ok w22 w23) := Lib.hid (ok_grown HG2.out (fun j e => by cases e))
      have HFK := Lib.hid (HFJ.out.ok HO23.out)
      have HT1K := Lib.hid (HT1J.out.ok HO23.out)
      have HT2K := Lib.hid (HT2J.out.ok HO23.out)
      have HT3K := Lib.hid (HT3J.out.ok HO23.out)
      have HE1K := Lib.hid (HE1J.out.ok HO23.out)
      have HOK := Lib.hid (HOJ.out.trans HO23.out)
      clear HFJ HT1J HT2J HT3J HE1J HOJ HO23 HG2
      have HKEY : Hid ((vF.map Prod.fst).Perm (D.fs.map Prod.fst)) := Lib.hid (by rw [all2_keys HFK.out.1.1.fs.each]; exact HFP.out.map _)
      have HTOT : Hid ((gones D k1 (vF.map Prod.fst) : Int) = (wt : Int) - min (wt : Int) k1) := Lib.hid (by rw [gones_all HINV.out k1 HP1.out.1 HKEY.out, HWT.out])
      obtain ⟨tot, htot⟩ : ∃ tot, gones D k1 (vF.map Prod.fst) = tot := ⟨_, rfl⟩
      have HTT := Lib.hid htot
      rw [htot] at HTOT
      clear htot
      go_frame
      go_loopw [21, 22, 23] (fun g _ _ wx => ∃ (todo : Tb Sl) (gn : Nat), g = .int .i64 (gn : Int) ∧ gn + gones D k1 (todo.map Prod.fst) = tot ∧ (∀ x, x ∈ todo → x ∈ vF) ∧ RangeV wx r ff (mvs vF) (mvs todo) ∧ Kp (fun b => b = r) w23 wx) (fun _ _ _ wx => wx.rangeLeft ff r)
      case atStart => exact ⟨vF, 0, rfl, by rw [HTT.out]; omega, fun _ h => h, HR2.out, Kp.refl _ _⟩
      case round =>
        obtain ⟨todo, gn, rfl, hgn, hsub, hrv, hkp⟩ := hrel
        have HGN := Lib.hid hgn
        have HSUB := Lib.hid hsub
        have HRV := Lib.hid hrv
        have HKP := Lib.hid hkp
        clear hgn hsub hrv hkp HR2
        have HFL := Lib.hid (HFK.out.kp HKP.out HAFr.out)
        have HT1L := Lib.hid (HT1K.out.kp HKP.out HA1r.out)
        have HT2L := Lib.hid (HT2K.out.kp HKP.out HA2r.out)
        have HT3L := Lib.hid (HT3K.out.kp HKP.out HA3r.out)
        go_wp2_with (at_next; refine wpList_map_next rfl (.tmp 130) rfl r ff (mvs vF) (mvs todo) rfl HRV.out ?_ ?_)
        · intro h0
          have h1 : todo = [] := List.map_eq_nil_iff.1 h0
          have HGT : Hid ((gn : Int) = (wt : Int) - min (wt : Int) k1) := Lib.hid (by
            have := HGN.out
            rw [h1] at this
            have e0 : gones D k1 (([] : Tb Sl).map Prod.fst) = 0 := rfl
            rw [e0] at this
            have := HTOT.out
            omega)
          clear h0 h1 HGN HTOT HTT HSUB HRV HFL HT2L HT3L
          have HE1L := Lib.hid (HE1K.out.kp HKP.out HAEr.out)
          have HOL : Hid (Ok W wr) := Lib.hid (((Kp.of (S := fun _ => False) HOK.out).then HKP.out (fun j hj e => by have := HRW.out; omega)).toOk (fun _ e => e.elim))
          go_wp2_with fail
          refine (crash_b HE1L.out (HSE1.out.small (by omega) (by omega)) 0 (by omega) (by omega)).mono ?_
          rintro _ w30 ⟨rfl, h1, h2⟩
          rw [crash_none _ rfl] at h1
          have HE1M := Lib.hid h1
          have HT1M := Lib.hid (HT1L.out.kp h2 HAT1.out.symm)
          have HOM : Hid (Ok W w30) := Lib.hid (((Kp.of (S := fun _ => False) HOL.out).then h2 (fun j hj e => by have := HB1x.out j e; omega)).toOk (fun _ e => e.elim))
          clear h1 h2 HE1L HT1L HOL
          go_wp2_with fail
          refine (files_b HE1M.out (HSE1.out.small (by omega) (by omega)) (HSE1.out.few (by omega))).mono ?_
          rintro _ w31 ⟨f4, v4, T4, rfl, h1, h2, h3⟩
          have HT4 := Lib.hid h1
          have HT4P := Lib.hid h2
          have HT1N := Lib.hid (HT1M.out.ok h3)
          have HON := Lib.hid (HOM.out.trans h3)
          clear h1 h2 h3 HT1M HOM HE1M
          generalize Ab w30 w31 = BT4 at *
          go_wp2_with (at_range; go_must (refine wpList_map_range rfl (.tmp 173) 55 rfl Try.underlying55 f1 (mvs v1) rfl HT1N.out.1.1.mp ?_; intro w32 hr2 hg2 hs2; have HR3 := Lib.hid hr2; have HG3 := Lib.hid hg2; clear hr2 hg2 hs2))
          obtain ⟨r2, hr⟩ : ∃ r2, w31.heap.size = r2 := ⟨_, rfl⟩
          rw [hr] at HR3 ⊢
          have HRW2 : Hid (W.heap.size ≤ r2) := Lib.hid (by rw [← hr]; exact HON.out.size)
          have HB1r : Hid (Apart BT1 (fun b => b = r2)) := Lib.hid fun b h e => by have := HT1N.out.2 b h; omega
          have HB4r : Hid (Apart BT4 (fun b => b = r2)) := Lib.hid fun b h e => by have := HT4.out.2 b h; omega
          clear hr
          have HO32 : Hid (Ok w31 w32) := Lib.hid (ok_grown HG3.out (fun j e => by cases e))
          have HT1P2 := Lib.hid (HT1N.out.ok HO32.out)
          have HT4P2 := Lib.hid (HT4.out.ok HO32.out)
          have HOP := Lib.hid (HON.out.trans HO32.out)
          clear HT1N HT4 HON HO32 HG3
          have HOC1 : Hid (Once (D1.crash k1).fs) := Lib.hid ((HL1.out.inv HINV.out).crash k1).once
          go_frame
          go_loopw [25, 26] (fun _ _ wy => ∃ todo : Tb Sl, (∀ x, x ∈ todo → x ∈ v1) ∧ RangeV wy r2 f1 (mvs v1) (mvs todo) ∧ Kp (fun b => b = r2) w32 wy) (fun _ _ wy => wy.rangeLeft f1 r2)
          case atStart => exact ⟨v1, fun _ h => h, HR3.out, Kp.refl _ _⟩
          case round =>
            obtain ⟨todo, hsub, hrv, hkp⟩ := hrel
            have HSUB := Lib.hid hsub
            have HRV := Lib.hid hrv
            have HKP2 := Lib.hid hkp
            clear hsub hrv hkp HR3
            have HT1Q := Lib.hid (HT1P2.out.kp HKP2.out HB1r.out)
            have HT4Q := Lib.hid (HT4P2.out.kp HKP2.out HB4r.out)
            go_wp2_with (at_next; refine wpList_map_next rfl (.tmp 174) rfl r2 f1 (mvs v1) (mvs todo) rfl HRV.out ?_ ?_)
            · intro h0
              clear h0
              have HOQ : Hid (Ok W wr) := Lib.hid (((Kp.of (S := fun _ => False) HOP.out).then HKP2.out (fun j hj e => by have := HRW2.out; omega)).toOk (fun _ e => e.elim))
              have hmn : (if k1 < (wt : Int) then k1 else (wt : Int)) = min (wt : Int) k1 := by split <;> omega
              have e5 : IntKind.i64.wrap ((wt : Int) - min (wt : Int) k1) = (wt : Int) - min (wt : Int) k1 := IntWalk.i64_in _ (by have := HWB.out; have := HP1.out; omega)
              have hge : ((gn : Int) == (wt : Int) - min (wt : Int) k1) = true := by rw [HGT.out]; exact beq_self_eq_true _
              go_wp2_with fail
              go_ret
              exact ⟨rfl, HOQ.out⟩
            · intro A' B' qk qv w33 ht hrv3 hg3 hs3 hen
              obtain ⟨A2', B2', s, e1, rfl, rfl, e2⟩ := mvs_mid ht
              simp only at e2 e1
              subst e2
              have hin : (qk, s) ∈ v1 := HSUB.out _ (by rw [e1]; simp)
              have HSB : Hid (∀ x, x ∈ A2' ++ B2' → x ∈ v1) := Lib.hid fun x hx => HSUB.out x (by
                rw [e1]
                rcases List.mem_append.1 hx with q | q
                · exact List.mem_append_left _ q
                · exact List.mem_append_right _ (List.mem_cons_of_mem _ q))
              have HRV3 : Hid (RangeV w33 r2 f1 (mvs v1) (mvs (A2' ++ B2'))) := Lib.hid (by rw [← mvs_app]; exact hrv3)
              have HMT : Hid (w33.rangeLeft f1 r2 < wr.rangeLeft f1 r2) := Lib.hid (by rw [HRV3.out.left, HRV.out.left, e1]; simp [mvs])
              have HKG : Hid (Kp (fun b => b = r2) wr w33) := Lib.hid (Kp.grown hg3 (fun j e => .inl (by simpa using e.symm)))
              have HT1S := HT1Q.out.kp HKG.out HB1r.out
              have HT4S := HT4Q.out.kp HKG.out HB4r.out
              obtain ⟨b, hb1, hb2, hb3⟩ := HT1S.ent (once_perm HT1P.out.symm HOC1.out) hin
              have hb4 : T4.at? qk = some b := by rw [at_perm (HT4P.out.trans HT1P.out.symm) (once_perm HT4P.out.symm HOC1.out), hb1]
              obtain ⟨s4, h4a, h4b, h4c⟩ := HT4S.get hb4
              have hbl : b.length ≤ 100000000 := by
                have h1 := file_le_used (fs := T1) qk
                rw [hb1, used_perm HT1P.out] at h1
                have := HSE1.out.us
                simp only [Option.getD_some] at h1
                omega
              have hlk := fb_look HT4S h4a
              have hsm := sameBytes_any (.slice s4.A s4.n s4.c) (.slice s.A s.n s.c) b b w33 (own_in h4b hbl) (own_in hb2 hbl)
              rw [same_true rfl] at hsm
              clear ht hrv3 hg3 hs3 e1 hin HT1S HT4S hb1 hb2 hb3 hb4 h4a h4b h4c hbl
              unfold Sl.v at hen
              go_wp2_with fail
              refine hsm.mono ?_
              clear hsm hlk hen
              rintro _ w34 ⟨rfl, o34⟩
              have HO34 := Lib.hid o34
              clear o34
              go_wp2_with fail
              have hrv8 : RangeV w34 r2 f1 (mvs v1) (mvs (A2' ++ B2')) := HRV3.out.block (HO34.out.block f1 HRV3.out.map.lt) (HO34.out.block r2 HRV3.out.lt)
              refine ⟨⟨A2' ++ B2', HSB.out, hrv8, (HKP2.out.then HKG.out (fun _ _ e => e)).ok HO34.out⟩, ?_⟩
              rw [hrv8.left, ← HRV3.out.left]; exact HMT.out
        · intro A' B' qk qv w24 ht hrv3 hg3 hs3 hen
          obtain ⟨A2', B2', s, e1, rfl, rfl, e2⟩ := mvs_mid ht
          simp only at e2 e1
          subst e2
          have hin : (qk, s) ∈ vF := HSUB.out _ (by rw [e1]; simp)
          have HSB : Hid (∀ x, x ∈ A2' ++ B2' → x ∈ vF) := Lib.hid fun x hx => HSUB.out x (by
            rw [e1]
            rcases List.mem_append.1 hx with q | q
            · exact List.mem_append_left _ q
            · exact List.mem_append_right _ (List.mem_cons_of_mem _ q))
          have HRV3 : Hid (RangeV w24 r ff (mvs vF) (mvs (A2' ++ B2'))) := Lib.hid (by rw [← mvs_app]; exact hrv3)
          have HMT : Hid (w24.rangeLeft ff r < wr.rangeLeft ff r) := Lib.hid (by rw [HRV3.out.left, HRV.out.left, e1]; simp [mvs])
          have HKG : Hid (Kp (fun b => b = r) wr w24) := Lib.hid (Kp.grown hg3 (fun j e => .inl (by simpa using e.symm)))
          have HGM : Hid (gn + goneK D k1 qk + gones D k1 ((A2' ++ B2').map Prod.fst) = tot) := Lib.hid (by
            have := HGN.out
            rw [e1, gones_mid] at this
            simp only at this
            omega)
          have HFS := HFL.out.kp HKG.out HAFr.out
          have HT1S := Lib.hid (HT1L.out.kp HKG.out HA1r.out)
          have HT2S := Lib.hid (HT2L.out.kp HKG.out HA2r.out)
          have HT3S := Lib.hid (HT3L.out.kp HKG.out HA3r.out)
          obtain ⟨b, hb1, hb2, hb3⟩ := HFS.ent (once_perm HFP.out.symm HINV.out.once) hin
          have hb4 : D.fs.at? qk = some b := by rw [← at_perm HFP.out (once_perm HFP.out.symm HINV.out.once), hb1]
          have hbf : D.file qk = b := by unfold Dk.file; rw [hb4]; rfl
          have ha1 : T1.at? qk = some (leftK D k1 qk) := by
            rw [at_perm HT1P.out (once_perm HT1P.out.symm ((HL1.out.inv HINV.out).crash k1).once), HL1.out.crash_at HINV.out, hb4]; rfl
          have ha2 : T2.at? qk = some (leftK D (k1 + k2) qk) := by
            rw [at_perm HT2P.out (once_perm HT2P.out.symm ((HL2.out.inv HINV.out).crash (k1 + k2)).once), HL2.out.crash_at HINV.out, hb4]; rfl
          have ha3 : T3.at? qk = some b := by
            rw [at_perm HT3P.out (once_perm HT3P.out.symm HINV.out.once), hb4]
          obtain ⟨s1, p1, p2, p3⟩ := HT1S.out.get ha1
          obtain ⟨s2, p4, p5, p6⟩ := HT2S.out.get ha2
          obtain ⟨s3, p7, p8, p9⟩ := HT3S.out.get ha3
          have hlen : (leftK D k1 qk).length + goneK D k1 qk = b.length := by have := leftK_len HINV.out k1 qk; rw [hbf] at this; exact this
          have hlen2 : (leftK D (k1 + k2) qk).length ≤ b.length := by have := leftK_len HINV.out (k1 + k2) qk; rw [hbf] at this; omega
          have hbl : b.length ≤ 20000 := by
            have h1 := file_le_used (fs := D.fs) qk
            rw [hb4] at h1
            have := HSZ2.out.us
            simp only [Option.getD_some] at h1
            omega
          have HBG1 : Hid (beginsB (leftK D k1 qk) (leftK D (k1 + k2) qk) = true) := Lib.hid (left_begins HINV.out (by have := HP2.out; omega) qk)
          have HBG2 : Hid (beginsB (leftK D (k1 + k2) qk) b = true) := Lib.hid (by have := left_begins2 HINV.out (k1 + k2) qk; rwa [hbf] at this)
          have HQ1 := Lib.hid p1
          have HQ2 := Lib.hid p4
          have HQ3 := Lib.hid p7
          have HI1 := Lib.hid p2
          have HI2 := Lib.hid p5
          have HI3 := Lib.hid p8
          have HI0 := Lib.hid hb2
          have HNS : Hid (s.n = b.length ∧ s1.n = (leftK D k1 qk).length ∧ (leftK D k1 qk).length + goneK D k1 qk = b.length ∧ b.length ≤ 20000 ∧ (leftK D (k1 + k2) qk).length ≤ b.length) := Lib.hid ⟨hb3, p3, hlen, hbl, hlen2⟩
          clear ht hrv3 hg3 hs3 e1 hin HFS hb1 hb2 hb3 hb4 hbf ha1 ha2 ha3 p1 p2 p3 p4 p5 p6 p7 p8 p9 hlen hlen2 hbl
          have hc1 := begins_f (.slice s1.A s1.n s1.c) (.slice s2.A s2.n s2.c) (leftK D k1 qk) (leftK D (k1 + k2) qk) w24 (own_in HI1.out (by have := HNS.out; omega)) (own_in HI2.out (by have := HNS.out; omega))
          rw [HBG1.out] at hc1
          have hk1 := fb_look HT1S.out HQ1.out
          have hk2 := fb_look HT2S.out HQ2.out
          unfold Sl.v at hen
          go_wp2_with fail
          refine hc1.mono ?_
          clear hc1 hk1 hk2 hen
          rintro _ w25 ⟨rfl, o25⟩
          have HO25 := Lib.hid o25
          clear o25
          have hc2 := begins_f (.slice s2.A s2.n s2.c) (.slice s.A s.n s.c) (leftK D (k1 + k2) qk) b w25 (own_in (OwnN.kept HI2.out fun g e => HO25.out.block g (owns_lt HI2.out e)) (by have := HNS.out; omega)) (own_in (OwnN.kept HI0.out fun g e => HO25.out.block g (owns_lt HI0.out e)) (by have := HNS.out; omega))
          rw [HBG2.out] at hc2
          have hk2 := fb_look (HT2S.out.ok HO25.out) HQ2.out
          go_wp2_with fail
          refine hc2.mono ?_
          clear hc2 hk2
          rintro _ w26 ⟨rfl, o26⟩
          have HO26 := Lib.hid (HO25.out.trans o26)
          clear o26 HO25
          have hc3 := sameBytes_any (.slice s3.A s3.n s3.c) (.slice s.A s.n s.c) b b w26 (own_in (OwnN.kept HI3.out fun g e => HO26.out.block g (owns_lt HI3.out e)) (by have := HNS.out; omega)) (own_in (OwnN.kept HI0.out fun g e => HO26.out.block g (owns_lt HI0.out e)) (by have := HNS.out; omega))
          rw [same_true rfl] at hc3
          have hk3 := fb_look (HT3S.out.ok HO26.out) HQ3.out
          go_wp2_with fail
          refine hc3.mono ?_
          clear hc3 hk3
          rintro _ w27 ⟨rfl, o27⟩
          have HO27 := Lib.hid (HO26.out.trans o27)
          clear o27 HO26
          have hk1 := fb_look (HT1S.out.ok HO27.out) HQ1.out
          have hgt : gn ≤ 20000 := by have := HGM.out; have := HTOT.out; have := HWB.out; have := HP1.out; omega
          have e6 : IntKind.i64.wrap ((gn : Int) + (s.n : Int)) = (gn : Int) + (s.n : Int) := IntWalk.i64_in _ (by have := HNS.out; omega)
          have e7 : IntKind.i64.wrap ((gn : Int) + (s.n : Int) - (s1.n : Int)) = ((gn + goneK D k1 qk : Nat) : Int) := by
            rw [IntWalk.i64_in _ (by have := HNS.out; omega)]
            have := HNS.out; omega
          clear hgt
          go_wp2_with fail
          have hrv8 : RangeV w27 r ff (mvs vF) (mvs (A2' ++ B2')) := HRV3.out.block (HO27.out.block ff HRV3.out.map.lt) (HO27.out.block r HRV3.out.lt)
          refine ⟨⟨A2' ++ B2', gn + goneK D k1 qk, rfl, HGM.out, HSB.out, hrv8, (HKP.out.then HKG.out (fun _ _ e => e)).ok HO27.out⟩, ?_⟩
          rw [hrv8.left, ← HRV3.out.left]; exact HMT.out
end Go.Proofs.Ytfchjdhjbepocaa
