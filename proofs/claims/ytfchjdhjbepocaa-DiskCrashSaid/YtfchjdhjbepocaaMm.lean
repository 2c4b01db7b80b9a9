/- Disks: settle, Sync. -/
import Derived.Test.YtfchjdhjbepocaaMl
namespace Go.Proofs.Ytfchjdhjbepocaa
open Go Go.RowKit

theorem settle_stay (ps : List Pc) (k : Str) : stay (nmB k) ps = settle ps k := by
  unfold stay settle nmB
  congr 1
  funext r
  by_cases h : r.1 = k <;> simp [h]
theorem settle_len (ps : List Pc) (k : Str) : (settle ps k).length ≤ ps.length := List.length_filter_le _ _
set_option maxRecDepth 100000 in
set_option maxHeartbeats 2000000 in
theorem settle_f (p mb : Nat) (size : Int) (pv : Sl) (ps : List Pc) (k : Str) (W : World) (hst : W.heap[p]? = some (.cells #[pv.v, .int .i64 size, .map (some mb)] 57 (0, 0))) (h : OwnPc W pv ps) (hl : ps.length ≤ 1000000) :
    Calls Try.prog 77 #[.pointer (some ⟨p, 0, none⟩), .string k] W (WaitP p mb size pv (settle ps k) W) := by
  have hpn : pv.v.ownBlock ≠ some p := fun e => by
    obtain ⟨cur, hc⟩ := owns_ty h e
    have := ty_ne hc hst
    omega
  have HPN := Lib.hid hpn
  have HOA : Hid (Ok W (W.alloc (.cells #[.string k] 9))) := Lib.hid ((Ok.refl W).alloc _)
  have HPC := Lib.hid (OwnQ.of h)
  have HLN : Hid (pv.n ≤ 1000000) := Lib.hid (by rw [← (OwnQ.of h).1]; exact hl)
  have HST : Hid ((W.alloc (.cells #[.string k] 9)).heap[p]? = some (.cells #[pv.v, .int .i64 size, .map (some mb)] 57 (0, 0))) := Lib.hid (ok_blk HOA.out hst)
  have hz0 : (W.alloc (.cells #[.string k] 9)).cell? ⟨W.heap.size, 0, none⟩ = some (.string k) := by
    have h := heap_alloc_new W (.cells #[.string k] 9)
    unfold World.cell?; simp only [h]; rfl
  have HLT : Hid (∀ a, pv.A = some a → W.heap.size ≠ a.block) := Lib.hid fun a e q => by
    have := owns_lt h (show pv.v.ownBlock = some a.block by unfold Sl.v Value.ownBlock; rw [e])
    omega
  have HSS := Lib.hid (settle_stay ps k)
  clear h hl hst hpn
  go_enter Try.func77, Try.ntmps77
  go_upto_region 1 with fail
  obtain ⟨z, hz⟩ : ∃ z, W.heap.size = z := ⟨_, rfl⟩
  rw [hz] at hz0 HLT ⊢
  have HZ0 := Lib.hid hz0
  clear hz hz0
  have HPQ := Lib.hid (HPC.out.ok HOA.out)
  generalize W.alloc (.cells #[.string k] 9) = w0 at *
  have c0 := (st_cell HST.out).1
  unfold Sl.v at c0
  go_wp2_with fail
  refine (delN_f z k pv.A pv.n pv.c ps w0 HPQ.out HLN.out HZ0.out HLT.out).mono ?_
  rintro _ w1 ⟨rfl, hq, hg⟩
  have HQ := Lib.hid hq
  have HG := Lib.hid hg
  have hst1 := (hg.block p (Array.getElem?_eq_some_iff.1 HST.out).1 (fun e => HPN.out e.symm)).trans HST.out
  have HST1 := Lib.hid hst1
  have d0 := (st_cell hst1).1
  have f0 := (st_cell hst1).2
  unfold Sl.v at d0
  clear hq hg hst1 c0
  rw [HSS.out] at HQ ⊢
  go_wp2_with fail
  go_end0
  have HGO := HOA.out
  have HQP := HQ.out.pc
  refine ⟨⟨pv.A, (settle ps k).length, pv.c⟩, rfl, st_set HST1.out, ?_, ?_, ?_⟩
  · exact blk_eq HQP fun g e => Below.heap_setCell _ ⟨p, 0, none⟩ _ g (fun q => by
      obtain ⟨cur, hc⟩ := owns_ty HQP e
      have := HST1.out
      rw [q] at hc
      have := ty_ne hc this
      omega)
  · intro g e
    exact .inl (by revert e; unfold Sl.v; cases pv.A <;> exact id)
  · exact ((Kp.of HGO).then (Kp.grown (S := fun b => b = p ∨ pv.v.ownBlock = some b) HG.out (fun j e => .inl (.inr (by unfold Sl.v; exact e)))) (fun _ _ e => e)).set (.inr (.inl rfl)) 0 _
theorem DkAt.syncd {p : Nat} {D : Dk} {pv : Sl} {mb : Nat} {vs : Tb Sl} {w w' : World} {pv' : Sl} (h : DkAt p D pv mb vs w) (k : Str) (hst : w'.heap[p]? = some (.cells #[pv'.v, .int .i64 D.size, .map (some mb)] 57 (0, 0))) (hps : OwnPc w' pv' (settle D.ps k))
    (hk : Kp (fun b => b = p ∨ pv.v.ownBlock = some b) w w') : DkAt p (D.sync k) pv' mb vs w' :=
  h.waits pv' (settle D.ps k) hst hps (fun b hb => by
    rcases hb with rfl | ⟨q, hq, e⟩
    · exact hk.block _ h.mp.lt (fun q => by rcases q with q | q; exact h.p_mb q.symm; exact h.mb_ps q)
    · exact hk.block _ (h.lt (.inr (.inr (.inr ⟨q, hq, e⟩)))) (fun r => by
        have := h.file_ne hq e
        rcases r with r | r
        · exact this.1 r
        · exact this.2.2 r)) (h.inv.sync k)
/-- What Sync of one file leaves. -/
def SyncP (p mb : Nat) (vs : Tb Sl) (D' : Dk) (pv : Sl) (W : World) (e : Ending) (w' : World) : Prop := ∃ pv' : Sl, e = .returned (.tuple #[]) ∧ DkAt p D' pv' mb vs w' ∧ From W pv.v pv'.v ∧ Kp (fun b => b = p ∨ pv.v.ownBlock = some b) W w'
set_option maxRecDepth 100000 in
set_option maxHeartbeats 2000000 in
theorem sync1_f (p : Nat) (D : Dk) (pv : Sl) (mb : Nat) (vs : Tb Sl) (k : Str) (z : Nat) (W : World) (h : DkAt p D pv mb vs W) (hl : D.ps.length ≤ 1000000) (z0 : W.cell? ⟨z, 0, none⟩ = some (.pointer (some ⟨p, 0, none⟩))) :
    Calls Try.prog 76 #[.string k, .pointer (some ⟨z, 0, none⟩)] W (SyncP p mb vs (D.sync k) pv W) := by
  have hs := settle_f p mb D.size pv D.ps k W h.st h.ps hl
  have HD := Lib.hid h
  clear h hl
  go_enter Try.func76, Try.ntmps76
  go_wp2_with fail
  refine hs.mono ?_
  clear hs
  rintro _ w1 ⟨pv', rfl, h1, h2, h3, h4⟩
  have HR : Hid (SyncP p mb vs (D.sync k) pv W (.returned (.tuple #[])) w1) := Lib.hid ⟨pv', rfl, HD.out.syncd k h1 h2 h4, h3, h4⟩
  clear h1 h2 h3 h4 z0
  go_wp2_with fail
  go_end0
  exact HR.out
/-- Names, one behind the other, up to the first that there is not. -/
def Dk.syncs (D : Dk) : List Str → Dk × Bool
  | [] => (D, true)
  | k :: r => if (D.fs.at? k).isSome = true then (D.sync k).syncs r else (D, false)
theorem Dk.syncs_cons (D : Dk) (k : Str) (r : List Str) : D.syncs (k :: r) = if (D.fs.at? k).isSome = true then (D.sync k).syncs r else (D, false) := rfl
theorem Dk.syncs_append (D : Dk) (a b : List Str) : D.syncs (a ++ b) = if (D.syncs a).2 = true then (D.syncs a).1.syncs b else D.syncs a := by
  induction a generalizing D with
  | nil => rfl
  | cons k a ih =>
    rw [List.cons_append, Dk.syncs_cons, Dk.syncs_cons]
    by_cases h : (D.fs.at? k).isSome = true
    · rw [if_pos h, if_pos h, ih]
    · rw [if_neg h, if_neg h]; rfl
def txA (l : List Str) (j : Nat) : Str := l.getD j ByteArray.empty
theorem tx_take (xs : List Str) (k : Nat) (h : k < xs.length) : xs.take (k + 1) = xs.take k ++ [txA xs k] := by
  rw [List.take_add_one, List.getElem?_eq_getElem h]
  unfold txA
  rw [List.getD_eq_getElem?_getD, List.getElem?_eq_getElem h]
  rfl
/-- Texts in memory, off the blocks of S. -/
def TxIn (S : Nat → Prop) (w : World) (A : Option Addr) (l : List Str) : Prop := ∀ j, j < l.length → ∃ b off, A = some ⟨b, off, none⟩ ∧ ¬ S b ∧ w.cell? ⟨b, off + j, none⟩ = some (.string (txA l j))
theorem TxIn.kp {S : Nat → Prop} {w w' : World} {A : Option Addr} {l : List Str} (h : TxIn S w A l) (k : Kp S w w') : TxIn S w' A l := fun j hj => by
  obtain ⟨b, off, e, hn, hc⟩ := h j hj
  exact ⟨b, off, e, hn, k.cell hc hn⟩
theorem TxIn.mono {S S' : Nat → Prop} {w : World} {A : Option Addr} {l : List Str} (h : TxIn S w A l) (k : ∀ b, S' b → S b) : TxIn S' w A l := fun j hj => by
  obtain ⟨b, off, e, hn, hc⟩ := h j hj
  exact ⟨b, off, e, fun q => hn (k b q), hc⟩
theorem call76 (args : Array Value) (w : World) : (callFunc 76 args).run Try.prog w = .ok (.enter 76 args) w := by
  have hn : ¬ Try.f76.name = "runtime.NumGoroutine" := by decide
  have hb : ¬ Try.f76.body = none := fun h => by
    have h2 : Try.f76.body.isNone = false := by kernel_rfl
    rw [h] at h2; cases h2
  simp [callFunc, go_sem, hn, hb]
theorem syncs_len (D : Dk) (l : List Str) : (D.syncs l).1.ps.length ≤ D.ps.length ∧ (D.syncs l).1.fs = D.fs ∧ (D.syncs l).1.size = D.size := by
  induction l generalizing D with
  | nil => exact ⟨Nat.le_refl _, rfl, rfl⟩
  | cons k l ih =>
    unfold Dk.syncs
    split
    · have := ih (D.sync k)
      exact ⟨Nat.le_trans this.1 (settle_len _ _), this.2.1, this.2.2⟩
    · exact ⟨Nat.le_refl _, rfl, rfl⟩
def errOf (b : Bool) : Int := if b then 0 else 6
/-- What Sync of files leaves. -/
def SyncsP (p mb : Nat) (vs : Tb Sl) (D : Dk) (l : List Str) (pv : Sl) (W : World) (e : Ending) (w' : World) : Prop := ∃ pv' : Sl, e = .returned (.int .i64 (errOf (D.syncs l).2)) ∧ DkAt p (D.syncs l).1 pv' mb vs w' ∧ From W pv.v pv'.v ∧ Kp (fun b => b = p ∨ pv.v.ownBlock = some b) W w'
set_option maxRecDepth 100000 in
set_option maxHeartbeats 2000000 in
theorem eachS_f (p : Nat) (D : Dk) (pv : Sl) (mb : Nat) (vs : Tb Sl) (A : Option Addr) (n c : Nat) (l : List Str) (z : Nat) (W : World) (h : DkAt p D pv mb vs W) (hl : D.ps.length ≤ 1000000) (hn : l.length = n) (hn6 : n ≤ 1000000)
    (ht : TxIn (fun b => b = p ∨ pv.v.ownBlock = some b) W A l) (z0 : W.cell? ⟨z, 0, none⟩ = some (.pointer (some ⟨p, 0, none⟩))) (hz : ¬ (z = p ∨ pv.v.ownBlock = some z)) :
    Calls Try.prog 75 #[.pointer (some ⟨p, 0, none⟩), .slice A n c, .func (.func 76) #[] #[.pointer (some ⟨z, 0, none⟩)]] W (SyncsP p mb vs D l pv W) := by
  have hno := none_f p mb W h.c2
  have HD := Lib.hid h
  have HL := Lib.hid hl
  have HN := Lib.hid hn
  have HN6 := Lib.hid hn6
  have HT := Lib.hid ht
  have HZ0 := Lib.hid z0
  have HZ := Lib.hid hz
  have hcall := call76
  clear h hl hn hn6 ht z0 hz
  go_enter Try.func75, Try.ntmps75
  go_wp2_with fail
  refine hno.mono ?_
  rintro _ w1 ⟨rfl, rfl⟩
  clear hno
  go_wp2_with fail
  go_loopw [15] (fun i wr => ∃ (k : Nat) (pv' : Sl) (Dx : Dk), k ≤ n ∧ i = .int .i64 (k : Int) ∧ D.syncs (l.take k) = (Dx, true) ∧ DkAt p Dx pv' mb vs wr ∧ From W pv.v pv'.v ∧ Kp (fun b => b = p ∨ pv.v.ownBlock = some b) W wr) (fun i _ => n - (intOf i).toNat)
  case atStart => exact ⟨0, pv, D, Nat.zero_le _, rfl, rfl, HD.out, From.refl _ _, Kp.refl _ _⟩
  case round =>
    obtain ⟨k, pv', Dx, hk, rfl, hsy, hdk, hfr, hkp⟩ := hrel
    have HSY := Lib.hid hsy
    have HDX := Lib.hid hdk
    have HFR := Lib.hid hfr
    have HKP := Lib.hid hkp
    clear hsy hdk hfr hkp
    by_cases hlt : k < n
    · have d1 : decide (k < n) = true := decide_eq_true hlt
      obtain ⟨b, off, rfl, -, x0⟩ := HT.out.kp HKP.out k (by rw [HN.out]; exact hlt)
      have HTK := Lib.hid (tx_take l k (by rw [HN.out]; exact hlt))
      have HDR := Lib.hid (Eq.symm (List.take_append_drop (k + 1) l))
      have hi0 : (0 : Int) ≤ (k : Int) := Int.natCast_nonneg _
      have hi1 : (k : Int) < (n : Int) := by omega
      have e1 : IntKind.i64.wrap ((k : Int) + 1) = (k : Int) + 1 := IntWalk.i64_in _ (by have := HN6.out; omega)
      have HMS : Hid (n - ((k : Int) + 1).toNat < n - (k : Int).toNat) := Lib.hid (by omega)
      generalize txA l k = nm at *
      have c2 := HDX.out.c2
      obtain ⟨s, -, hs1, hs2, -, -, -⟩ := HDX.out.file nm
      have hg := run_get (t := 55) (k := 9) Try.underlying55 Try.underlying9 wr (zero48 wr) mb (mvs vs) HDX.out.mp nm true
      rw [hs1, hs2] at hg
      simp only [if_true] at hg
      unfold Sl.v at hg
      clear hs1 hs2
      have HPL : Hid (Dx.ps.length ≤ 1000000) := Lib.hid (by have h1 := (syncs_len D (l.take k)).1; rw [HSY.out] at h1; exact Nat.le_trans h1 HL.out)
      have hz1 := HKP.out.cell HZ0.out HZ.out
      have hone := sync1_f p Dx pv' mb vs nm z wr HDX.out HPL.out hz1
      obtain ⟨is, his⟩ : ∃ is, (Dx.fs.at? nm).isSome = is := ⟨_, rfl⟩
      rw [his] at hg
      have HIS := Lib.hid his
      clear his hz1
      cases is with
      | true =>
        have HS2 : Hid (D.syncs (l.take (k + 1)) = (Dx.sync nm, true)) := Lib.hid (by
          rw [HTK.out, Dk.syncs_append, HSY.out, if_pos rfl]
          show (if (Dx.fs.at? nm).isSome = true then _ else _) = _
          rw [if_pos HIS.out]; rfl)
        go_wp2_with fail
        refine hone.mono ?_
        clear hone hg x0 c2
        rintro _ w2 ⟨pv2, rfl, h1, h2, h3⟩
        have HR1 := Lib.hid h1
        have HR2 : Hid (From W pv.v pv2.v) := Lib.hid (HFR.out.trans h2 HKP.out.size)
        have HR3 : Hid (Kp (fun b => b = p ∨ pv.v.ownBlock = some b) W w2) := Lib.hid (HKP.out.then h3 (fun j hj e => by
          rcases e with e | e
          · exact .inl e
          · rcases HFR.out j e with q | q
            · exact .inr q
            · omega))
        clear h1 h2 h3
        go_wp2_with fail
        exact ⟨⟨k + 1, pv2, Dx.sync nm, hlt, rfl, HS2.out, HR1.out, HR2.out, HR3.out⟩, HMS.out⟩
      | false =>
        have HS2 : Hid (D.syncs l = (Dx, false)) := Lib.hid (by
          rw [HDR.out, HTK.out, Dk.syncs_append, Dk.syncs_append, HSY.out, if_pos rfl]
          have : (Dx, true).1.syncs [nm] = (Dx, false) := by
            show (if (Dx.fs.at? nm).isSome = true then _ else _) = _
            rw [if_neg (by rw [HIS.out]; decide)]
          rw [this]; rfl)
        clear hone
        go_wp2_with fail
        go_ret
        refine ⟨pv', ?_, ?_, HFR.out, HKP.out⟩
        · rw [HS2.out]; rfl
        · rw [HS2.out]; exact HDX.out
    · have d1 : decide (k < n) = false := decide_eq_false hlt
      obtain rfl : k = n := by omega
      have HS2 : Hid (D.syncs l = (Dx, true)) := Lib.hid (by rw [← HSY.out, List.take_of_length_le (by rw [HN.out]; exact Nat.le_refl _)])
      go_wp2_with fail
      go_ret
      refine ⟨pv', ?_, ?_, HFR.out, HKP.out⟩
      · rw [HS2.out]; rfl
      · rw [HS2.out]; exact HDX.out
end Go.Proofs.Ytfchjdhjbepocaa
