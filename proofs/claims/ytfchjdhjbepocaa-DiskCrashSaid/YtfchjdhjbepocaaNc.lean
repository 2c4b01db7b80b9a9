/- Disks: Remove. -/
import Derived.Test.YtfchjdhjbepocaaNb
namespace Go.Proofs.Ytfchjdhjbepocaa
open Go Go.RowKit

set_option maxRecDepth 100000 in
set_option maxHeartbeats 2000000 in
theorem rem1_f (p : Nat) (D : Dk) (pv : Sl) (mb : Nat) (vs : Tb Sl) (k : Str) (z : Nat) (W : World) (h : DkAt p D pv mb vs W) (hl : D.ps.length ≤ 1000000) (z0 : W.cell? ⟨z, 0, none⟩ = some (.pointer (some ⟨p, 0, none⟩))) (hz : ¬ (z = p ∨ pv.v.ownBlock = some z)) :
    Calls Try.prog 80 #[.string k, .pointer (some ⟨z, 0, none⟩)] W (CrashP p mb (Blk p pv mb vs) (D.rem k) W) := by
  have hs := settle_f p mb D.size pv D.ps k W h.st h.ps hl
  have HD := Lib.hid h
  have HZ0 := Lib.hid z0
  have HZ := Lib.hid hz
  clear h hl hz
  go_enter Try.func80, Try.ntmps80
  go_wp2_with fail
  refine hs.mono ?_
  clear hs
  rintro _ w2 ⟨pv', rfl, h1, h2, h3, h4⟩
  have H1 := Lib.hid h1
  have H2 := Lib.hid h2
  have H3 := Lib.hid h3
  have H4 := Lib.hid h4
  have z1 := h4.cell HZ0.out HZ.out
  clear h1 h2 h3 h4 z0
  have HMV : Hid (MapV w2 mb (mvs vs)) := Lib.hid (HD.out.mp.block (H4.out.block mb HD.out.mp.lt (fun q => by rcases q with q | q; exact HD.out.p_mb q.symm; exact HD.out.mb_ps q)))
  have c2 : w2.cell? ⟨p, 2, none⟩ = some (.map (some mb)) := by unfold World.cell?; simp only [H1.out]; rfl
  obtain ⟨w3, hdel, hm3, hg3, -⟩ := run_del (t := 55) (k := 9) Try.underlying55 Try.underlying9 w2 mb (mvs vs) HMV.out k #[55, 9] rfl 0
  have HM3 := Lib.hid hm3
  have HG3 := Lib.hid hg3
  clear hm3 hg3
  go_wp2_with fail
  go_end0
  clear hdel
  have hG := HG3.out
  have hkk : ∀ g, g ≠ p → g ≠ mb → pv.v.ownBlock ≠ some g → g < W.heap.size → w3.heap[g]? = W.heap[g]? := fun g h1 h2 h3 h4 => by
    rw [hG.block g (Nat.lt_of_lt_of_le h4 H4.out.size) (fun e => h2 (by simpa using e)), H4.out.block g h4 (fun q => by rcases q with q | q; exact h1 q; exact h3 q)]
  have hst5 : w3.heap[p]? = some (.cells #[pv'.v, .int .i64 D.size, .map (some mb)] 57 (0, 0)) := by
    have hl := (Array.getElem?_eq_some_iff.1 H1.out).1
    rw [hG.block p hl (fun e => HD.out.p_mb (by simpa using e))]
    exact H1.out
  have hps5 : OwnPc w3 pv' (settle D.ps k) := blk_eq H2.out fun g e => hG.block g (owns_lt H2.out e) (fun q => by
    rcases H3.out g e with r | r
    · exact HD.out.mb_ps (by rw [r]; simpa using q)
    · have := HD.out.mp.lt; have : g = mb := (by simpa using q); omega)
  refine ⟨rfl, pv', vs.del k, HD.out.delF k pv' _ HM3.out hst5 hps5 (fun q hq _ g e => ?_) (HD.out.inv.rem k), fun g hb => blk_del H3.out hb, ?_⟩
  · have := HD.out.file_ne hq e
    exact hkk g this.1 this.2.1 this.2.2 (HD.out.lt (.inr (.inr (.inr ⟨q, hq, e⟩))))
  · exact (H4.out.mono (S' := Blk p pv mb vs) (fun j _ e => e.elim .inl (fun q => .inr (.inr (.inl q))))).then (Kp.grown (S := Blk p pv mb vs) hG (fun j e => .inl (.inr (.inl (by simpa using e.symm))))) (fun _ _ e => e)
def Dk.rems (D : Dk) : List Str → Dk × Bool
  | [] => (D, true)
  | k :: r => if (D.fs.at? k).isSome = true then (D.rem k).rems r else (D, false)
theorem Dk.rems_cons (D : Dk) (k : Str) (r : List Str) : D.rems (k :: r) = if (D.fs.at? k).isSome = true then (D.rem k).rems r else (D, false) := rfl
theorem Dk.rems_append (D : Dk) (a b : List Str) : D.rems (a ++ b) = if (D.rems a).2 = true then (D.rems a).1.rems b else D.rems a := by
  induction a generalizing D with
  | nil => rfl
  | cons k a ih =>
    rw [List.cons_append, Dk.rems_cons, Dk.rems_cons]
    by_cases h : (D.fs.at? k).isSome = true
    · rw [if_pos h, if_pos h, ih]
    · rw [if_neg h, if_neg h]; rfl
theorem rems_len (D : Dk) (l : List Str) : (D.rems l).1.ps.length ≤ D.ps.length ∧ (D.rems l).1.size = D.size := by
  induction l generalizing D with
  | nil => exact ⟨Nat.le_refl _, rfl⟩
  | cons k l ih =>
    rw [Dk.rems_cons]
    split
    · have := ih (D.rem k)
      exact ⟨Nat.le_trans this.1 (settle_len _ _), this.2⟩
    · exact ⟨Nat.le_refl _, rfl⟩
theorem call80 (args : Array Value) (w : World) : (callFunc 80 args).run Try.prog w = .ok (.enter 80 args) w := by
  have hn : ¬ Try.f80.name = "runtime.NumGoroutine" := by decide
  have hb : ¬ Try.f80.body = none := fun h => by
    have h2 : Try.f80.body.isNone = false := by kernel_rfl
    rw [h] at h2; cases h2
  simp [callFunc, go_sem, hn, hb]
def RemsP (p mb : Nat) (S : Nat → Prop) (D : Dk) (l : List Str) (W : World) (e : Ending) (w' : World) : Prop := e = .returned (.int .i64 (errOf (D.rems l).2)) ∧ ∃ pv' vs', DkAt p (D.rems l).1 pv' mb vs' w' ∧ (∀ b, Blk p pv' mb vs' b → New S W b) ∧ Kp S W w'
set_option maxRecDepth 100000 in
set_option maxHeartbeats 2000000 in
theorem eachR_f (p : Nat) (D : Dk) (pv : Sl) (mb : Nat) (vs : Tb Sl) (A : Option Addr) (n c : Nat) (l : List Str) (z : Nat) (W : World) (h : DkAt p D pv mb vs W) (hl : D.ps.length ≤ 1000000) (hn : l.length = n) (hn6 : n ≤ 1000000)
    (ht : TxIn (Blk p pv mb vs) W A l) (z0 : W.cell? ⟨z, 0, none⟩ = some (.pointer (some ⟨p, 0, none⟩))) (hz : ¬ Blk p pv mb vs z) :
    Calls Try.prog 75 #[.pointer (some ⟨p, 0, none⟩), .slice A n c, .func (.func 80) #[] #[.pointer (some ⟨z, 0, none⟩)]] W (RemsP p mb (Blk p pv mb vs) D l W) := by
  have hno := none_f p mb W h.c2
  have HD := Lib.hid h
  have HL := Lib.hid hl
  have HN := Lib.hid hn
  have HN6 := Lib.hid hn6
  have HT := Lib.hid ht
  have HZ0 := Lib.hid z0
  have HZ := Lib.hid hz
  have hcall := call80
  clear h hl hn hn6 ht z0 hz
  go_enter Try.func75, Try.ntmps75
  go_wp2_with fail
  refine hno.mono ?_
  rintro _ w1 ⟨rfl, rfl⟩
  clear hno
  go_wp2_with fail
  go_loopw [15] (fun i wr => ∃ (k : Nat) (pv' : Sl) (vs' : Tb Sl) (Dx : Dk), k ≤ n ∧ i = .int .i64 (k : Int) ∧ D.rems (l.take k) = (Dx, true) ∧ DkAt p Dx pv' mb vs' wr ∧ (∀ b, Blk p pv' mb vs' b → New (Blk p pv mb vs) W b) ∧ Kp (Blk p pv mb vs) W wr) (fun i _ => n - (intOf i).toNat)
  case atStart => exact ⟨0, pv, vs, D, Nat.zero_le _, rfl, rfl, HD.out, fun b e => .inl e, Kp.refl _ _⟩
  case round =>
    obtain ⟨k, pv', vs', Dx, hk, rfl, hsy, hdk, hfr, hkp⟩ := hrel
    have HSY := Lib.hid hsy
    have HDX := Lib.hid hdk
    have HFR := Lib.hid hfr
    have HKP := Lib.hid hkp
    clear hsy hdk hfr hkp
    by_cases hlt : k < n
    · have d1 : decide (k < n) = true := decide_eq_true hlt
      obtain ⟨b, off, rfl, -, x0⟩ := HT.out.kp HKP.out k (by rw [HN.out]; exact hlt)
      have HTK := Lib.hid (tx_take l k (by rw [HN.out]; exact hlt))
      have HDR := Lib.hid (Eq.symm (List.take_append_drop (k + 1) l))
      have hi0 : (0 : Int) ≤ (k : Int) := Int.natCast_nonneg _
      have hi1 : (k : Int) < (n : Int) := by omega
      have e1 : IntKind.i64.wrap ((k : Int) + 1) = (k : Int) + 1 := IntWalk.i64_in _ (by have := HN6.out; omega)
      have HMS : Hid (n - ((k : Int) + 1).toNat < n - (k : Int).toNat) := Lib.hid (by omega)
      generalize txA l k = nm at *
      have c2 := HDX.out.c2
      obtain ⟨s, -, hs1, hs2, -, -, -⟩ := HDX.out.file nm
      have hg := run_get (t := 55) (k := 9) Try.underlying55 Try.underlying9 wr (zero48 wr) mb (mvs vs') HDX.out.mp nm true
      rw [hs1, hs2] at hg
      simp only [if_true] at hg
      unfold Sl.v at hg
      clear hs1 hs2
      have HPL : Hid (Dx.ps.length ≤ 1000000) := Lib.hid (by have h1 := (rems_len D (l.take k)).1; rw [HSY.out] at h1; exact Nat.le_trans h1 HL.out)
      have hz1 := HKP.out.cell HZ0.out HZ.out
      have hzn : ¬ (z = p ∨ pv'.v.ownBlock = some z) := fun e => by
        rcases HFR.out z (e.elim .inl (fun q => .inr (.inr (.inl q)))) with q | q
        · exact HZ.out q
        · have := World.block_lt_of_cell? _ _ HZ0.out
          have : z < W.heap.size := this
          omega
      have hone := rem1_f p Dx pv' mb vs' nm z wr HDX.out HPL.out hz1 hzn
      clear hzn
      obtain ⟨is, his⟩ : ∃ is, (Dx.fs.at? nm).isSome = is := ⟨_, rfl⟩
      rw [his] at hg
      have HIS := Lib.hid his
      clear his hz1
      cases is with
      | true =>
        have HS2 : Hid (D.rems (l.take (k + 1)) = (Dx.rem nm, true)) := Lib.hid (by
          rw [HTK.out, Dk.rems_append, HSY.out, if_pos rfl]
          show (if (Dx.fs.at? nm).isSome = true then _ else _) = _
          rw [if_pos HIS.out]; rfl)
        go_wp2_with fail
        refine hone.mono ?_
        clear hone hg x0 c2
        rintro _ w2 ⟨rfl, pv2, vs2, h1, h2, h3⟩
        have HR1 := Lib.hid h1
        have HR2 : Hid (∀ b, Blk p pv2 mb vs2 b → New (Blk p pv mb vs) W b) := Lib.hid fun b e => by
          rcases h2 b e with q | q
          · exact HFR.out b q
          · exact .inr (Nat.le_trans HKP.out.size q)
        have HR3 : Hid (Kp (Blk p pv mb vs) W w2) := Lib.hid (HKP.out.then h3 (fun j hj e => by
          rcases HFR.out j e with q | q
          · exact q
          · omega))
        clear h1 h2 h3
        go_wp2_with fail
        exact ⟨⟨k + 1, pv2, vs2, Dx.rem nm, hlt, rfl, HS2.out, HR1.out, HR2.out, HR3.out⟩, HMS.out⟩
      | false =>
        have HS2 : Hid (D.rems l = (Dx, false)) := Lib.hid (by
          rw [HDR.out, HTK.out, Dk.rems_append, Dk.rems_append, HSY.out, if_pos rfl]
          have : (Dx, true).1.rems [nm] = (Dx, false) := by
            show (if (Dx.fs.at? nm).isSome = true then _ else _) = _
            rw [if_neg (by rw [HIS.out]; decide)]
          rw [this]; rfl)
        clear hone
        go_wp2_with fail
        go_ret
        refine ⟨?_, pv', vs', ?_, HFR.out, HKP.out⟩
        · rw [HS2.out]; rfl
        · rw [HS2.out]; exact HDX.out
    · have d1 : decide (k < n) = false := decide_eq_false hlt
      obtain rfl : k = n := by omega
      have HS2 : Hid (D.rems l = (Dx, true)) := Lib.hid (by rw [← HSY.out, List.take_of_length_le (by rw [HN.out]; exact Nat.le_refl _)])
      go_wp2_with fail
      go_ret
      refine ⟨?_, pv', vs', ?_, HFR.out, HKP.out⟩
      · rw [HS2.out]; rfl
      · rw [HS2.out]; exact HDX.out
def Dk.remR (D : Dk) (l : List Str) : Dk × Int := ((D.rems l).1, errOf (D.rems l).2)
end Go.Proofs.Ytfchjdhjbepocaa
