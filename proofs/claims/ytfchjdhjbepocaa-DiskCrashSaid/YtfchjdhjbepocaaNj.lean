/- The law's files: all files, copied into a map. -/
import Derived.Test.YtfchjdhjbepocaaNi
namespace Go.Proofs.Ytfchjdhjbepocaa
open Go Go.RowKit

/-- Files in a map of the call's own. -/
structure FM (mb : Nat) (vs : Tb Sl) (fs : Tb (List B8)) (w : World) : Prop where
  mp : MapV w mb (mvs vs)
  fs : FilesIn w vs fs
def FBlk (mb : Nat) (vs : Tb Sl) (b : Nat) : Prop := b = mb ∨ ∃ q, q ∈ vs ∧ q.2.v.ownBlock = some b
theorem FM.lt {mb : Nat} {vs : Tb Sl} {fs : Tb (List B8)} {w : World} (h : FM mb vs fs w) {b : Nat} (hb : FBlk mb vs b) : b < w.heap.size := by
  rcases hb with rfl | ⟨q, hq, e⟩
  · exact h.mp.lt
  · obtain ⟨f, _, _, ho⟩ := h.fs.own hq
    exact owns_lt ho e
theorem FM.kept {mb : Nat} {vs : Tb Sl} {fs : Tb (List B8)} {w w' : World} (h : FM mb vs fs w) (k : ∀ b, FBlk mb vs b → w'.heap[b]? = w.heap[b]?) : FM mb vs fs w' :=
  ⟨h.mp.block (k mb (.inl rfl)), h.fs.kept fun q hq g e => k g (.inr ⟨q, hq, e⟩)⟩
theorem FM.ok {mb : Nat} {vs : Tb Sl} {fs : Tb (List B8)} {w w' : World} (h : FM mb vs fs w) (k : Ok w w') : FM mb vs fs w' := h.kept fun b hb => k.block b (h.lt hb)
theorem FM.ne_map {mb : Nat} {vs : Tb Sl} {fs : Tb (List B8)} {w : World} (h : FM mb vs fs w) : ∀ q, q ∈ vs → q.2.v.ownBlock ≠ some mb := by
  obtain ⟨_, es, clock, hb, _⟩ := h.mp
  intro q hq e
  obtain ⟨f, _, _, ho⟩ := h.fs.own hq
  obtain ⟨cur, hc⟩ := owns_ty ho e
  rw [hc] at hb; cases hb
theorem FM.add {mb : Nat} {vs : Tb Sl} {fs : Tb (List B8)} {w w1 w' : World} (h : FM mb vs fs w) (k : Str) (s : Sl) (b : List B8) (o : Ok w w1) (hb : OwnN w1 s.v b) (hn : ∀ g, s.v.ownBlock = some g → w.heap.size ≤ g)
    (g : w1.grownBy w' (some mb)) (hm : MapV w' mb ((mvs vs).put k s.v)) : FM mb (vs.put k s) (fs.put k b) w' := by
  have n3 := h.ne_map
  have hkk : ∀ j, FBlk mb vs j → j ≠ mb → w'.heap[j]? = w.heap[j]? := fun j hj hjm => by
    have hl := h.lt hj
    rw [g.block j (Nat.lt_of_lt_of_le hl o.size) (fun e => hjm (by simpa using e)), o.block j hl]
  refine ⟨by rw [mvs_put]; exact hm, ?_⟩
  refine h.fs.put (once_mvs h.mp.1) k s b ?_ (fun q hq _ j e e2 => ?_) (fun q hq _ j e => hkk j (.inr ⟨q, hq, e⟩) (fun r => n3 q hq (r ▸ e)))
  · refine blk_eq hb fun j e => g.block j (owns_lt hb e) (fun r => ?_)
    have := hn j e
    have := h.mp.lt
    have : j = mb := by simpa using r
    omega
  · have := hn j e
    have := h.lt (.inr ⟨q, hq, e2⟩)
    omega
def ff (D : Dk) (l : List Str) : Tb (List B8) := l.map fun k => (k, D.file k)
theorem ff_take (D : Dk) {l : List Str} (hn : l.Nodup) (k : Nat) (h : k < l.length) : ff D (l.take (k + 1)) = (ff D (l.take k)).put (txA l k) (D.file (txA l k)) := by
  have e : ff D (l.take (k + 1)) = ff D (l.take k) ++ [(txA l k, D.file (txA l k))] := by rw [tx_take l k h]; unfold ff; rw [List.map_append]; rfl
  rw [e, Tb.put_new]
  intro x hx q
  obtain ⟨y, hy, rfl⟩ := List.mem_map.1 hx
  have hq : y = txA l k := q
  have hk : txA l k = l[k] := by unfold txA; rw [List.getD_eq_getElem?_getD, List.getElem?_eq_getElem h]; rfl
  obtain ⟨j, hj, hy2⟩ := List.mem_iff_getElem.1 hy
  rw [List.length_take] at hj
  rw [List.getElem_take] at hy2
  exact List.pairwise_iff_getElem.1 hn j k (by omega) h (by omega) (by rw [hy2, hq, hk])
def FilesP (D : Dk) (W : World) (e : Ending) (w' : World) : Prop := ∃ (fm : Nat) (vf : Tb Sl) (T : Tb (List B8)), e = .returned (.map (some fm)) ∧ FM fm vf T w' ∧ T.Perm D.fs ∧ (∀ b, FBlk fm vf b → W.heap.size ≤ b) ∧ Ok W w'
theorem fblk_add {mb : Nat} {vs : Tb Sl} {k : Str} {s : Sl} {N : Nat} (h : ∀ g, FBlk mb vs g → N ≤ g) (hn : ∀ g, s.v.ownBlock = some g → N ≤ g) {b : Nat} (hb : FBlk mb (vs.put k s) b) : N ≤ b := by
  rcases hb with e | ⟨q, hq, e⟩
  · exact h _ (.inl e)
  · rcases Tb.mem_put hq with rfl | hq
    · exact hn _ e
    · exact h _ (.inr ⟨q, hq, e⟩)
set_option maxRecDepth 100000 in
set_option maxHeartbeats 2000000 in
theorem files_f (p : Nat) (D : Dk) (pv : Sl) (mb : Nat) (vs : Tb Sl) (W : World) (h : DkAt p D pv mb vs W) (hs : Small D) (hf : Few D) : Calls Try.prog 33 #[.pointer (some ⟨p, 0, none⟩)] W (FilesP D W) := by
  have HOM : Hid (Ok W (W.alloc (.map #[] 0))) := Lib.hid ((Ok.refl W).alloc _)
  have HMV : Hid (MapV (W.alloc (.map #[] 0)) W.heap.size []) := Lib.hid (MapV.new W)
  have hmk : (Instr.makeMap 55 none).run Try.prog W = .ok (.map (some W.heap.size)) (W.alloc (.map #[] 0)) := rfl
  have HD0 := Lib.hid h
  have HD := Lib.hid (h.ok HOM.out)
  have hnm := names_f p D pv mb vs _ HD.out hf
  have HSM := Lib.hid hs
  have HF := Lib.hid hf
  clear h hs hf
  go_enter Try.func33, Try.ntmps33
  go_upto_region 2 with fail
  obtain ⟨fm, hfm⟩ : ∃ fm, W.heap.size = fm := ⟨_, rfl⟩
  rw [hfm] at HMV ⊢
  have HFW : Hid (W.heap.size ≤ fm) := Lib.hid (by omega)
  clear hmk hfm
  generalize W.alloc (.map #[] 0) = w0 at *
  go_wp2_with fail
  refine hnm.mono ?_
  clear hnm
  rintro _ w1 ⟨A, c, l, rfl, hp, hc, ho⟩
  have HP := Lib.hid hp
  have HC := Lib.hid hc
  have HO := Lib.hid (HOM.out.trans ho)
  have HM1 : Hid (FM fm [] [] w1) := Lib.hid ⟨HMV.out.block (ho.block fm HMV.out.lt), ⟨trivial, List.Pairwise.nil⟩⟩
  have HND : Hid l.Nodup := Lib.hid (hp.nodup_iff.2 (List.pairwise_map.2 HD0.out.inv.once))
  have HFB : Hid (∀ b, FBlk fm [] b → W.heap.size ≤ b) := Lib.hid fun b hb => by
    rcases hb with rfl | ⟨q, hq, _⟩
    · exact HFW.out
    · cases hq
  have HLN : Hid (l.length ≤ 1000000) := Lib.hid (by rw [hp.length_eq, List.length_map]; exact HF.out.ct)
  have HGW : Hid (l = [] ∨ ∃ g, A = some ⟨g, 0, none⟩ ∧ g ≠ fm ∧ ∀ j, j < l.length → w1.cell? ⟨g, j, none⟩ = some (.string (txA l j))) := Lib.hid (by
    rcases hc with e | ⟨g, e1, e2, e3⟩
    · exact .inl e
    · refine .inr ⟨g, e1, ?_, e3⟩
      have := HMV.out.lt
      omega)
  clear hp hc ho HC HMV HD
  go_wp2_with fail
  go_loopw [5, 6, 7, 17] (fun i _ _ _ wr => ∃ (k : Nat) (vf : Tb Sl), k ≤ l.length ∧ i = .int .i64 (k : Int) ∧ FM fm vf (ff D (l.take k)) wr ∧ (∀ b, FBlk fm vf b → W.heap.size ≤ b) ∧ Kp (fun b => b = fm) w1 wr ∧ Ok W wr) (fun i _ _ _ _ => l.length - (intOf i).toNat)
  case atStart => exact ⟨0, [], Nat.zero_le _, rfl, HM1.out, HFB.out, Kp.refl _ _, HO.out⟩
  case round =>
    obtain ⟨k, vf, hk, rfl, hfm, hfb, hkp, okr⟩ := hrel
    have HFM := Lib.hid hfm
    have HFBR := Lib.hid hfb
    have HKP := Lib.hid hkp
    have HOK := Lib.hid okr
    clear hfm hfb hkp okr HM1 HFB
    by_cases hlt : k < l.length
    · have d1 : decide (k < l.length) = true := decide_eq_true hlt
      obtain ⟨g, rfl, hgf, hcell⟩ : ∃ g, A = some ⟨g, 0, none⟩ ∧ g ≠ fm ∧ ∀ j, j < l.length → w1.cell? ⟨g, j, none⟩ = some (.string (txA l j)) := by
        rcases HGW.out with e | e
        · rw [e] at hlt; simp at hlt
        · exact e
      have x0 := HKP.out.cell (hcell k hlt) hgf
      clear hcell
      have HFT := Lib.hid (ff_take D HND.out k hlt)
      generalize txA l k = nm at *
      have hrd := read_f p D pv mb vs nm wr (HD0.out.ok HOK.out) HSM.out
      have hi0 : (0 : Int) ≤ (k : Int) := Int.natCast_nonneg _
      have hi1 : (k : Int) < (l.length : Int) := by omega
      have e1 : IntKind.i64.wrap ((k : Int) + 1) = (k : Int) + 1 := IntWalk.i64_in _ (by have := HLN.out; omega)
      have HMS : Hid (l.length - ((k : Int) + 1).toNat < l.length - (k : Int).toNat) := Lib.hid (by omega)
      go_wp2_with fail
      refine hrd.mono ?_
      clear hrd
      rintro _ w2 ⟨s', rfl, h1, h2, h3, h4⟩
      have H1 := Lib.hid h1
      have H2 := Lib.hid h2
      have H4 := Lib.hid h4
      have x1 := h4.cell x0
      clear h1 h2 h3 h4 x0
      unfold Sl.v
      go_wp2_with (at_mapUpdate; go_must (refine wpList_map_put rfl 55 (.tmp 26) (.tmp 30) (.tmp 31) rfl Try.underlying55 Try.underlying9 fm (mvs vf) rfl (HFM.out.mp.block (H4.out.block fm HFM.out.mp.lt)) nm rfl ?_; intro w5 hm5 hg5 hs5; have HM5 : Hid (MapV w5 fm ((mvs vf).put nm (.slice s'.A s'.n s'.c))) := Lib.hid hm5; have HG5 := Lib.hid hg5; clear hm5 hg5 hs5))
      have hadd := HFM.out.add nm s' _ H4.out H1.out H2.out HG5.out HM5.out
      have hkk : Kp (fun b => b = fm) wr w5 := (Kp.of H4.out).then (Kp.grown (S := fun b => b = fm) HG5.out (fun j e => .inl (by simpa using e.symm))) (fun _ _ e => e)
      refine ⟨⟨k + 1, vf.put nm s', hlt, rfl, by rw [HFT.out]; exact hadd, fun b hb => fblk_add HFBR.out (fun g e => Nat.le_trans HOK.out.size (H2.out g e)) hb, HKP.out.then hkk (fun _ _ e => e), ?_⟩, HMS.out⟩
      exact ((Kp.of (S := fun _ => False) HOK.out).then hkk (fun j hj e => by have := HFW.out; omega)).toOk (fun _ e => e.elim)
    · have d1 : decide (k < l.length) = false := decide_eq_false hlt
      obtain rfl : k = l.length := by omega
      have HE : Hid ((ff D (l.take l.length)).Perm D.fs) := Lib.hid (by
        rw [List.take_of_length_le (Nat.le_refl _)]
        have := (HP.out.map fun k => (k, D.file k))
        rw [keys_files HD0.out.inv.once] at this
        exact this)
      go_wp2_with fail
      go_ret
      exact ⟨fm, vf, _, rfl, HFM.out, HE.out, HFBR.out, HOK.out⟩
end Go.Proofs.Ytfchjdhjbepocaa
