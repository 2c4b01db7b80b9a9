/- Disks: Copy. -/
import Derived.Test.YtfchjdhjbepocaaNd
namespace Go.Proofs.Ytfchjdhjbepocaa
open Go Go.RowKit

theorem at_perm {α : Type} {l l' : Tb α} (h : l.Perm l') (ho : Once l) (k : Str) : l.at? k = l'.at? k := by
  have ho' : Once l' := (List.Perm.pairwise_iff (R := fun (a b : Str × α) => a.1 ≠ b.1) (fun e => e.symm) h).1 ho
  cases e : l.at? k with
  | some v => exact (Tb.mem_at ho' (h.mem_iff.1 (Tb.at_mem e))).symm
  | none =>
    cases e' : l'.at? k with
    | none => rfl
    | some v =>
      have := Tb.mem_at ho (h.mem_iff.2 (Tb.at_mem e'))
      rw [e] at this
      cases this
theorem once_perm {α : Type} {l l' : Tb α} (h : l.Perm l') (ho : Once l) : Once l' := (List.Perm.pairwise_iff (R := fun (a b : Str × α) => a.1 ≠ b.1) (fun e => e.symm) h).1 ho
/-- The files of what is still to come. -/
def tf (D : Dk) (todo : Tb Sl) : Tb (List B8) := todo.map fun x => (x.1, D.file x.1)
theorem tf_append (D : Dk) (a b : Tb Sl) : tf D (a ++ b) = tf D a ++ tf D b := by simp [tf]
theorem all2_keys {w : World} : ∀ {vs : Tb Sl} {fs : Tb (List B8)} (_ : All2 (FileR w) vs fs), vs.map Prod.fst = fs.map Prod.fst
  | [], [], _ => rfl
  | _ :: _, _ :: _, h => by rw [List.map_cons, List.map_cons, h.1.1, all2_keys h.2]
  | [], _ :: _, h => h.elim
  | _ :: _, [], h => h.elim
theorem tf_all {w : World} {D : Dk} {vs : Tb Sl} (h : FilesIn w vs D.fs) (ho : Once D.fs) : tf D vs = D.fs := by
  have h1 : tf D vs = (vs.map Prod.fst).map fun k => (k, D.file k) := by unfold tf; rw [List.map_map]; rfl
  rw [h1, all2_keys h.each, List.map_map]
  have : ∀ x ∈ D.fs, ((fun k => (k, D.file k)) ∘ Prod.fst) x = x := fun x hx => by
    have := Tb.mem_at ho hx
    show (x.1, D.file x.1) = x
    unfold Dk.file
    rw [this]
    rfl
  rw [List.map_congr_left this, List.map_id']
/-- A disk in memory, its files as they stand. -/
structure DkU (p : Nat) (size : Int) (ps : List Pc) (fs : Tb (List B8)) (pv : Sl) (mb : Nat) (vs : Tb Sl) (w : World) : Prop where
  st : w.heap[p]? = some (.cells #[pv.v, .int .i64 size, .map (some mb)] 57 (0, 0))
  ps : OwnPc w pv ps
  mp : MapV w mb (mvs vs)
  fs : FilesIn w vs fs
theorem DkU.lt {p : Nat} {size : Int} {ps : List Pc} {fs : Tb (List B8)} {pv : Sl} {mb : Nat} {vs : Tb Sl} {w : World} (h : DkU p size ps fs pv mb vs w) {b : Nat} (hb : Blk p pv mb vs b) : b < w.heap.size := by
  rcases hb with rfl | rfl | e | ⟨q, hq, e⟩
  · exact (Array.getElem?_eq_some_iff.1 h.st).1
  · exact h.mp.lt
  · exact owns_lt h.ps e
  · obtain ⟨f, _, _, ho⟩ := h.fs.own hq
    exact owns_lt ho e
theorem DkU.kept {p : Nat} {size : Int} {ps : List Pc} {fs : Tb (List B8)} {pv : Sl} {mb : Nat} {vs : Tb Sl} {w w' : World} (h : DkU p size ps fs pv mb vs w) (k : ∀ b, Blk p pv mb vs b → w'.heap[b]? = w.heap[b]?) : DkU p size ps fs pv mb vs w' :=
  ⟨(k p (.inl rfl)).trans h.st, blk_eq h.ps fun g e => k g (.inr (.inr (.inl e))), h.mp.block (k mb (.inr (.inl rfl))), h.fs.kept fun q hq g e => k g (.inr (.inr (.inr ⟨q, hq, e⟩)))⟩
theorem DkU.ok {p : Nat} {size : Int} {ps : List Pc} {fs : Tb (List B8)} {pv : Sl} {mb : Nat} {vs : Tb Sl} {w w' : World} (h : DkU p size ps fs pv mb vs w) (k : Ok w w') : DkU p size ps fs pv mb vs w' := h.kept fun b hb => k.block b (h.lt hb)
theorem RangeV.iter {w : World} {r b : Nat} {l todo : Tb Value} (h : RangeV w r b l todo) : ∃ x y z, w.heap[r]? = some (.mapIter (some b) x y z) := by
  obtain ⟨_, es, clock, seen, last, _, _, _, _, hr, _⟩ := h
  exact ⟨_, _, _, hr⟩
theorem DkU.ne_iter {p : Nat} {size : Int} {ps : List Pc} {fs : Tb (List B8)} {pv : Sl} {mb : Nat} {vs : Tb Sl} {w : World} (h : DkU p size ps fs pv mb vs w) {r b : Nat} {l todo : Tb Value} (hr : RangeV w r b l todo) {g : Nat} (hg : Blk p pv mb vs g) : g ≠ r := fun e => by
  subst e
  obtain ⟨x, y, z, h0⟩ := hr.iter
  rcases hg with rfl | rfl | e | ⟨q, hq, e⟩
  · rw [h.st] at h0; cases h0
  · obtain ⟨_, es, clock, hb, _⟩ := h.mp
    rw [hb] at h0; cases h0
  · obtain ⟨cur, hc⟩ := owns_ty h.ps e
    rw [hc] at h0; cases h0
  · obtain ⟨f, _, _, ho⟩ := h.fs.own hq
    obtain ⟨cur, hc⟩ := owns_ty ho e
    rw [hc] at h0; cases h0
theorem DkU.ne_map {p : Nat} {size : Int} {ps : List Pc} {fs : Tb (List B8)} {pv : Sl} {mb : Nat} {vs : Tb Sl} {w : World} (h : DkU p size ps fs pv mb vs w) : p ≠ mb ∧ pv.v.ownBlock ≠ some mb ∧ ∀ q, q ∈ vs → q.2.v.ownBlock ≠ some mb := by
  obtain ⟨_, es, clock, hb, _⟩ := h.mp
  refine ⟨fun e => ?_, fun e => ?_, fun q hq e => ?_⟩
  · rw [← e, h.st] at hb; cases hb
  · obtain ⟨cur, hc⟩ := owns_ty h.ps e
    rw [hc] at hb; cases hb
  · obtain ⟨f, _, _, ho⟩ := h.fs.own hq
    obtain ⟨cur, hc⟩ := owns_ty ho e
    rw [hc] at hb; cases hb
/-- One more file, in a new block. -/
theorem DkU.add {p : Nat} {size : Int} {ps : List Pc} {fs : Tb (List B8)} {pv : Sl} {mb : Nat} {vs : Tb Sl} {w w1 w' : World} (h : DkU p size ps fs pv mb vs w) (k : Str) (s : Sl) (b : List B8) (o : Ok w w1) (hb : OwnN w1 s.v b) (hn : ∀ g, s.v.ownBlock = some g → w.heap.size ≤ g)
    (g : w1.grownBy w' (some mb)) (hm : MapV w' mb ((mvs vs).put k s.v)) : DkU p size ps (fs.put k b) pv mb (vs.put k s) w' := by
  obtain ⟨n1, n2, n3⟩ := h.ne_map
  have hkk : ∀ j, Blk p pv mb vs j → j ≠ mb → w'.heap[j]? = w.heap[j]? := fun j hj hjm => by
    have hl := h.lt hj
    rw [g.block j (Nat.lt_of_lt_of_le hl o.size) (fun e => hjm (by simpa using e)), o.block j hl]
  refine ⟨(hkk p (.inl rfl) n1).trans h.st, blk_eq h.ps fun j e => hkk j (.inr (.inr (.inl e))) (fun r => n2 (r ▸ e)), by rw [mvs_put]; exact hm, ?_⟩
  refine h.fs.put (once_mvs h.mp.1) k s b ?_ (fun q hq _ j e e2 => ?_) (fun q hq _ j e => hkk j (.inr (.inr (.inr ⟨q, hq, e⟩))) (fun r => n3 q hq (r ▸ e)))
  · refine blk_eq hb fun j e => g.block j (owns_lt hb e) (fun r => ?_)
    have := hn j e
    have := h.mp.lt
    have : j = mb := by simpa using r
    omega
  · have := hn j e
    have := h.lt (.inr (.inr (.inr ⟨q, hq, e2⟩)))
    omega
theorem blk_add {p : Nat} {pv : Sl} {mb : Nat} {vs : Tb Sl} {k : Str} {s : Sl} {W : World} (h : ∀ g, Blk p pv mb vs g → W.heap.size ≤ g) (hn : ∀ g, s.v.ownBlock = some g → W.heap.size ≤ g) {b : Nat} (hb : Blk p pv mb (vs.put k s) b) : W.heap.size ≤ b := by
  rcases hb with e | e | e | ⟨q, hq, e⟩
  · exact h _ (.inl e)
  · exact h _ (.inr (.inl e))
  · exact h _ (.inr (.inr (.inl e)))
  · rcases Tb.mem_put hq with rfl | hq
    · exact hn _ e
    · exact h _ (.inr (.inr (.inr ⟨q, hq, e⟩)))
def CopyP (D : Dk) (W : World) (e : Ending) (w' : World) : Prop := ∃ (q : Nat) (D' : Dk) (pvc : Sl) (mbc : Nat) (vsc : Tb Sl), e = .returned (.pointer (some ⟨q, 0, none⟩)) ∧ DkAt q D' pvc mbc vsc w' ∧ D'.size = D.size ∧ D'.ps = D.ps ∧ D'.fs.Perm D.fs ∧ (∀ b, Blk q pvc mbc vsc b → W.heap.size ≤ b) ∧ Ok W w'
theorem Dk.Inv.perm {D : Dk} (h : D.Inv) {fs : Tb (List B8)} (hp : fs.Perm D.fs) : Dk.Inv ⟨D.size, D.ps, fs⟩ :=
  ⟨once_perm hp.symm h.once, h.pos, fun k => by
    show ofP D.ps k ≤ ((fs.at? k).getD []).length
    rw [← at_perm hp.symm h.once]
    exact h.within k⟩
set_option maxRecDepth 100000 in
set_option maxHeartbeats 2000000 in
theorem copy_f (p : Nat) (D : Dk) (pv : Sl) (mb : Nat) (vs : Tb Sl) (W : World) (h : DkAt p D pv mb vs W) (hs : Small D) : Calls Try.prog 13 #[.pointer (some ⟨p, 0, none⟩)] W (CopyP D W) := by
  have hno := none_f p mb W h.c2
  have c1 := h.c1
  have HD0 := Lib.hid h
  have HSM := Lib.hid hs
  clear h hs
  go_enter Try.func13, Try.ntmps13
  go_wp2_with fail
  refine hno.mono ?_
  rintro _ w1 ⟨rfl, rfl⟩
  clear hno
  go_wp2_with fail
  refine (new_f D.size W).mono ?_
  rintro _ w1 ⟨q, mbc, rfl, h1, h2, h3, h4⟩
  have HN := Lib.hid h1
  have HO1 := Lib.hid h2
  have HQ := Lib.hid h3
  have HM := Lib.hid h4
  have HD1 := Lib.hid (HD0.out.ok h2)
  clear h1 h2 h3 h4 c1
  have hcl := cloneP_f pv D.ps w1 HD1.out.ps HSM.out.ps
  have c0 := HD1.out.c0
  unfold Sl.v at hcl c0
  go_wp2_with fail
  refine hcl.mono ?_
  clear hcl c0
  rintro _ w2 ⟨pvc, rfl, h1, h2, h3⟩
  have HPC := Lib.hid h1
  have HPN := Lib.hid h2
  have HO2 := Lib.hid h3
  have HN2 := Lib.hid (HN.out.ok h3)
  clear h1 h2 h3
  have y0 := (st_cell HN2.out.st).1
  have f0 := (st_cell HN2.out.st).2
  unfold Sl.v sl0 at y0
  go_upto_region 5 with fail
  clear y0 f0
  have HU : Hid (DkU q D.size D.ps [] pvc mbc [] (w2.setCell ⟨q, 0, none⟩ (.slice pvc.A pvc.n pvc.c))) := Lib.hid (by
    have hq1 : q < w1.heap.size := (Array.getElem?_eq_some_iff.1 HN.out.st).1
    refine ⟨st_set HN2.out.st, blk_eq HPC.out fun g e => Below.heap_setCell _ ⟨q, 0, none⟩ _ g (fun r => ?_), HN2.out.mp.block (Below.heap_setCell _ ⟨q, 0, none⟩ _ mbc (fun r => HN2.out.p_mb r.symm)), ⟨trivial, List.Pairwise.nil⟩⟩
    have := HPN.out g e
    have : g = q := r
    omega)
  have HOK : Hid (Ok W (w2.setCell ⟨q, 0, none⟩ (.slice pvc.A pvc.n pvc.c))) := Lib.hid (((Kp.of (S := fun _ => False) (HO1.out.trans HO2.out)).set (.inl HQ.out) 0 _).toOk (fun _ e => e.elim))
  have HNW : Hid (∀ b, Blk q pvc mbc [] b → W.heap.size ≤ b) := Lib.hid fun b hb => by
    rcases hb with e | e | e | ⟨x, hx, _⟩
    · rw [e]; exact HQ.out
    · rw [e]; exact HM.out
    · exact Nat.le_trans HO1.out.size (HPN.out b e)
    · cases hx
  generalize w2.setCell ⟨q, 0, none⟩ (.slice pvc.A pvc.n pvc.c) = w3 at *
  have HD3 := Lib.hid (HD0.out.ok HOK.out)
  have c2 := HD3.out.c2
  go_wp2_with (at_range; go_must (refine wpList_map_range rfl (.tmp 26) 55 rfl Try.underlying55 mb (mvs vs) rfl HD3.out.mp ?_; intro w4 hr2 hg2 hs2; have HR2 := Lib.hid hr2; have HG2 := Lib.hid hg2; clear hr2 hg2 hs2))
  obtain ⟨r, hr⟩ : ∃ r, w3.heap.size = r := ⟨_, rfl⟩
  rw [hr] at HR2 ⊢
  have HRW : Hid (W.heap.size ≤ r) := Lib.hid (by rw [← hr]; exact HOK.out.size)
  clear hr c2
  have HO34 : Hid (Ok w3 w4) := Lib.hid (ok_grown HG2.out (fun j e => by cases e))
  have HU4 := Lib.hid (HU.out.ok HO34.out)
  have HOK4 := Lib.hid (HOK.out.trans HO34.out)
  have HPM0 : Hid ((tf D vs).Perm D.fs) := Lib.hid (by rw [tf_all HD0.out.fs HD0.out.inv.once])
  clear HG2 HU HN HN2 HPC HD1 HD3 HO1 HO2 HOK HO34 HPN
  go_frame
  go_loopw [4, 5] (fun _ _ wr => ∃ (vsc : Tb Sl) (fsd : Tb (List B8)) (todo : Tb Sl), RangeV wr r mb (mvs vs) (mvs todo) ∧ (∀ x, x ∈ todo → x ∈ vs) ∧ (fsd ++ tf D todo).Perm D.fs ∧ DkU q D.size D.ps fsd pvc mbc vsc wr ∧ (∀ b, Blk q pvc mbc vsc b → W.heap.size ≤ b) ∧ Ok W wr) (fun _ _ wr => wr.rangeLeft mb r)
  case atStart => exact ⟨[], [], vs, HR2.out, fun _ h => h, HPM0.out, HU4.out, HNW.out, HOK4.out⟩
  case round =>
    obtain ⟨vsc, fsd, todo, hrv, hsub, hpm, hu, hnw, hok⟩ := hrel
    have HRV := Lib.hid hrv
    have HSUB := Lib.hid hsub
    have HPM := Lib.hid hpm
    have HUR := Lib.hid hu
    have HNWR := Lib.hid hnw
    have HOKR := Lib.hid hok
    clear hrv hsub hpm hu hnw hok HU4 HNW HOK4 HPM0 HR2
    go_wp2_with (at_next; refine wpList_map_next rfl (.tmp 27) rfl r mb (mvs vs) (mvs todo) rfl HRV.out ?_ ?_)
    · intro h0
      have h1 : todo = [] := List.map_eq_nil_iff.1 h0
      have HPF : Hid (fsd.Perm D.fs) := Lib.hid (by have := HPM.out; rw [h1] at this; simpa [tf] using this)
      clear h0 h1
      go_wp2_with fail
      go_ret
      exact ⟨q, ⟨D.size, D.ps, fsd⟩, pvc, mbc, vsc, rfl, ⟨HUR.out.st, HUR.out.ps, HUR.out.mp, HUR.out.fs, HD0.out.inv.perm HPF.out⟩, rfl, rfl, HPF.out, HNWR.out, HOKR.out⟩
    · intro A B qk qv w5 ht hrv3 hg3 hs3 hen
      obtain ⟨A', B', s, e1, rfl, rfl, rfl⟩ := mvs_mid ht
      have HRV3 : Hid (RangeV w5 r mb (mvs vs) (mvs (A' ++ B'))) := Lib.hid (by rw [← mvs_app]; exact hrv3)
      have HMT : Hid (w5.rangeLeft mb r < wr.rangeLeft mb r) := Lib.hid (by rw [HRV3.out.left, HRV.out.left, e1]; simp [mvs])
      have HOK5 : Hid (Ok W w5) := Lib.hid (((Kp.of (S := fun _ => False) HOKR.out).then (Kp.grown (S := fun b => b = r) hg3 (fun j e => .inl (by simpa using e.symm))) (fun j hj e => by have := HRW.out; omega)).toOk (fun _ e => e.elim))
      have HU5 : Hid (DkU q D.size D.ps fsd pvc mbc vsc w5) := Lib.hid (HUR.out.kept fun b hb => hg3.block b (HUR.out.lt hb) (fun e => HUR.out.ne_iter HRV.out hb (by simpa using e)))
      have hin : (qk, s) ∈ vs := HSUB.out _ (by rw [e1]; simp)
      have HSB : Hid (∀ x, x ∈ A' ++ B' → x ∈ vs) := Lib.hid fun x hx => HSUB.out x (by
        rw [e1]
        rcases List.mem_append.1 hx with q | q
        · exact List.mem_append_left _ q
        · exact List.mem_append_right _ (List.mem_cons_of_mem _ q))
      have hp0 : (fsd ++ tf D (A' ++ (qk, s) :: B')).Perm D.fs := by rw [← e1]; exact HPM.out
      have hp1 : ((fsd ++ [(qk, D.file qk)]) ++ tf D (A' ++ B')).Perm D.fs := by
        refine List.Perm.trans ?_ hp0
        rw [tf_append, tf_append, List.append_assoc]
        refine List.Perm.append_left fsd ?_
        exact (List.perm_middle (l₁ := tf D A')).symm
      have hnk : ∀ x ∈ fsd, x.1 ≠ qk := fun x hx e => by
        have ho := once_perm hp0.symm HD0.out.inv.once
        have := (List.pairwise_append.1 ho).2.2 x hx (qk, D.file qk) (by rw [tf_append]; exact List.mem_append_right _ (List.mem_cons_self ..))
        exact this e
      have HPM2 : Hid ((fsd.put qk (D.file qk) ++ tf D (A' ++ B')).Perm D.fs) := Lib.hid (by rw [Tb.put_new hnk]; exact hp1)
      obtain ⟨f, hf1, hf2, hf3⟩ := HD0.out.fs.own hin
      have hff : D.file qk = f.2 := by
        unfold Dk.file
        rw [show qk = f.1 from hf2, Tb.mem_at HD0.out.inv.once hf1]
        rfl
      have HOS : Hid (OwnN w5 s.v (D.file qk)) := Lib.hid (by
        rw [hff]
        exact OwnN.kept hf3 fun g e => HOK5.out.block g (owns_lt hf3 e))
      have HBL : Hid ((D.file qk).length ≤ 100000000) := Lib.hid (Nat.le_trans (file_le_used qk) HSM.out.us)
      have HC2 : Hid (w5.drew.cell? ⟨q, 2, none⟩ = some (.map (some mbc))) := Lib.hid ((Ok.refl w5).drew.cell (by unfold World.cell?; simp only [HU5.out.st]; rfl))
      clear ht hrv3 hg3 hs3 e1 hin hp0 hp1 hnk hf1 hf2 hf3 hff
      unfold Sl.v at hen
      go_upto_region 8 with fail
      refine Until.begin (S := fun w => w.cell? ⟨q, 2, none⟩ = some (.map (some mbc))) (j := 7) (by kernel_rfl) ?_ ?_
      · exact HC2.out
      intro hS
      have HD : Hid (Ok w5 w5.drew) := Lib.hid ((Ok.refl w5).drew)
      generalize w5.drew = V0 at *
      refine Until.take0 (i := 0) (oi := ⟨some 33, Op.move (Operand.tmp 3), _, _, _, _⟩) (v := ?v0) rfl (by kernel_rfl) (by kernel_rfl) (by kernel_rfl) (by kernel_rfl) (fun _ _ _ h => h) (Or.inl ⟨by rfl, ?hy0⟩) (fun _ => hS) ?rest0
      case hy0 => ((intro w hSw); clear hSw; go_simp; (try with_reducible rfl))
      try go_frame
      refine Until.take0 (i := 1) (oi := ⟨some 34, Op.nilCheck (Operand.tmp 33), _, _, _, _⟩) (v := ?v1) rfl (by kernel_rfl) (by kernel_rfl) (by kernel_rfl) (by kernel_rfl) (fun _ _ _ h => h) (Or.inl ⟨by rfl, ?hy1⟩) (fun _ => hS) ?rest1
      case hy1 => ((intro w hSw); clear hSw; go_simp; (try with_reducible rfl))
      try go_frame
      refine Until.take0 (i := 2) (oi := ⟨some 35, Op.fieldAddr 57 (Operand.tmp 34) 2, _, _, _, _⟩) (v := ?v2) rfl (by kernel_rfl) (by kernel_rfl) (by kernel_rfl) (by kernel_rfl) (fun _ _ _ h => h) (Or.inl ⟨by rfl, ?hy2⟩) (fun _ => hS) ?rest2
      case hy2 => ((intro w hSw); clear hSw; go_simp; (try with_reducible rfl))
      try go_frame
      refine Until.take (i := 3) (oi := ⟨some 36, Op.load 55 (Operand.tmp 35), _, _, _, _⟩) (v := ?v3) rfl (by kernel_rfl) (by kernel_rfl) (by kernel_rfl) (by kernel_rfl) (fun _ _ _ h => h) (Or.inl ⟨by rfl, ?hy3⟩) hS ?rest3
      case hy3 => ((intro w hSw; (try dsimp only at hSw)); skip; go_simp; (try with_reducible rfl))
      try go_frame
      refine Until.take0 (i := 4) (oi := ⟨some 37, Op.move (Operand.tmp 4), _, _, _, _⟩) (v := ?v4) rfl (by kernel_rfl) (by kernel_rfl) (by kernel_rfl) (by kernel_rfl) (fun _ _ _ h => h) (Or.inl ⟨by rfl, ?hy4⟩) (fun _ => hS) ?rest4
      case hy4 => ((intro w hSw); clear hSw; go_simp; (try with_reducible rfl))
      try go_frame
      refine Until.take0 (i := 5) (oi := ⟨some 38, Op.move (Operand.tmp 5), _, _, _, _⟩) (v := ?v5) rfl (by kernel_rfl) (by kernel_rfl) (by kernel_rfl) (by kernel_rfl) (fun _ _ _ h => h) (Or.inl ⟨by rfl, ?hy5⟩) (fun _ => hS) ?rest5
      case hy5 => ((intro w hSw); clear hSw; go_simp; (try with_reducible rfl))
      try go_frame
      refine Until.one (i := 6) (by kernel_rfl) rfl (fun K hK => ?_)
      have HK := Lib.hid hK
      clear hK
      go_simp
      have hcl := cloneB_f s (D.file qk) V0 (HOS.out.kept fun g e => HD.out.block g (owns_lt HOS.out e)) HBL.out
      refine (hcl).mono ?_
      rintro _ V1 ⟨s2, rfl, j1, j2, j3, j4⟩
      have J1 := Lib.hid j1
      have J2 := Lib.hid j2
      have J3 := Lib.hid j3
      have J4 := Lib.hid j4
      have hS1 := j4.cell hS
      clear j1 j2 j3 j4
      refine HK.out.out _ _ (fun _ => hS1) (fun _ => ?_)
      clear hS
      have hS := hS1
      clear HK K
      try go_frame
      refine Until.one (i := 7) (o := ⟨none, .mapUpdate 55 (.tmp 36) (.tmp 37) (.tmp 39), _, _, _, _⟩) (by kernel_rfl) rfl (fun K hK => ?_)
      have HK := Lib.hid hK
      clear hK
      refine wp_map_put 55 (.tmp 36) (.tmp 37) (.tmp 39) rfl Try.underlying55 Try.underlying9 mbc (mvs vsc) rfl (HU5.out.mp.block ((J4.out.block mbc (Nat.lt_of_lt_of_le HU5.out.mp.lt HD.out.size)).trans (HD.out.block mbc HU5.out.mp.lt))) qk rfl ?_
      intro w8 hm5 hg5 hs5
      have HM5 : Hid (MapV w8 mbc ((mvs vsc).put qk (.slice s2.A s2.n s2.c))) := Lib.hid hm5
      have HG5 := Lib.hid hg5
      clear hm5 hg5 hs5
      refine HK.out.out _ _ (fun h => absurd (h.symm.trans (by kernel_rfl : _ = true)) Bool.false_ne_true) (fun _ => ?_)
      clear HK K
      try go_frame
      refine Until.done (by kernel_rfl) ?_ _
      go_wp2_with fail
      have hadd : DkU q D.size D.ps (fsd.put qk (D.file qk)) pvc mbc (vsc.put qk s2) w8 := HU5.out.add qk s2 _ (HD.out.trans J4.out) J1.out (fun g e => Nat.le_trans HD.out.size (J2.out g e)) HG5.out HM5.out
      have hr1 : w8.heap[r]? = w5.heap[r]? := by
        have hl := HRV3.out.lt
        rw [HG5.out.block r (Nat.lt_of_lt_of_le hl (Nat.le_trans HD.out.size J4.out.size)) (fun e => HU5.out.ne_iter HRV3.out (.inr (.inl rfl)) (by simpa using e.symm)), J4.out.block r (Nat.lt_of_lt_of_le hl HD.out.size), HD.out.block r hl]
      have hr2 : w8.heap[mb]? = w5.heap[mb]? := by
        have hl := HRV3.out.map.lt
        rw [HG5.out.block mb (Nat.lt_of_lt_of_le hl (Nat.le_trans HD.out.size J4.out.size)) (fun e => by
          have h1 := HM.out
          have h2 := HD0.out.mp.lt
          have : mb = mbc := by simpa using e
          omega), J4.out.block mb (Nat.lt_of_lt_of_le hl HD.out.size), HD.out.block mb hl]
      have hrv8 : RangeV w8 r mb (mvs vs) (mvs (A' ++ B')) := HRV3.out.block hr2 hr1
      refine ⟨⟨vsc.put qk s2, fsd.put qk (D.file qk), A' ++ B', hrv8, HSB.out, HPM2.out, hadd, fun b hb => blk_add HNWR.out (fun g e => Nat.le_trans HOK5.out.size (Nat.le_trans HD.out.size (J2.out g e))) hb, ?_⟩, ?_⟩
      · exact (((Kp.of (S := fun _ => False) (HOK5.out.trans (HD.out.trans J4.out))).then (Kp.grown (S := fun b => b = mbc) HG5.out (fun j e => .inl (by simpa using e.symm))) (fun j hj e => by have := HM.out; omega))).toOk (fun _ e => e.elim)
      · rw [hrv8.left, ← HRV3.out.left]; exact HMT.out
end Go.Proofs.Ytfchjdhjbepocaa
