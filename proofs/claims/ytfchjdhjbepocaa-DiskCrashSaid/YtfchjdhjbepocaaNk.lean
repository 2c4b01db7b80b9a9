/- The law DiskCrash as mathematics. -/
import Derived.Test.YtfchjdhjbepocaaNj
namespace Go.Proofs.Ytfchjdhjbepocaa
open Go Go.RowKit

theorem put_len {α : Type} (l : Tb α) (k : Str) (v : α) : (l.put k v).length ≤ l.length + 1 := by
  induction l with
  | nil => exact Nat.le_refl _
  | cons p l ih =>
    unfold Tb.put
    split
    · simp
    · simp; exact ih
theorem put_len_in {α : Type} {l : Tb α} {k : Str} (v : α) (h : (l.at? k).isSome = true) : (l.put k v).length = l.length := by
  induction l with
  | nil => cases h
  | cons p l ih =>
    rw [Tb.at?_cons] at h
    unfold Tb.put
    by_cases e : p.1 = k
    · rw [if_pos e]; rfl
    · rw [if_neg e] at h ⊢
      simp [ih h]
theorem del_len {α : Type} (l : Tb α) (k : Str) : (l.del k).length ≤ l.length := (Tb.del_sub l k).length_le
/-- A disk behind some deeds. -/
structure Sz (t0 : Int) (B k : Nat) (D : Dk) : Prop where
  sz : D.size = t0
  us : used D.fs ≤ B
  cap : 1 ≤ t0 → (used D.fs : Int) ≤ t0
  ps : D.ps.length ≤ k
  nm : ∀ f ∈ D.fs, f.1.size ≤ 40
  ct : D.fs.length ≤ k
theorem Sz.new (t0 : Int) : Sz t0 0 0 (fresh0 t0) := ⟨rfl, Nat.le_refl _, fun h => by show (0 : Int) ≤ t0; omega, Nat.le_refl _, fun _ h => (by cases h), Nat.le_refl _⟩
theorem Sz.mono {t0 : Int} {B k B' k' : Nat} {D : Dk} (h : Sz t0 B k D) (hb : B ≤ B') (hk : k ≤ k') : Sz t0 B' k' D := ⟨h.sz, Nat.le_trans h.us hb, h.cap, Nat.le_trans h.ps hk, h.nm, Nat.le_trans h.ct hk⟩
theorem Sz.less {t0 : Int} {B k : Nat} {D D' : Dk} (h : Sz t0 B k D) (h1 : D'.size = D.size) (h2 : used D'.fs ≤ used D.fs) (h3 : D'.ps.length ≤ D.ps.length + 1) (h4 : ∀ f ∈ D'.fs, f.1.size ≤ 40) (h5 : D'.fs.length ≤ D.fs.length + 1) : Sz t0 B (k + 1) D' :=
  ⟨h1.trans h.sz, Nat.le_trans h2 h.us, fun q => by have := h.cap q; omega, by have := h.ps; omega, h4, by have := h.ct; omega⟩
theorem named_le {k : Str} (h : namedB k = true) : k.size ≤ 40 := by
  unfold namedB at h
  simp at h
  exact h.2
theorem rems_sub (D : Dk) (l : List Str) : (D.rems l).1.fs.Sublist D.fs := by
  induction l generalizing D with
  | nil => exact List.Sublist.refl _
  | cons k l ih =>
    rw [Dk.rems_cons]
    split
    · exact (ih (D.rem k)).trans (Tb.del_sub D.fs k)
    · exact List.Sublist.refl _
theorem used_rems {D : Dk} (h : D.Inv) (l : List Str) : used (D.rems l).1.fs ≤ used D.fs := by
  induction l generalizing D with
  | nil => exact Nat.le_refl _
  | cons k l ih =>
    rw [Dk.rems_cons]
    split
    · exact Nat.le_trans (ih (h.rem k)) (used_rem h k)
    · exact Nat.le_refl _
theorem at_some_nm {D : Dk} (hn : ∀ f ∈ D.fs, f.1.size ≤ 40) {k : Str} (h : (D.fs.at? k).isSome = true) : k.size ≤ 40 := by
  obtain ⟨v, hv⟩ := Option.isSome_iff_exists.1 h
  exact hn (k, v) (Tb.at_mem hv)
theorem Sz.act {t0 : Int} {B k : Nat} {D : Dk} (h : Sz t0 B k D) (hi : D.Inv) (r : Int) (d : Deed) : Sz t0 (B + d.parts.flatten.length) (k + 1) (D.actR r d).1 := by
  have h0 : Sz t0 (B + d.parts.flatten.length) (k + 1) D := h.mono (Nat.le_add_right _ _) (Nat.le_succ _)
  unfold Dk.actR
  split
  · unfold Dk.appR
    split
    · exact h0
    · rename_i hnb
      have hnm := named_le (show namedB d.name = true by simpa using hnb)
      split
      · exact h0
      · rename_i hfull
        refine ⟨h.sz, ?_, fun q => ?_, ?_, fun f hf => ?_, ?_⟩
        · rw [used_append hi]; have := h.us; omega
        · rw [used_append hi]
          have := h.sz
          have := h.cap q
          omega
        · unfold Dk.append
          simp only
          split
          · have := h.ps; omega
          · rw [List.length_append]; have := h.ps; simp; omega
        · rcases Tb.mem_put hf with rfl | hf
          · exact hnm
          · exact h.nm f hf
        · have := put_len D.fs d.name (D.file d.name ++ d.parts.flatten)
          have h2 := h.ct
          exact Nat.le_trans this (by omega)
  · refine Sz.mono ?_ (Nat.le_add_right B _) (Nat.le_refl (k + 1))
    split
    · have := syncs_len D d.names
      exact h.less this.2.2 (by rw [this.2.1]; exact Nat.le_refl _) (by have := this.1; simp only; omega) (by simp only [this.2.1]; exact h.nm) (by simp only [this.2.1]; omega)
    · split
      · unfold Dk.cutR
        split
        · rename_i hin
          split
          · exact h.mono (Nat.le_refl _) (Nat.le_succ _)
          · refine h.less rfl (used_cut hi _ _) ?_ (fun f hf => ?_) (put_len _ _ _)
            · show (stay zB _).length ≤ _
              have := stay_sub zB (sh d.name D.ps ((D.file d.name).length - d.num.toNat)).1
              rw [sh_len] at this
              omega
            · rcases Tb.mem_put hf with rfl | hf
              · exact at_some_nm h.nm hin
              · exact h.nm f hf
        · exact h.mono (Nat.le_refl _) (Nat.le_succ _)
      · split
        · unfold Dk.moveR
          split
          · split
            · rename_i hnb
              split
              · exact h.mono (Nat.le_refl _) (Nat.le_succ _)
              · refine h.less rfl (used_move hi _ _) ?_ (fun f hf => ?_) ?_
                · show (mvP _ _ (settle D.ps _)).length ≤ _
                  rw [mvP_len]
                  have := settle_len D.ps d.first
                  omega
                · rcases Tb.mem_put hf with rfl | hf
                  · exact named_le hnb
                  · exact h.nm f (Tb.mem_del hf)
                · have h1 := put_len (D.fs.del d.name) d.first (D.file d.name)
                  have h2 := del_len D.fs d.name
                  exact Nat.le_trans h1 (by omega)
            · exact h.mono (Nat.le_refl _) (Nat.le_succ _)
          · exact h.mono (Nat.le_refl _) (Nat.le_succ _)
        · split
          · have h1 := rems_len D d.names
            have h2 := rems_sub D d.names
            exact h.less h1.2 (used_rems hi _) (by have := h1.1; simp only; omega) (fun f hf => h.nm f (h2.subset hf)) (Nat.le_trans h2.length_le (Nat.le_succ _))
          · split
            · refine h.less rfl (used_crash _ _ _) (Nat.zero_le _) (fun f hf => ?_) ?_
              · obtain ⟨x, hx, rfl⟩ := List.mem_map.1 hf
                exact h.nm x hx
              · show (crashF _ _ D.fs).length ≤ _
                unfold crashF
                rw [List.length_map]
                exact Nat.le_succ _
            · exact h.mono (Nat.le_refl _) (Nat.le_succ _)
theorem Sz.few {t0 : Int} {B k : Nat} {D : Dk} (h : Sz t0 B k D) (hk : k ≤ 1000000) : Few D := ⟨h.nm, Nat.le_trans h.ct hk⟩
theorem Sz.small {t0 : Int} {B k : Nat} {D : Dk} (h : Sz t0 B k D) (hb : B ≤ 100000000) (hk : k ≤ 1000000) : Small D := ⟨Nat.le_trans h.us hb, Nat.le_trans h.ps hk⟩
/-- The same disk, its files in another order. -/
structure Like (D D' : Dk) : Prop where
  sz : D'.size = D.size
  ps : D'.ps = D.ps
  fs : D'.fs.Perm D.fs
theorem used_perm {a b : Tb (List B8)} (h : a.Perm b) : used a = used b := List.Perm.sum_nat (h.map _)
theorem Like.sz' {t0 : Int} {B k : Nat} {D D' : Dk} (h : Like D D') (hs : Sz t0 B k D) : Sz t0 B k D' :=
  ⟨h.sz.trans hs.sz, by rw [used_perm h.fs]; exact hs.us, fun q => by rw [used_perm h.fs]; exact hs.cap q, by rw [h.ps]; exact hs.ps, fun f hf => hs.nm f (h.fs.mem_iff.1 hf), by rw [h.fs.length_eq]; exact hs.ct⟩
theorem Like.at {D D' : Dk} (h : Like D D') (hi : D.Inv) (k : Str) : D'.fs.at? k = D.fs.at? k := (at_perm h.fs.symm hi.once k).symm
/-- What a crash leaves of a file. -/
def leftK (D : Dk) (keep : Int) (k : Str) : List B8 := keptB D.ps (keptF D.ps keep []) k (D.file k)
theorem Sz.crash {t0 : Int} {B k : Nat} {D : Dk} (h : Sz t0 B k D) (keep : Int) : Sz t0 B k (D.crash keep) :=
  ⟨h.sz, Nat.le_trans (used_crash _ _ _) h.us, fun q => by have h1 := h.cap q; have h2 := used_crash D.ps (keptF D.ps keep []) D.fs; show (used (crashF _ _ _) : Int) ≤ t0; omega, Nat.zero_le _, fun f hf => by
    obtain ⟨x, hx, rfl⟩ := List.mem_map.1 hf
    exact h.nm x hx, by show (crashF _ _ D.fs).length ≤ k; unfold crashF; rw [List.length_map]; exact h.ct⟩
theorem crash_at (D : Dk) (keep : Int) (k : Str) : (D.crash keep).fs.at? k = (D.fs.at? k).map (keptB D.ps (keptF D.ps keep []) k) := crashF_at _ _ _ _
theorem Like.crash_at {D D' : Dk} (h : Like D D') (hi : D.Inv) (keep : Int) (k : Str) : (D'.crash keep).fs.at? k = (D.fs.at? k).map fun _ => leftK D keep k := by
  rw [Go.Proofs.Ytfchjdhjbepocaa.crash_at, h.at hi, h.ps]
  unfold leftK Dk.file
  cases D.fs.at? k <;> rfl
theorem keptF_mono (l : List Pc) : ∀ (a b : Int) (m m' : Tb Nat), a ≤ b → (∀ k, (m.at? k).getD 0 ≤ (m'.at? k).getD 0) → ∀ k, ((keptF l a m).at? k).getD 0 ≤ ((keptF l b m').at? k).getD 0 := by
  induction l with
  | nil => intro a b m m' _ h k; exact h k
  | cons p l ih =>
    intro a b m m' hab h k
    refine ih _ _ _ _ ?_ (fun q => ?_) k
    · unfold kept1; omega
    · rw [Tb.at_put, Tb.at_put]
      have h1 : kept1 a p.2 ≤ kept1 b p.2 := by unfold kept1; omega
      split
      · rw [Option.getD_some, Option.getD_some]
        have := h p.1
        omega
      · exact h q
def nK (D : Dk) (keep : Int) (k : Str) : Nat := ((keptF D.ps keep []).at? k).getD 0
theorem leftK_eq {D : Dk} (hi : D.Inv) (keep : Int) (k : Str) : leftK D keep k = (D.file k).take ((D.file k).length - ofP D.ps k + nK D keep k) := by
  unfold leftK keptB nK
  have h1 := hi.within k
  cases e : (keptF D.ps keep []).at? k with
  | none =>
    have h2 := keptF_some D.ps keep [] k
    rw [e] at h2
    have h3 : ofP D.ps k = 0 := by
      have h4 : ∀ p ∈ D.ps, ¬ p.1 = k := fun p hp q => by
        have : (D.ps.any fun p => decide (p.1 = k)) = true := List.any_eq_true.2 ⟨p, hp, by simpa using q⟩
        rw [this] at h2
        simp at h2
      unfold ofP
      rw [List.filter_eq_nil_iff.2 (fun p hp => by simpa using h4 p hp)]
      rfl
    rw [h3]
    simp
  | some n => rfl
theorem nK_le (D : Dk) (keep : Int) (k : Str) : nK D keep k ≤ ofP D.ps k := by
  have := keptF_le D.ps keep [] k
  unfold nK
  simpa [Tb.at?_nil] using this
theorem leftK_len {D : Dk} (hi : D.Inv) (keep : Int) (k : Str) : (leftK D keep k).length + (ofP D.ps k - nK D keep k) = (D.file k).length := by
  rw [leftK_eq hi, List.length_take]
  have := hi.within k
  have := nK_le D keep k
  omega
theorem left_begins {D : Dk} (hi : D.Inv) {a b : Int} (hab : a ≤ b) (k : Str) : beginsB (leftK D a k) (leftK D b k) = true := by
  have h1 : nK D a k ≤ nK D b k := keptF_mono D.ps a b [] [] hab (fun _ => Nat.le_refl _) k
  rw [leftK_eq hi, leftK_eq hi]
  unfold beginsB eqB
  rw [Bool.and_eq_true, decide_eq_true_eq, decide_eq_true_eq, List.length_take, List.length_take]
  refine ⟨by omega, ?_⟩
  rw [List.take_take]
  have : ∀ (l : List B8) (x y : Nat), x ≤ y → l.take x = l.take (min (min x l.length) y) := fun l x y h => by
    by_cases hx : x ≤ l.length
    · rw [Nat.min_eq_left hx, Nat.min_eq_left h]
    · have h2 : min x l.length = l.length := by omega
      have h3 : min l.length y = l.length := by omega
      rw [h2, h3, List.take_of_length_le (by omega), List.take_of_length_le (Nat.le_refl _)]
  exact this _ _ _ (by omega)
theorem take_begins (l : List B8) (x : Nat) : beginsB (l.take x) l = true := by
  unfold beginsB eqB
  rw [Bool.and_eq_true, decide_eq_true_eq, decide_eq_true_eq, List.length_take]
  refine ⟨Nat.min_le_right _ _, ?_⟩
  by_cases hx : x ≤ l.length
  · rw [Nat.min_eq_left hx]
  · rw [Nat.min_eq_right (by omega), List.take_of_length_le (by omega), List.take_of_length_le (Nat.le_refl _)]
theorem left_begins2 {D : Dk} (hi : D.Inv) (a : Int) (k : Str) : beginsB (leftK D a k) (D.file k) = true := by
  rw [leftK_eq hi]; exact take_begins _ _
theorem sum_ite (ks : List Str) (a : Str) (v : Nat) (hn : ks.Nodup) (ha : a ∈ ks) : (ks.map fun k => if a = k then v else 0).sum = v := by
  induction ks with
  | nil => cases ha
  | cons k ks ih =>
    obtain ⟨h1, h2⟩ := List.nodup_cons.1 hn
    rw [List.map_cons, List.sum_cons]
    rcases List.mem_cons.1 ha with rfl | ha
    · have : (ks.map fun k => if a = k then v else 0).sum = 0 := by
        refine Nat.eq_zero_of_le_zero ?_
        clear ih hn h2 ha
        induction ks with
        | nil => exact Nat.le_refl _
        | cons q ks ih2 =>
          rw [List.map_cons, List.sum_cons, if_neg (fun e => h1 (by rw [e]; exact List.mem_cons_self ..))]
          have := ih2 (fun e => h1 (List.mem_cons_of_mem _ e))
          omega
      rw [if_pos rfl, this, Nat.add_zero]
    · rw [if_neg (fun e => h1 (by rw [← e]; exact ha)), ih h2 ha, Nat.zero_add]
theorem sum_add2 (ks : List Str) (f g : Str → Nat) : (ks.map fun k => f k + g k).sum = (ks.map f).sum + (ks.map g).sum := by
  induction ks with
  | nil => rfl
  | cons k ks ih => simp only [List.map_cons, List.sum_cons, ih]; omega
theorem sum_ofP (ks : List Str) (hn : ks.Nodup) (ps : List Pc) (h : ∀ p ∈ ps, p.1 ∈ ks) : (ks.map (ofP ps)).sum = many ps := by
  induction ps with
  | nil =>
    have : (ks.map (ofP [])).sum = 0 := by
      clear hn h
      induction ks with
      | nil => rfl
      | cons k ks ih => rw [List.map_cons, List.sum_cons, ih]; rfl
    rw [this]; rfl
  | cons p ps ih =>
    have e : (ks.map (ofP (p :: ps))) = ks.map fun k => (if p.1 = k then p.2 else 0) + ofP ps k := List.map_congr_left fun k _ => ofP_cons p ps k
    rw [e, sum_add2, sum_ite ks p.1 p.2 hn (h p (List.mem_cons_self ..)), many_cons]
    have := ih fun q hq => h q (List.mem_cons_of_mem _ hq)
    rw [show (ks.map fun k => ofP ps k) = ks.map (ofP ps) from rfl, this]
theorem sum_kept (ks : List Str) (hn : ks.Nodup) (ps : List Pc) (h : ∀ p ∈ ps, p.1 ∈ ks) : ∀ (keep : Int) (m : Tb Nat), (ks.map fun k => ((keptF ps keep m).at? k).getD 0).sum = (ks.map fun k => (m.at? k).getD 0).sum + kept1 keep (many ps) := by
  induction ps with
  | nil => intro keep m; show _ = _ + kept1 keep 0; unfold kept1; simp [keptF]; omega
  | cons p ps ih =>
    intro keep m
    have h1 := ih (fun q hq => h q (List.mem_cons_of_mem _ hq)) (keep - kept1 keep p.2) (m.put p.1 ((m.at? p.1).getD 0 + kept1 keep p.2))
    have e : (ks.map fun k => ((m.put p.1 ((m.at? p.1).getD 0 + kept1 keep p.2)).at? k).getD 0) = ks.map fun k => (m.at? k).getD 0 + if p.1 = k then kept1 keep p.2 else 0 := List.map_congr_left fun k _ => by
      rw [Tb.at_put]
      split
      · rename_i q; rw [Option.getD_some, q]
      · rfl
    show (ks.map fun k => ((keptF ps _ _).at? k).getD 0).sum = _
    rw [h1, e, sum_add2, sum_ite ks p.1 _ hn (h p (List.mem_cons_self ..)), many_cons, ← kept1_two]
    omega
/-- So much is gone of a file. -/
def goneK (D : Dk) (keep : Int) (k : Str) : Nat := ofP D.ps k - nK D keep k
def gones (D : Dk) (keep : Int) (ks : List Str) : Nat := (ks.map (goneK D keep)).sum
theorem inv_names {D : Dk} (hi : D.Inv) : ∀ p ∈ D.ps, p.1 ∈ D.fs.map Prod.fst := fun p hp => by
  obtain ⟨v, hv⟩ := Option.isSome_iff_exists.1 (hi.there hp)
  exact List.mem_map.2 ⟨_, Tb.at_mem hv, rfl⟩
theorem gones_all {D : Dk} (hi : D.Inv) (keep : Int) (hk : 0 ≤ keep) {ks : List Str} (h : ks.Perm (D.fs.map Prod.fst)) : (gones D keep ks : Int) = (many D.ps : Int) - min (many D.ps : Int) keep := by
  have hn : (D.fs.map Prod.fst).Nodup := List.pairwise_map.2 hi.once
  have h1 := sum_ofP _ hn D.ps (inv_names hi)
  have h2 := sum_kept _ hn D.ps (inv_names hi) keep []
  have h0 : ((D.fs.map Prod.fst).map fun k => (Tb.at? ([] : Tb Nat) k).getD 0).sum = 0 := by
    generalize D.fs.map Prod.fst = l
    induction l with
    | nil => rfl
    | cons k l ih => rw [List.map_cons, List.sum_cons, ih]; rfl
  rw [h0, Nat.zero_add] at h2
  have h3 : gones D keep ks = gones D keep (D.fs.map Prod.fst) := List.Perm.sum_nat (h.map _)
  have h4 : gones D keep (D.fs.map Prod.fst) + ((D.fs.map Prod.fst).map (nK D keep)).sum = ((D.fs.map Prod.fst).map (ofP D.ps)).sum := by
    unfold gones
    rw [← sum_add2]
    congr 1
    refine List.map_congr_left fun k _ => ?_
    have := nK_le D keep k
    unfold goneK
    omega
  have h5 : ((D.fs.map Prod.fst).map (nK D keep)).sum = kept1 keep (many D.ps) := h2
  rw [h3]
  rw [h1, h5] at h4
  unfold kept1 at h4
  omega
theorem syncs_filter (D : Dk) (l : List Str) (h : ∀ k ∈ l, (D.fs.at? k).isSome = true) : D.syncs l = ({ D with ps := D.ps.filter fun p => !(l.any fun q => decide (p.1 = q)) }, true) := by
  induction l generalizing D with
  | nil =>
    show (D, true) = _
    rw [List.filter_eq_self.2 (fun p _ => by simp)]
  | cons k l ih =>
    rw [Dk.syncs_cons, if_pos (h k (List.mem_cons_self ..)), ih (D.sync k) fun q hq => h q (List.mem_cons_of_mem _ hq)]
    unfold Dk.sync settle
    simp only [List.filter_filter]
    congr 2
    refine List.filter_congr fun p _ => ?_
    by_cases e : p.1 = k
    · simp [e]
    · simp [e]
theorem syncs_all {D : Dk} (hi : D.Inv) {l : List Str} (h : l.Perm (D.fs.map Prod.fst)) : D.syncs l = ({ D with ps := [] }, true) := by
  rw [syncs_filter D l fun k hk => by
    obtain ⟨f, hf, rfl⟩ := List.mem_map.1 (h.mem_iff.1 hk)
    rw [Tb.mem_at hi.once hf]
    rfl]
  rw [List.filter_eq_nil_iff.2 fun p hp => by
    have := h.mem_iff.2 (inv_names hi p hp)
    simp only [Bool.not_eq_true']
    rw [Bool.not_eq_false]
    exact List.any_eq_true.2 ⟨_, this, by simp⟩]
theorem crash_none (D : Dk) (h : D.ps = []) (keep : Int) : D.crash keep = D := by
  obtain ⟨size, ps, fs⟩ := D
  cases h
  unfold Dk.crash
  show Dk.mk size [] (crashF [] (keptF [] keep []) fs) = _
  rw [show keptF [] keep [] = [] from rfl, crashF_nil]
end Go.Proofs.Ytfchjdhjbepocaa
