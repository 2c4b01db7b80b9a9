/- Rows and spans, as plain mathematics: the rows of the pieces of a cut, one behind the other, are all rows; what is taken and put back is as it was. -/
import Derived.Test.YtebhcadolnjplaaXe
import Derived.Test.YtebhcadolnjplaaEn
namespace Go.Proofs.Ytebhcadolnjplaa
open Go.RowKit

theorem filt_join (p q : Rw → Bool) : ∀ l : List Rw, (l.Pairwise fun a b => q a = true → p b = false) → (∀ a ∈ l, p a = true → q a = false) → l.filter p ++ l.filter q = l.filter (fun r => p r || q r)
  | [], _, _ => rfl
  | a :: l, h, hd => by
    obtain ⟨h1, h2⟩ := List.pairwise_cons.1 h
    have ih := filt_join p q l h2 (fun b hb => hd b (List.mem_cons_of_mem _ hb))
    cases hp : p a with
    | true =>
      have hq := hd a (List.mem_cons_self ..) hp
      simp only [List.filter_cons, hp, hq, Bool.true_or, if_true, if_false, Bool.false_eq_true, List.cons_append, ih]
    | false =>
      cases hq : q a with
      | false => simp only [List.filter_cons, hp, hq, Bool.or_self, if_false, Bool.false_eq_true, ih]
      | true =>
        have hn : l.filter p = [] := List.filter_eq_nil_iff.2 (fun b hb => by rw [h1 b hb hq]; exact Bool.false_ne_true)
        rw [hn, List.nil_append] at ih
        simp only [List.filter_cons, hp, hq, Bool.or_true, if_true, if_false, Bool.false_eq_true, ih, hn, List.nil_append]
theorem Rises.pw : ∀ {l : List Rw}, Rises l → l.Pairwise fun a b => ltB a.key b.key = true
  | [], _ => List.Pairwise.nil
  | _ :: _, h => List.pairwise_cons.2 ⟨(rises_cons h).1, (rises_cons h).2.pw⟩
def allK (l : List Rw) : Prop := ∀ r, r ∈ l → keyB r.key = true
theorem meant_piece {s : Sp} (hs : rightB s = true) {l : List Rw} (hk : allK l) : meant s l = l.filter fun r => !ltB r.key s.lo && aboveB s.hi r.key := by
  unfold meant
  refine List.filter_congr fun r hr => ?_
  unfold hasB
  rw [hs, hk r hr]
  simp
theorem cut_rows_st {l : List Rw} (hr : Rises l) (hk : allK l) (ks : List Str) : ((cutSt allS ks).1.flatMap fun p => meant p l) = l.filter (fun r => ltB r.key (cutSt allS ks).2) := by
  suffices H : ∀ (n : Nat) (ks : List Str), ks.length = n → ((cutSt allS ks).1.flatMap fun p => meant p l) = l.filter (fun r => ltB r.key (cutSt allS ks).2) from H _ ks rfl
  intro n
  induction n with
  | zero =>
    intro ks hn
    obtain rfl := List.length_eq_zero_iff.1 hn
    refine (List.filter_eq_nil_iff.2 fun r _ => ?_).symm
    show ¬ ltB r.key allS.lo = true
    have := hasB_all
    unfold ltB
    rw [show allS.lo.toList = [] from by kernel_rfl]
    cases r.key.toList <;> simp [Op.bytesLess]
  | succ n ih =>
    intro ks hn
    obtain ⟨ks', k, rfl⟩ : ∃ a b, ks = a ++ [b] := by
      rcases List.eq_nil_or_concat ks with rfl | ⟨a, b, rfl⟩
      · simp at hn
      · exact ⟨a, b, by simp⟩
    have hn' : ks'.length = n := by simpa using hn
    have ih' := ih ks' hn'
    have hinv := inv_all right_all ks'
    rw [cutSt_snoc]
    generalize cutSt allS ks' = st at *
    unfold cutStep
    cases hc : (hasB allS k && ltB st.2 k) with
    | false => simpa using ih'
    | true =>
      obtain ⟨h1, h2⟩ := (Bool.and_eq_true _ _).mp hc
      obtain ⟨hno, hrp, _⟩ := piece right_all hinv.at' h1 h2
      simp only [if_true, List.flatMap_append, List.flatMap_cons, List.flatMap_nil, List.append_nil]
      rw [ih', meant_piece hrp hk, filt_join]
      · refine List.filter_congr fun r hr' => ?_
        have hab : aboveB k r.key = ltB r.key k := by unfold aboveB; rw [hno]; rfl
        show (ltB r.key st.2 || !ltB r.key st.2 && aboveB k r.key) = ltB r.key k
        rw [hab]
        cases hx : ltB r.key st.2 with
        | true => rw [ltB_trans hx h2]; rfl
        | false => simp
      · refine hr.pw.imp fun {a b} hab hq => ?_
        cases hb : ltB b.key st.2 with
        | false => rfl
        | true =>
          have := ltB_trans hab hb
          rw [this] at hq
          simp at hq
      · intro a _ ha
        rw [ha]; rfl
theorem cut_rows {l : List Rw} (hr : Rises l) (hk : allK l) (ks : List Str) : ((cutM allS ks).flatMap fun p => meant p l) = l := by
  have hinv := inv_all right_all ks
  have hst := cut_rows_st hr hk ks
  unfold cutM
  rw [if_pos right_all]
  generalize cutSt allS ks = st at *
  have hlast := last right_all hinv.at'
  simp only [List.flatMap_append, List.flatMap_cons, List.flatMap_nil, List.append_nil]
  rw [hst, meant_piece hlast.1 hk, filt_join]
  · refine List.filter_eq_self.2 fun r _ => ?_
    have hab : aboveB allS.hi r.key = true := by unfold aboveB; rw [show noB allS.hi = true from by kernel_rfl]; rfl
    rw [hab]
    cases ltB r.key st.2 <;> rfl
  · refine hr.pw.imp fun {a b} hab hq => ?_
    cases hb : ltB b.key st.2 with
    | false => rfl
    | true =>
      have := ltB_trans hab hb
      rw [this] at hq
      simp at hq
  · intro a _ ha
    rw [ha]; rfl
theorem cut_rows_take {l : List Rw} (hr : Rises l) (hk : allK l) (ks : List Str) (i : Nat) : (((cutM allS ks).take i).flatMap fun p => meant p l).length ≤ l.length := by
  have h := congrArg List.length (cut_rows hr hk ks)
  rw [← List.take_append_drop i (cutM allS ks), List.flatMap_append, List.length_append] at h
  omega
theorem stay_len_add (s : Sp) (l : List Rw) : (stay s l).length + (meant s l).length = l.length := by
  unfold stay meant
  induction l with
  | nil => rfl
  | cons a l ih =>
    simp only [List.filter_cons]
    cases hasB s a.key <;> simp <;> omega
theorem Rises.sub {l m : List Rw} (h : Rises l) (hs : m.Sublist l) : Rises m := by
  have := h.pw.sublist hs
  intro i j hij hj
  have hi : i < m.length := by omega
  have := List.pairwise_iff_getElem.1 this i j hi hj hij
  simpa [rwA, hi, hj] using this
theorem stay_rises {s : Sp} {l : List Rw} (h : Rises l) : Rises (stay s l) := h.sub List.filter_sublist
theorem meant_rises {s : Sp} {l : List Rw} (h : Rises l) : Rises (meant s l) := h.sub List.filter_sublist
theorem meant_twice (s : Sp) (l : List Rw) : meant s (stay s l) = [] := by
  unfold meant stay
  rw [List.filter_filter, List.filter_eq_nil_iff]
  intro r _
  cases hasB s r.key <;> simp
theorem put_back {s : Sp} {l l' : List Rw} (h : Rises l) (hl : LaidAll (stay s l) (meant s l) l') : l' = l := by
  refine rises_ext _ _ (hl.spec (stay_rises h)).1 h fun x => ?_
  rw [hl.mem (stay_rises h)]
  constructor
  · rintro (q | ⟨q, _⟩)
    · exact (List.mem_filter.1 (lastIn_mem q)).1
    · exact (List.mem_filter.1 q).1
  · intro hx
    cases hq : hasB s x.key with
    | true =>
      left
      have hm : x ∈ meant s l := List.mem_filter.2 ⟨hx, hq⟩
      obtain ⟨a, b, e⟩ := List.append_of_mem hm
      refine ⟨a, b, e, fun y hy => ?_⟩
      have ho := (meant_rises (s := s) h).pw
      rw [e] at ho
      have := (List.pairwise_append.1 ho).2.1
      have := (List.pairwise_cons.1 this).1 y hy
      exact fun e => ne_of_lt this e.symm
    | false =>
      right
      refine ⟨List.mem_filter.2 ⟨hx, by rw [hq]; rfl⟩, fun y hy e => ?_⟩
      have := (List.mem_filter.1 hy).2
      rw [e, hq] at this
      cases this
theorem found_stay {s : Sp} {l : List Rw} (h : Rises l) {x : Rw} (hx : x ∈ l) {k : Nat} (hp : Place (stay s l) x.key k) : foundB (stay s l) x.key k = !hasB s x.key ∧ (foundB (stay s l) x.key k = true → rwA (stay s l) k = x) := by
  have hinj : ∀ y, y ∈ l → y.key = x.key → y = x := by
    intro y hy e
    obtain ⟨i, hi, rfl⟩ := (mem_rwA _ _).1 hy
    obtain ⟨j, hj, rfl⟩ := (mem_rwA _ _).1 hx
    rw [h.inj hi hj e]
  cases hf : foundB (stay s l) x.key k with
  | true =>
    obtain ⟨hk, he⟩ := place_yes hf
    have hm := (mem_rwA _ _).2 ⟨k, hk, rfl⟩
    have hml := List.mem_filter.1 hm
    have e := hinj _ hml.1 he
    refine ⟨?_, fun _ => e⟩
    have := hml.2
    rw [e] at this
    exact this.symm
  | false =>
    refine ⟨?_, fun h => by cases h⟩
    cases hq : hasB s x.key with
    | true => rfl
    | false =>
      exfalso
      have hm : x ∈ stay s l := List.mem_filter.2 ⟨hx, by rw [hq]; rfl⟩
      obtain ⟨j, hj, rfl⟩ := (mem_rwA _ _).1 hm
      rcases Nat.lt_or_ge j k with hjk | hjk
      · have := hp.low j hjk
        rw [ltB_irrefl] at this
        cases this
      · have := place_no (stay_rises h) hp hf j hjk hj
        rw [ltB_irrefl] at this
        cases this
theorem laid_key {l xs l' : List Rw} (hr : Rises l) (hk : allK l) (hx : allR xs = true) (h : LaidAll l xs l') : allK l' := by
  intro r hm
  rcases (h.mem hr r).1 hm with q | ⟨q, _⟩
  · obtain ⟨j, hj, rfl⟩ := (mem_rwA _ _).1 (lastIn_mem q)
    exact rowB_key ((allR_iff xs).1 hx j hj)
  · exact hk r q
def rightL (l : List Rw) : Prop := ∀ r, r ∈ l → rowB r = true
theorem rightL.all {l : List Rw} (h : rightL l) : allR l = true := (allR_iff l).2 fun _ hj => h _ (rwA_mem _ _ hj)
theorem rightL.key {l : List Rw} (h : rightL l) : allK l := fun r hr => rowB_key (h r hr)
theorem rightL.laid {l xs l' : List Rw} (hr : Rises l) (hk : rightL l) (hx : allR xs = true) (h : LaidAll l xs l') : rightL l' := by
  intro r hm
  rcases (h.mem hr r).1 hm with q | ⟨q, _⟩
  · obtain ⟨j, hj, rfl⟩ := (mem_rwA _ _).1 (lastIn_mem q)
    exact (allR_iff xs).1 hx j hj
  · exact hk r q
theorem rightL.nil : rightL [] := fun _ h => by cases h
theorem rightL.sub {l m : List Rw} (h : rightL l) (hs : ∀ r, r ∈ m → r ∈ l) : rightL m := fun r hr => h r (hs r hr)
theorem meant_allK {l : List Rw} (h : allK l) : meant allS l = l := List.filter_eq_self.2 fun r hr => hasB_all _ (h r hr)
end Go.Proofs.Ytebhcadolnjplaa
