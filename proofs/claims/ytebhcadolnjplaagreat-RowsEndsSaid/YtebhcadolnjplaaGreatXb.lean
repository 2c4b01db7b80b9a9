/- Rows: rows are put into a table. -/
import Derived.Test.YtebhcadolnjplaaGreatXa
namespace Go.Proofs.YtebhcadolnjplaaGreat
open Go.RowKit

/-- l' is l with the row r laid into it. -/
def Laid (l : List Rw) (r : Rw) (l' : List Rw) : Prop := ∃ k, Place l r.key k ∧ l' = if foundB l r.key k then l.set k r else insR l k r
theorem rwA_mem (l : List Rw) (j : Nat) (h : j < l.length) : rwA l j ∈ l := by
  unfold rwA
  rw [List.getD_eq_getElem?_getD, List.getElem?_eq_getElem h]
  exact List.getElem_mem h
theorem mem_rwA (l : List Rw) (x : Rw) : x ∈ l ↔ ∃ j, j < l.length ∧ rwA l j = x := by
  constructor
  · intro h
    obtain ⟨j, hj, rfl⟩ := List.mem_iff_getElem.1 h
    exact ⟨j, hj, by unfold rwA; rw [List.getD_eq_getElem?_getD, List.getElem?_eq_getElem hj]; rfl⟩
  · rintro ⟨j, hj, rfl⟩
    exact rwA_mem l j hj
theorem rises_nil : Rises [] := fun i j _ h => by cases h
theorem Rises.inj {l : List Rw} (h : Rises l) {i j : Nat} (hi : i < l.length) (hj : j < l.length) (e : (rwA l i).key = (rwA l j).key) : i = j := by
  rcases Nat.lt_trichotomy i j with q | q | q
  · have := h i j q hj
    rw [e, lt_irr] at this; cases this
  · exact q
  · have := h j i q hi
    rw [e, lt_irr] at this; cases this
theorem rwA_ins (l : List Rw) (k : Nat) (r : Rw) (hk : k ≤ l.length) (j : Nat) : rwA (insR l k r) j = if j < k then rwA l j else if j = k then r else rwA l (j - 1) := by
  have hl : (l.take k).length = k := by rw [List.length_take]; omega
  unfold rwA insR
  simp only [List.getD_eq_getElem?_getD]
  by_cases q : j < k
  · rw [if_pos q, List.getElem?_append_left (by omega), List.getElem?_take, if_pos q]
  · rw [if_neg q, List.getElem?_append_right (by omega), hl]
    by_cases e : j = k
    · subst e; simp
    · rw [if_neg e, show j - k = (j - 1 - k) + 1 from by omega, List.getElem?_cons_succ, List.getElem?_drop, show k + (j - 1 - k) = j - 1 from by omega]
theorem rwA_set (l : List Rw) (k : Nat) (r : Rw) (hk : k < l.length) (j : Nat) : rwA (l.set k r) j = if j = k then r else rwA l j := by
  unfold rwA
  simp only [List.getD_eq_getElem?_getD, List.getElem?_set]
  by_cases e : j = k
  · subst e; simp [hk]
  · rw [if_neg e, if_neg (fun q => e q.symm)]
theorem place_no {l : List Rw} {t : Str} {k : Nat} (hr : Rises l) (h : Place l t k) (hf : foundB l t k = false) (j : Nat) (hj : k ≤ j) (hl : j < l.length) : ltB t (rwA l j).key = true := by
  have hk : ltB t (rwA l k).key = true := by
    have h1 := h.high k (Nat.le_refl _) (by omega)
    cases q : ltB t (rwA l k).key with
    | true => rfl
    | false =>
      have := ltB_total h1 q
      unfold foundB at hf
      rw [decide_eq_true (show k < l.length by omega), decide_eq_true this] at hf
      cases hf
  rcases Nat.lt_or_eq_of_le hj with q | q
  · exact ltB_trans hk (hr k j q hl)
  · rw [← q]; exact hk
theorem place_yes {l : List Rw} {t : Str} {k : Nat} (hf : foundB l t k = true) : k < l.length ∧ (rwA l k).key = t := by
  unfold foundB at hf
  rw [Bool.and_eq_true] at hf
  exact ⟨of_decide_eq_true hf.1, of_decide_eq_true hf.2⟩
theorem ne_of_lt {a b : Str} (h : ltB a b = true) : a ≠ b := fun e => by rw [e, lt_irr] at h; cases h
theorem Laid.spec {l l' : List Rw} {r : Rw} (hr : Rises l) (h : Laid l r l') : Rises l' ∧ (∀ x, x ∈ l' ↔ x = r ∨ (x ∈ l ∧ x.key ≠ r.key)) ∧ l'.length ≤ l.length + 1 := by
  obtain ⟨k, hp, rfl⟩ := h
  cases hf : foundB l r.key k with
  | true =>
    obtain ⟨hk, he⟩ := place_yes hf
    have hs := rwA_set l k r hk
    have hkey : ∀ j, (rwA (l.set k r) j).key = (rwA l j).key := fun j => by
      rw [hs]; split
      · rename_i e; rw [e, he]
      · rfl
    rw [if_pos rfl]
    refine ⟨fun i j hij hj => by rw [hkey, hkey]; exact hr i j hij (by simpa using hj), fun x => ?_, by rw [List.length_set]; omega⟩
    constructor
    · intro hx
      obtain ⟨j, hj, rfl⟩ := (mem_rwA _ _).1 hx
      rw [List.length_set] at hj
      rw [hs]
      by_cases e : j = k
      · rw [if_pos e]; exact .inl rfl
      · rw [if_neg e]
        exact .inr ⟨rwA_mem l j hj, fun q => e (hr.inj hj hk (q.trans he.symm))⟩
    · intro hx
      rw [mem_rwA]
      rcases hx with rfl | ⟨hx, hn⟩
      · exact ⟨k, by rw [List.length_set]; exact hk, by rw [hs, if_pos rfl]⟩
      · obtain ⟨j, hj, rfl⟩ := (mem_rwA _ _).1 hx
        have e : j ≠ k := fun e => hn (by rw [e]; exact he)
        exact ⟨j, by rw [List.length_set]; exact hj, by rw [hs, if_neg e]⟩
  | false =>
    rw [if_neg (by decide)]
    have hk := hp.le
    have hi := rwA_ins l k r hk
    have hlen := insR_len l k r l.length rfl hk
    have hno := place_no hr hp hf
    refine ⟨fun i j hij hj => ?_, fun x => ?_, by omega⟩
    · rw [hlen] at hj
      rw [hi i, hi j]
      by_cases c1 : i < k
      · rw [if_pos c1]
        by_cases c2 : j < k
        · rw [if_pos c2]; exact hr i j hij (by omega)
        · rw [if_neg c2]
          by_cases c3 : j = k
          · rw [if_pos c3]; exact hp.low i c1
          · rw [if_neg c3]; exact hr i (j - 1) (by omega) (by omega)
      · rw [if_neg c1, if_neg (by omega : ¬ j < k), if_neg (by omega : ¬ j = k)]
        by_cases c3 : i = k
        · rw [if_pos c3]; exact hno (j - 1) (by omega) (by omega)
        · rw [if_neg c3]; exact hr (i - 1) (j - 1) (by omega) (by omega)
    · constructor
      · intro hx
        obtain ⟨j, hj, rfl⟩ := (mem_rwA _ _).1 hx
        rw [hlen] at hj
        rw [hi j]
        by_cases c1 : j < k
        · rw [if_pos c1]
          exact .inr ⟨rwA_mem l j (by omega), ne_of_lt (hp.low j c1)⟩
        · rw [if_neg c1]
          by_cases c2 : j = k
          · rw [if_pos c2]; exact .inl rfl
          · rw [if_neg c2]
            exact .inr ⟨rwA_mem l _ (by omega), fun e => ne_of_lt (hno (j - 1) (by omega) (by omega)) e.symm⟩
      · intro hx
        rw [mem_rwA]
        rcases hx with rfl | ⟨hx, hn⟩
        · exact ⟨k, by omega, by rw [hi, if_neg (by omega), if_pos rfl]⟩
        · obtain ⟨j, hj, rfl⟩ := (mem_rwA _ _).1 hx
          by_cases c1 : j < k
          · exact ⟨j, by omega, by rw [hi, if_pos c1]⟩
          · exact ⟨j + 1, by omega, by rw [hi, if_neg (by omega), if_neg (by omega)]; rfl⟩
theorem rises_cons {a : Rw} {s : List Rw} (h : Rises (a :: s)) : (∀ x, x ∈ s → ltB a.key x.key = true) ∧ Rises s := by
  refine ⟨fun x hx => ?_, fun i j hij hj => h (i + 1) (j + 1) (by omega) (by simpa using hj)⟩
  obtain ⟨j, hj, rfl⟩ := (mem_rwA _ _).1 hx
  exact h 0 (j + 1) (by omega) (by simpa using hj)
/-- Two that rise and have the same rows are the same. -/
theorem rises_ext : ∀ (l l' : List Rw), Rises l → Rises l' → (∀ x, x ∈ l ↔ x ∈ l') → l = l'
  | [], [], _, _, _ => rfl
  | [], b :: t, _, _, h => absurd ((h b).2 (List.mem_cons_self ..)) (by simp)
  | a :: s, [], _, _, h => absurd ((h a).1 (List.mem_cons_self ..)) (by simp)
  | a :: s, b :: t, h1, h2, h => by
    obtain ⟨a1, a2⟩ := rises_cons h1
    obtain ⟨b1, b2⟩ := rises_cons h2
    have e : a = b := by
      rcases List.mem_cons.1 ((h a).1 (List.mem_cons_self ..)) with e | q
      · exact e
      · rcases List.mem_cons.1 ((h b).2 (List.mem_cons_self ..)) with e | p
        · exact e.symm
        · have := ltB_trans (b1 a q) (a1 b p)
          rw [lt_irr] at this; cases this
    subst e
    have hs := rises_ext s t a2 b2 (fun x => by
      constructor
      · intro hx
        rcases List.mem_cons.1 ((h x).1 (List.mem_cons_of_mem _ hx)) with e | q
        · subst e; exact absurd rfl (ne_of_lt (a1 x hx))
        · exact q
      · intro hx
        rcases List.mem_cons.1 ((h x).2 (List.mem_cons_of_mem _ hx)) with e | q
        · subst e; exact absurd rfl (ne_of_lt (b1 x hx))
        · exact q)
    rw [hs]
end Go.Proofs.YtebhcadolnjplaaGreat
namespace Go.Proofs.YtebhcadolnjplaaGreat
open Go.RowKit

theorem OwnR.cell2 {w : World} {B g n c : Nat} {l : List Rw} (h : OwnR w B (some ⟨g, 0, none⟩) n c l) (j : Nat) (hj : j < n) : w.cell? ⟨g, j * 2, none⟩ = some (.string (rwA l j).key) ∧ w.cell? ⟨g, j * 2 + 1, none⟩ = some (.string (rwA l j).val) := by
  obtain ⟨b, off, e, h0, h1⟩ := h.rows j (by rw [h.1]; exact hj)
  simp only [Option.some.injEq, Addr.mk.injEq] at e
  obtain ⟨rfl, rfl, _⟩ := e
  rw [Nat.zero_add] at h0 h1
  exact ⟨h0, h1⟩
theorem OwnR.froz {w : World} {B g n c : Nat} {l : List Rw} (h : OwnR w B (some ⟨g, 0, none⟩) n c l) (j : Nat) : w.frozen? ⟨g, j, none⟩ = false := World.ownsRow.frozenAt h.2 j
theorem flat2_set (l : List Rw) (k : Nat) (a b : Str) : ((flat2 l).set (k * 2) (.string a)).set (k * 2 + 1) (.string b) = flat2 (l.set k ⟨a, b⟩) := by
  induction l generalizing k with
  | nil => simp [flat2]
  | cons x s ih =>
    have e : ∀ (y : Rw) (t : List Rw), flat2 (y :: t) = .string y.key :: .string y.val :: flat2 t := fun y t => rfl
    cases k with
    | zero => exact rfl
    | succ k =>
      rw [e, List.set_cons_succ, e, ← ih k, show (k + 1) * 2 = k * 2 + 1 + 1 from by omega]
      rfl
theorem OwnR.set {w : World} {B g n c : Nat} {l : List Rw} (h : OwnR w B (some ⟨g, 0, none⟩) n c l) (k : Nat) (a b : Str) :
    OwnR ((w.setCell ⟨g, k * 2, none⟩ (.string a)).setCell ⟨g, k * 2 + 1, none⟩ (.string b)) B (some ⟨g, 0, none⟩) n c (l.set k ⟨a, b⟩) := by
  refine ⟨by rw [List.length_set]; exact h.1, ?_⟩
  rw [← flat2_set]
  exact (World.ownsRow.stored (World.ownsRow.stored h.2 _ _).1 _ _).1
theorem ownsRow_base {w : World} {B B' e size n : Nat} {v : Value} {xs : List Value} (h : w.ownsRow B e size v n xs) (hb : B' ≤ B) : w.ownsRow B' e size v n xs := by
  refine ⟨h.1, ?_⟩
  rcases h.2 with q | ⟨g, cap, cur, e1, e2, r⟩
  · exact .inl q
  · exact .inr ⟨g, cap, cur, e1, Nat.le_trans hb e2, r⟩
theorem OwnR.far {w : World} {B p : Nat} {A : Option Addr} {n c : Nat} {l : List Rw} (h : OwnR w B A n c l) (hp : p < B) (o : Nat) (v : Value) : OwnR (w.setCell ⟨p, o, none⟩ v) B A n c l :=
  ⟨h.1, h.2.1, by
    rcases h.2.2 with q | ⟨g, cap, cur, e1, e2, e3, r⟩
    · exact .inl q
    · exact .inr ⟨g, cap, cur, e1, e2, by rw [Below.heap_setCell w ⟨p, o, none⟩ v g (by show g ≠ p; omega)]; exact e3, r⟩⟩
/-- A table whose rows lie in a younger block. -/
structure TabY (p : Nat) (A : Option Addr) (n c : Nat) (l : List Rw) (w : World) : Prop where
  c0 : w.cell? ⟨p, 0, none⟩ = some (.slice A n c)
  c1 : w.cell? ⟨p, 1, none⟩ = some (.bool true)
  f : ∀ k, w.frozen? ⟨p, k, none⟩ = false
  own : OwnR w (p + 1) A n c l
theorem TabY.tab {p : Nat} {A : Option Addr} {n c : Nat} {l : List Rw} {w : World} (h : TabY p A n c l w) : TabAt p A n c l w :=
  ⟨h.c0, h.c1, h.f, ⟨h.own.1, ownsRow_base h.own.2 (Nat.zero_le _)⟩, fun a e => by have := (h.own.2.lt a.block (by rw [e]; rfl)).1; omega⟩
def LayP (p : Nat) (l : List Rw) (r : Rw) (W : World) (e : Ending) (w' : World) : Prop := e = .returned (.tuple #[]) ∧ ∃ A' n' c' l', Laid l r l' ∧ TabY p A' n' c' l' w' ∧ Below p W w'
set_option maxRecDepth 100000 in
set_option maxHeartbeats 4000000 in
theorem lay_f (p : Nat) (A : Option Addr) (n c : Nat) (l : List Rw) (km vm : Str) (W : World) (h : TabY p A n c l W) (hn : n ≤ 100000) (hr : Rises l) :
    Calls Tryz.prog 47 #[.pointer (some ⟨p, 0, none⟩), .agg #[.string km, .string vm]] W (LayP p l ⟨km, vm⟩ W) := by
  have hpl := h.tab.lt
  obtain ⟨q, hq⟩ : ∃ q, W.heap.size = q := ⟨_, rfl⟩
  have HQC : Hid ((W.alloc (.cells #[.string km, .string vm] 48)).cell? ⟨q, 0, none⟩ = some (.string km) ∧ (W.alloc (.cells #[.string km, .string vm] 48)).cell? ⟨q, 1, none⟩ = some (.string vm)) := Lib.hid (by rw [← hq]; exact two_new W _ _ _)
  have HO0 : Hid (Ok W (W.alloc (.cells #[.string km, .string vm] 48))) := Lib.hid ((Ok.refl W).alloc _)
  have HQ := Lib.hid hq
  have HT := Lib.hid h
  have HB := Lib.hid h.own
  have HN := Lib.hid hn
  have HPL : Hid (p + 1 ≤ W.heap.size) := Lib.hid hpl
  have HR := Lib.hid hr
  clear h hn hpl hr
  go_enter Tryz.func47, Tryz.ntmps47
  go_upto_region 1 with fail
  clear hq
  generalize W.alloc (.cells #[.string km, .string vm] 48) = w0 at *
  have u1 := HQC.out.1
  have u2 := HQC.out.2
  have hpf := place_f p A n c l km w0 (HT.out.tab.ok HO0.out) (Nat.le_trans HN.out (by decide)) HR.out
  go_wp2_with fail
  refine hpf.mono ?_
  clear hpf
  rintro _ w1 ⟨k, hp, rfl, o1⟩
  have HPK := Lib.hid hp
  have HO : Hid (Ok W w1) := Lib.hid (HO0.out.trans o1)
  have s1 := o1.cell HQC.out.1
  have s2 := o1.cell HQC.out.2
  have s0 := HO.out.cell HT.out.c0
  clear hp o1 HO0 HQC u1 u2
  cases hfb : foundB l km k with
  | true =>
    have HKN : Hid (k < n) := Lib.hid (by rw [← HB.out.1]; exact (place_yes hfb).1)
    obtain ⟨g, rfl⟩ : ∃ g, A = some ⟨g, 0, none⟩ := by
      rcases HB.out.nc with ⟨_, q, _⟩ | q
      · have := HKN.out; omega
      · exact q
    have HGP : Hid (g ≠ p) := Lib.hid (by have := (HB.out.2.lt g rfl).1; omega)
    have hkn := HKN.out
    have hk0 : (0 : Int) ≤ (k : Int) := Int.natCast_nonneg _
    have hk1 : (k : Int) < (n : Int) := by omega
    have HFB := Lib.hid hfb
    clear hfb hkn
    go_upto_region 3 with fail
    refine Until.begin (S := fun V => V.cell? ⟨p, 0, none⟩ = some (.slice (some ⟨g, 0, none⟩) n c) ∧ V.cell? ⟨q, 0, none⟩ = some (.string km) ∧ V.cell? ⟨q, 1, none⟩ = some (.string vm)) (j := 7) (by kernel_rfl) ?_ ?_
    · exact ⟨(Ok.refl w1).drew.cell s0, (Ok.refl w1).drew.cell s1, (Ok.refl w1).drew.cell s2⟩
    intro hS
    have HD : Hid (Ok w1 w1.drew) := Lib.hid ((Ok.refl w1).drew)
    generalize w1.drew = V0 at *
    clear s0 s1 s2
    refine Until.take0 (i := 0) (v := ?v0) rfl (by kernel_rfl) (by kernel_rfl) (by kernel_rfl) (by kernel_rfl) (fun _ _ _ h => h) (Or.inl ⟨by rfl, ?hy0⟩) (fun _ => hS) ?rest0
    case hy0 => ((intro w hSw); clear hSw; go_simp; (try with_reducible rfl))
    try go_frame
    refine Until.take0 (i := 1) (v := ?v1) rfl (by kernel_rfl) (by kernel_rfl) (by kernel_rfl) (by kernel_rfl) (fun _ _ _ h => h) (Or.inl ⟨by rfl, ?hy1⟩) (fun _ => hS) ?rest1
    case hy1 => ((intro w hSw); clear hSw; go_simp; (try with_reducible rfl))
    try go_frame
    refine Until.take0 (i := 2) (v := ?v2) rfl (by kernel_rfl) (by kernel_rfl) (by kernel_rfl) (by kernel_rfl) (fun _ _ _ h => h) (Or.inl ⟨by rfl, ?hy2⟩) (fun _ => hS) ?rest2
    case hy2 => ((intro w hSw); clear hSw; go_simp; (try with_reducible rfl))
    try go_frame
    refine Until.take (i := 3) (v := ?v3) rfl (by kernel_rfl) (by kernel_rfl) (by kernel_rfl) (by kernel_rfl) (fun _ _ _ h => h) (Or.inl ⟨by rfl, ?hy3⟩) hS ?rest3
    case hy3 => ((intro w hSw; (try dsimp only at hSw)); obtain ⟨s0, s1, s2⟩ := hSw; go_simp; (try with_reducible rfl))
    try go_frame
    refine Until.take0 (i := 4) (v := ?v4) rfl (by kernel_rfl) (by kernel_rfl) (by kernel_rfl) (by kernel_rfl) (fun _ _ _ h => h) (Or.inl ⟨by rfl, ?hy4⟩) (fun _ => hS) ?rest4
    case hy4 => ((intro w hSw); clear hSw; go_simp; (try with_reducible rfl))
    try go_frame
    refine Until.take (i := 5) (v := ?v5) rfl (by kernel_rfl) (by kernel_rfl) (by kernel_rfl) (by kernel_rfl) (fun _ _ _ h => h) (Or.inl ⟨by rfl, ?hy5⟩) hS ?rest5
    case hy5 => ((intro w hSw; (try dsimp only at hSw)); obtain ⟨s0, s1, s2⟩ := hSw; go_simp; (try with_reducible rfl))
    try go_frame
    refine Until.take0 (i := 6) (v := ?v6) rfl (by kernel_rfl) (by kernel_rfl) (by kernel_rfl) (by kernel_rfl) (fun _ _ _ h => h) (Or.inl ⟨by rfl, ?hy6⟩) (fun _ => hS) ?rest6
    case hy6 => ((intro w hSw); clear hSw; go_simp; (try with_reducible rfl))
    try go_frame
    have HF1 : Hid (Ok W V0) := Lib.hid (HO.out.trans HD.out)
    have hown0 := HB.out.ok HF1.out
    have k0 : V0.cell? ⟨g, k * 2, none⟩ = some (.string (rwA l k).key) := (OwnR.cell2 hown0 k HKN.out).1
    have k1 : V0.cell? ⟨g, k * 2 + 1, none⟩ = some (.string (rwA l k).val) := (OwnR.cell2 hown0 k HKN.out).2
    have f0 : V0.frozen? ⟨g, k * 2, none⟩ = false := OwnR.froz hown0 _
    have f1 : V0.frozen? ⟨g, k * 2 + 1, none⟩ = false := OwnR.froz hown0 _
    clear hown0 hS
    refine Until.one (i := 7) (by kernel_rfl) rfl (fun K hK => ?_)
    have HK := Lib.hid hK
    clear hK
    go_simp
    refine HK.out.out _ _ (fun h => absurd (h.symm.trans (by kernel_rfl : _ = true)) Bool.false_ne_true) (fun _ => ?_)
    clear HK K
    try go_frame
    clear k0 k1 f0 f1
    refine Until.done (by kernel_rfl) ?_ _
    skip
    refine bodyPost_end (v := .tuple #[]) (by simp [results, Tryz.results47, go_sem]; try rfl) rfl ?_
    refine ⟨rfl, some ⟨g, 0, none⟩, n, c, l.set k ⟨km, vm⟩, ⟨k, HPK.out, by rw [HFB.out, if_pos rfl]⟩, ⟨?_, ?_, ?_, (HB.out.ok HF1.out).set k km vm⟩, ?_⟩
    · rw [World.cell?_setCell_far _ _ _ _ HGP.out, World.cell?_setCell_far _ _ _ _ HGP.out]; exact HF1.out.cell HT.out.c0
    · rw [World.cell?_setCell_far _ _ _ _ HGP.out, World.cell?_setCell_far _ _ _ _ HGP.out]; exact HF1.out.cell HT.out.c1
    · intro j
      rw [World.frozen?_setCell, World.frozen?_setCell]
      exact (HT.out.tab.ok HF1.out).f j
    · exact ((HF1.out.mono (by have := HPL.out; omega)).setCell (p := ⟨g, _, none⟩) (by have := (HB.out.2.lt g rfl).1; show p ≤ g; omega) _).setCell (p := ⟨g, _, none⟩) (by have := (HB.out.2.lt g rfl).1; show p ≤ g; omega) _
  | false =>
    have HKL : Hid (k ≤ n) := Lib.hid (by rw [← HB.out.1]; exact HPK.out.le)
    have HFB := Lib.hid hfb
    clear hfb
    have HQN : Hid (∀ V V' : World, some q ≠ (Value.slice A n c).ownBlock) := Lib.hid (fun _ _ e => by have := (HB.out.2.lt q e.symm).2; have := HQ.out; omega)
    go_upto_region 4 with fail
    refine Until.begin (S := fun V => V.cell? ⟨p, 0, none⟩ = some (.slice A n c) ∧ V.cell? ⟨q, 0, none⟩ = some (.string km) ∧ V.cell? ⟨q, 1, none⟩ = some (.string vm)) (j := 11) (by kernel_rfl) ?_ ?_
    · exact ⟨(Ok.refl w1).drew.cell s0, (Ok.refl w1).drew.cell s1, (Ok.refl w1).drew.cell s2⟩
    intro hS
    have HD : Hid (Ok w1 w1.drew) := Lib.hid ((Ok.refl w1).drew)
    generalize w1.drew = V0 at *
    clear s0 s1 s2
    refine Until.take0 (i := 0) (v := ?uv0) rfl (by kernel_rfl) (by kernel_rfl) (by kernel_rfl) (by kernel_rfl) (fun _ _ _ h => h) (Or.inl ⟨by rfl, ?ihy0⟩) (fun _ => hS) ?irest0
    case ihy0 => ((intro w hSw); clear hSw; go_simp; (try with_reducible rfl))
    try go_frame
    refine Until.take0 (i := 1) (v := ?uv1) rfl (by kernel_rfl) (by kernel_rfl) (by kernel_rfl) (by kernel_rfl) (fun _ _ _ h => h) (Or.inl ⟨by rfl, ?ihy1⟩) (fun _ => hS) ?irest1
    case ihy1 => ((intro w hSw); clear hSw; go_simp; (try with_reducible rfl))
    try go_frame
    refine Until.take0 (i := 2) (v := ?uv2) rfl (by kernel_rfl) (by kernel_rfl) (by kernel_rfl) (by kernel_rfl) (fun _ _ _ h => h) (Or.inl ⟨by rfl, ?ihy2⟩) (fun _ => hS) ?irest2
    case ihy2 => ((intro w hSw); clear hSw; go_simp; (try with_reducible rfl))
    try go_frame
    refine Until.take0 (i := 3) (v := ?uv3) rfl (by kernel_rfl) (by kernel_rfl) (by kernel_rfl) (by kernel_rfl) (fun _ _ _ h => h) (Or.inl ⟨by rfl, ?ihy3⟩) (fun _ => hS) ?irest3
    case ihy3 => ((intro w hSw); clear hSw; go_simp; (try with_reducible rfl))
    try go_frame
    refine Until.take (i := 4) (v := ?uv4) rfl (by kernel_rfl) (by kernel_rfl) (by kernel_rfl) (by kernel_rfl) (fun _ _ _ h => h) (Or.inl ⟨by rfl, ?ihy4⟩) hS ?irest4
    case ihy4 => ((intro w hSw; (try dsimp only at hSw)); obtain ⟨s0, s1, s2⟩ := hSw; go_simp; (try with_reducible rfl))
    try go_frame
    refine Until.take0 (i := 5) (v := ?uv5) rfl (by kernel_rfl) (by kernel_rfl) (by kernel_rfl) (by kernel_rfl) (fun _ _ _ h => h) (Or.inl ⟨by rfl, ?ihy5⟩) (fun _ => hS) ?irest5
    case ihy5 => ((intro w hSw); clear hSw; go_simp; (try with_reducible rfl))
    try go_frame
    refine Until.take (i := 6) (v := ?uv6) rfl (by kernel_rfl) (by kernel_rfl) (by kernel_rfl) (by kernel_rfl) (fun _ _ _ h => h) (Or.inl ⟨by rfl, ?ihy6⟩) hS ?irest6
    case ihy6 => ((intro w hSw; (try dsimp only at hSw)); obtain ⟨s0, s1, s2⟩ := hSw; go_simp; (try with_reducible rfl))
    try go_frame
    refine Until.one (i := 7) (by kernel_rfl) rfl (fun K hK => ?_)
    have HK := Lib.hid hK
    clear hK
    go_simp
    have HS7 : Hid (_ ∧ _ ∧ _) := Lib.hid ⟨((Ok.refl V0).alloc (.cells #[.string km, .string vm] 48)).cell hS.1, ((Ok.refl V0).alloc (.cells #[.string km, .string vm] 48)).cell hS.2.1, ((Ok.refl V0).alloc (.cells #[.string km, .string vm] 48)).cell hS.2.2⟩
    have HOA : Hid (Ok V0 (V0.alloc (.cells #[.string km, .string vm] 48))) := Lib.hid ((Ok.refl V0).alloc _)
    have HVB : Hid ((V0.alloc (.cells #[.string km, .string vm] 48)).heap[V0.heap.size]? = some (.cells #[.string km, .string vm] 48 (0, 0))) := Lib.hid (heap_alloc_new V0 _)
    refine HK.out.out _ _ (fun _ => HS7.out) (fun _ => ?_)
    clear hS
    have hS := HS7.out
    clear HK K
    try go_frame
    generalize V0.alloc (.cells #[.string km, .string vm] 48) = V1 at *
    refine Until.one (i := 8) (by kernel_rfl) rfl (fun K hK => ?_)
    have HK := Lib.hid hK
    clear hK
    go_simp
    refine (insert_f (p + 1) A n c l k ⟨km, vm⟩ V0.heap.size V1 (HB.out.ok (HO.out.trans (HD.out.trans HOA.out))) HKL.out (Nat.le_trans HPL.out (HO.out.trans (HD.out.trans HOA.out)).size) HN.out HVB.out (fun a e => by have := (HB.out.2.lt a.block (by rw [e]; rfl)).2; have := (HO.out.trans HD.out).size; omega)).mono ?_
    rintro _ V2 ⟨A2, c2, rfl, hrow, hbl, hgr⟩
    have HROW := Lib.hid hrow
    have HBL := Lib.hid hbl
    have d0 := (hbl.cell (p := ⟨p, 0, none⟩) (Nat.lt_succ_self p)).trans hS.1
    have HD0 := Lib.hid d0
    have HF2 : Hid (Ok W V1) := Lib.hid (HO.out.trans (HD.out.trans HOA.out))
    have f0 : V2.frozen? ⟨p, 0, none⟩ = false := (hbl.frozen (p := ⟨p, 0, none⟩) (Nat.lt_succ_self p)).trans ((HT.out.tab.ok HF2.out).f 0)
    have HS8 : Hid (_ ∧ _ ∧ _) := Lib.hid ⟨d0, hgr.cell hS.2.1 (HQN.out V1 V0), hgr.cell hS.2.2 (HQN.out V1 V0)⟩
    clear hrow hbl hgr
    refine HK.out.out _ _ (fun _ => HS8.out) (fun _ => ?_)
    clear hS
    have hS := HS8.out
    clear HK K
    try go_frame
    refine Until.take0 (i := 9) (v := ?uv9) rfl (by kernel_rfl) (by kernel_rfl) (by kernel_rfl) (by kernel_rfl) (fun _ _ _ h => h) (Or.inl ⟨by rfl, ?ihy9⟩) (fun _ => hS) ?irest9
    case ihy9 => ((intro w hSw); clear hSw; go_simp; (try with_reducible rfl))
    try go_frame
    refine Until.take0 (i := 10) (v := ?uv10) rfl (by kernel_rfl) (by kernel_rfl) (by kernel_rfl) (by kernel_rfl) (fun _ _ _ h => h) (Or.inl ⟨by rfl, ?ihy10⟩) (fun _ => hS) ?irest10
    case ihy10 => ((intro w hSw); clear hSw; go_simp; (try with_reducible rfl))
    try go_frame
    refine Until.one (i := 11) (by kernel_rfl) rfl (fun K hK => ?_)
    have HK := Lib.hid hK
    clear hK
    go_simp
    refine HK.out.out _ _ (fun h => absurd (h.symm.trans (by kernel_rfl : _ = true)) Bool.false_ne_true) (fun _ => ?_)
    clear HK K
    try go_frame
    refine Until.done (by kernel_rfl) ?_ _
    skip
    refine bodyPost_end (v := .tuple #[]) (by simp [results, Tryz.results47, go_sem]; try rfl) rfl ?_
    refine ⟨rfl, A2, n + 1, c2, insR l k ⟨km, vm⟩, ⟨k, HPK.out, by rw [HFB.out]; rfl⟩, ⟨?_, ?_, ?_, HROW.out.far (Nat.lt_succ_self p) 0 _⟩, ?_⟩
    · exact World.cell?_setCell_same _ _ _ HD0.out
    · rw [World.cell?_setCell_other _ _ _ _ (fun e => by simp at e)]
      exact (HBL.out.cell (p := ⟨p, 1, none⟩) (Nat.lt_succ_self p)).trans (HF2.out.cell HT.out.c1)
    · intro j
      rw [World.frozen?_setCell]
      exact (HBL.out.frozen (p := ⟨p, j, none⟩) (Nat.lt_succ_self p)).trans ((HT.out.tab.ok HF2.out).f j)
    · have hp0 := HPL.out
      have b1 : Below p W V1 := Below.mono HF2.out (by omega)
      have b2 : Below p V1 V2 := Below.mono HBL.out (by omega)
      exact (b1.trans b2).setCell (p := ⟨p, 0, none⟩) (Nat.le_refl p) _
end Go.Proofs.YtebhcadolnjplaaGreat
namespace Go.Proofs.YtebhcadolnjplaaGreat
open Go.RowKit

def CopyT (n : Nat) (l : List Rw) (W : World) (e : Ending) (w' : World) : Prop := ∃ q A c, e = .returned (.pointer (some ⟨q, 0, none⟩)) ∧ W.heap.size ≤ q ∧ TabY q A n c l w' ∧ Ok W w'
set_option maxRecDepth 100000 in
theorem copy_f (p : Nat) (A : Option Addr) (n c : Nat) (l : List Rw) (W : World) (h : TabAt p A n c l W) (hn : n ≤ 1000) : Calls Tryz.prog 9 #[.pointer (some ⟨p, 0, none⟩)] W (CopyT n l W) := by
  have hno := none85 p W h.c1
  have HT := Lib.hid h
  have HN := Lib.hid hn
  clear h hn
  go_enter Tryz.func9, Tryz.ntmps9
  go_wp2_with fail
  refine hno.mono ?_
  clear hno
  rintro _ w1 ⟨rfl, o1⟩
  have HO1 := Lib.hid o1
  clear o1
  have hnew := new44 w1
  go_wp2_with fail
  refine hnew.mono ?_
  clear hnew
  rintro _ w2 ⟨q, rfl, hq, hT2, o2⟩
  have HQ : Hid (W.heap.size ≤ q) := Lib.hid (Nat.le_trans HO1.out.size hq)
  have HT2 := Lib.hid hT2
  have HO2 : Hid (Ok W w2) := Lib.hid (HO1.out.trans o2)
  clear hq hT2 o2
  have c0 := HO2.out.cell HT.out.c0
  have hcl := clone140 0 A n c l w2 (HT.out.own.ok HO2.out) (Nat.le_trans HN.out (by decide))
  go_wp2_with fail
  refine hcl.mono ?_
  clear hcl c0
  rintro _ w3 ⟨A', c', rfl, hown, o3⟩
  have HOWN := Lib.hid hown
  have HT3 := Lib.hid (HT2.out.ok o3)
  have HO3 : Hid (Ok W w3) := Lib.hid (HO2.out.trans o3)
  clear hown o3
  have d0 := HT3.out.c0
  have f0 := HT3.out.f 0
  go_wp2_with fail
  go_ret
  have hql := HT2.out.lt
  have hown := HOWN.out
  refine ⟨q, A', c', rfl, HQ.out, ⟨World.cell?_setCell_same _ _ _ d0, ?_, ?_, ?_⟩, Below.setCell (p := ⟨q, 0, none⟩) HO3.out HQ.out _⟩
  · rw [World.cell?_setCell_other _ _ _ _ (fun e => by simp at e)]; exact HT3.out.c1
  · intro j
    rw [World.frozen?_setCell]; exact HT3.out.f j
  · exact OwnR.far ⟨hown.1, ownsRow_base hown.2 hql⟩ (Nat.lt_succ_self q) 0 _
end Go.Proofs.YtebhcadolnjplaaGreat
namespace Go.Proofs.YtebhcadolnjplaaGreat
open Go.RowKit

/-- The rows xs laid into l, one behind the other. -/
inductive LaidAll (l : List Rw) : List Rw → List Rw → Prop
  | nil : LaidAll l [] l
  | snoc {xs l1 l2 : List Rw} {r : Rw} : LaidAll l xs l1 → Laid l1 r l2 → LaidAll l (xs ++ [r]) l2
theorem LaidAll.spec {l xs l' : List Rw} (hr : Rises l) (h : LaidAll l xs l') : Rises l' ∧ l'.length ≤ l.length + xs.length := by
  induction h with
  | nil => exact ⟨hr, by simp⟩
  | snoc _ h2 ih =>
    obtain ⟨a, _, b⟩ := h2.spec ih.1
    exact ⟨a, by rw [List.length_append, List.length_singleton]; omega⟩
theorem TabY.ok {p : Nat} {A : Option Addr} {n c : Nat} {l : List Rw} {w w' : World} (h : TabY p A n c l w) (k : Ok w w') : TabY p A n c l w' :=
  ⟨k.cell h.c0, k.cell h.c1, fun j => (h.tab.ok k).f j, h.own.ok k⟩
theorem take_one (xs : List Rw) (k : Nat) (h : k < xs.length) : xs.take (k + 1) = xs.take k ++ [rwA xs k] := by
  rw [List.take_add_one, List.getElem?_eq_getElem h]
  unfold rwA
  rw [List.getD_eq_getElem?_getD, List.getElem?_eq_getElem h]
  rfl
def PutP (p : Nat) (l xs : List Rw) (W : World) (e : Ending) (w' : World) : Prop :=
  (allR xs = false ∧ e = .returned (.int .i64 2) ∧ Ok W w') ∨
  (allR xs = true ∧ ∃ l', LaidAll l xs l' ∧ ((400 < l'.length ∧ e = .returned (.int .i64 8) ∧ Ok W w') ∨
    (l'.length ≤ 400 ∧ e = .returned (.int .i64 0) ∧ (∃ A' c', TabAt p A' l'.length c' l' w' ∧ ∀ a, A' = some a → W.heap.size ≤ a.block) ∧ W.grownBy w' (some p))))
set_option maxRecDepth 100000 in
set_option maxHeartbeats 4000000 in
theorem put_fR (p : Nat) (A : Option Addr) (n c : Nat) (l : List Rw) (B : Option Addr) (m d : Nat) (xs : List Rw) (W : World) (h : TabAt p A n c l W) (hn : n ≤ 1000) (hr : Rises l) (hm : xs.length = m) (hm6 : m ≤ 2000) (hx : RowsIn W B xs) :
    Calls Tryz.prog 18 #[.pointer (some ⟨p, 0, none⟩), .slice B m d] W (PutP p l xs W) := by
  have hno := none85 p W h.c1
  have HT := Lib.hid h
  have HN := Lib.hid hn
  have HR := Lib.hid hr
  have HM := Lib.hid hm
  have HX := Lib.hid hx
  have HM6 := Lib.hid hm6
  clear h hn hr hm hx hm6
  go_enter Tryz.func18, Tryz.ntmps18
  go_wp2_with fail
  refine hno.mono ?_
  clear hno
  rintro _ w1 ⟨rfl, o1⟩
  have HO1 := Lib.hid o1
  clear o1
  have hct := contains_f B m d xs w1 HM.out (Nat.le_trans HM6.out (by decide)) (HX.out.ok HO1.out)
  go_wp2_with fail
  refine hct.mono ?_
  clear hct
  rintro _ w2 ⟨rfl, o2⟩
  have HO2 : Hid (Ok W w2) := Lib.hid (HO1.out.trans o2)
  clear o2 HO1
  cases hall : allR xs with
  | false =>
    have HALL := Lib.hid hall
    clear hall
    go_wp2_with fail
    go_ret
    exact .inl ⟨HALL.out, rfl, HO2.out⟩
  | true =>
    have HALL := Lib.hid hall
    clear hall
    have hcp := copy_f p A n c l w2 (HT.out.ok HO2.out) HN.out
    go_wp2_with fail
    refine hcp.mono ?_
    clear hcp
    rintro _ w3 ⟨q, A0, c0, rfl, hq, hT3, o3⟩
    have HQ : Hid (W.heap.size ≤ q) := Lib.hid (Nat.le_trans HO2.out.size hq)
    have HT3 := Lib.hid hT3
    have HTP := Lib.hid HT.out
    clear HT
    have HO3 : Hid (Ok W w3) := Lib.hid (HO2.out.trans o3)
    clear hq hT3 o3 HO2
    go_wp2_with fail
    go_loopw [16] (fun v wr => ∃ (k : Nat) (A1 : Option Addr) (n1 c1 : Nat) (l1 : List Rw), k ≤ m ∧ v = .int .i64 k ∧ LaidAll l (xs.take k) l1 ∧ TabY q A1 n1 c1 l1 wr ∧ Ok W wr) (fun v _ => m - (intOf v).toNat)
    case atStart => exact ⟨0, A0, n, c0, l, Nat.zero_le _, rfl, .nil, HT3.out, HO3.out⟩
    case round =>
      obtain ⟨k, A1, n1, c1, l1, hk, rfl, hla, htk, okr⟩ := hrel
      have HLA := Lib.hid hla
      have HT := Lib.hid htk
      have HOK := Lib.hid okr
      clear hla htk okr HT3 HO3
      by_cases hlt : k < m
      · have d1 : decide ((k : Int) < (m : Int)) = true := decide_eq_true (by omega)
        obtain ⟨b, off, rfl, x0, x1⟩ := HX.out.ok HOK.out k (by rw [HM.out]; exact hlt)
        have HN1 : Hid (n1 ≤ 100000) := Lib.hid (by
          have := (HLA.out.spec HR.out).2
          rw [HT.out.own.1, List.length_take, HTP.out.own.1] at this
          have := HN.out; have := HM6.out
          omega)
        have HR1 : Hid (Rises l1) := Lib.hid (HLA.out.spec HR.out).1
        have HKL : Hid (xs.take (k + 1) = xs.take k ++ [⟨(rwA xs k).key, (rwA xs k).val⟩]) := Lib.hid (take_one xs k (by rw [HM.out]; exact hlt))
        generalize (rwA xs k).key = km at *
        generalize (rwA xs k).val = vm at *
        have hi0 : (0 : Int) ≤ (k : Int) := Int.natCast_nonneg _
        have hi1 : (k : Int) < (m : Int) := by omega
        obtain ⟨z, hz⟩ : ∃ z, wr.heap.size = z := ⟨_, rfl⟩
        have HZC : Hid ((wr.alloc (.cells #[.string km, .string vm] 48)).cell? ⟨z, 0, none⟩ = some (.string km) ∧ (wr.alloc (.cells #[.string km, .string vm] 48)).cell? ⟨z, 1, none⟩ = some (.string vm)) := Lib.hid (by rw [← hz]; exact two_new wr _ _ _)
        have HZ : Hid (Ok wr (wr.alloc (.cells #[.string km, .string vm] 48))) := Lib.hid ((Ok.refl wr).alloc _)
        go_upto_region 9 with fail
        rename_i K0 Q0 hK0
        have HK0 := Lib.hid hK0
        clear hK0 hz x0 x1
        generalize wr.alloc (.cells #[.string km, .string vm] 48) = w0 at *
        have z0 := HZC.out.1
        have z1 := HZC.out.2
        refine Until.begin (S := fun V => V.cell? ⟨z, 0, none⟩ = some (.string km) ∧ V.cell? ⟨z, 1, none⟩ = some (.string vm)) (j := 4) (by kernel_rfl) ?_ ?_
        · exact ⟨(Ok.refl w0).drew.cell z0, (Ok.refl w0).drew.cell z1⟩
        intro hS
        have HD : Hid (Ok w0 w0.drew) := Lib.hid ((Ok.refl w0).drew)
        generalize w0.drew = V0 at *
        clear z0 z1
        refine Until.take0 (i := 0) (v := ?v0) rfl (by kernel_rfl) (by kernel_rfl) (by kernel_rfl) (by kernel_rfl) (fun _ _ _ h => h) (Or.inl ⟨by rfl, ?hy0⟩) (fun _ => hS) ?rest0
        case hy0 => ((intro w hSw); clear hSw; go_simp; (try with_reducible rfl))
        try go_frame
        refine Until.take0 (i := 1) (v := ?v1) rfl (by kernel_rfl) (by kernel_rfl) (by kernel_rfl) (by kernel_rfl) (fun _ _ _ h => h) (Or.inl ⟨by rfl, ?hy1⟩) (fun _ => hS) ?rest1
        case hy1 => ((intro w hSw); clear hSw; go_simp; (try with_reducible rfl))
        try go_frame
        refine Until.take0 (i := 2) (v := ?v2) rfl (by kernel_rfl) (by kernel_rfl) (by kernel_rfl) (by kernel_rfl) (fun _ _ _ h => h) (Or.inl ⟨by rfl, ?hy2⟩) (fun _ => hS) ?rest2
        case hy2 => ((intro w hSw); clear hSw; go_simp; (try with_reducible rfl))
        try go_frame
        refine Until.take (i := 3) (v := ?v3) rfl (by kernel_rfl) (by kernel_rfl) (by kernel_rfl) (by kernel_rfl) (fun _ _ _ h => h) (Or.inl ⟨by rfl, ?hy3⟩) hS ?rest3
        case hy3 => ((intro w hSw; (try dsimp only at hSw)); obtain ⟨s0, s1⟩ := hSw; go_simp; (try with_reducible rfl))
        try go_frame
        refine Until.one (i := 4) (by kernel_rfl) rfl (fun K hK => ?_)
        have HK := Lib.hid hK
        clear hK
        go_simp
        refine (lay_f q A1 n1 c1 l1 km vm V0 (HT.out.ok (HZ.out.trans HD.out)) HN1.out HR1.out).mono ?_
        rintro _ V1 ⟨rfl, A2, n2, c2, l2, hlaid, htab, hbl⟩
        have HLD := Lib.hid hlaid
        have HT2 := Lib.hid htab
        have HB2 := Lib.hid hbl
        clear hlaid htab hbl
        refine HK.out.out _ _ (fun h => absurd (h.symm.trans (by kernel_rfl : _ = true)) Bool.false_ne_true) (fun _ => ?_)
        clear HK K
        try go_frame
        refine Until.done (by kernel_rfl) ?_ _
        refine HK0.out _ _ ?_
        clear HK0
        have HF : Hid (LaidAll l (xs.take (k + 1)) l2 ∧ Ok W V1) := Lib.hid ⟨by rw [HKL.out]; exact .snoc HLA.out HLD.out, by
          have b1 : Ok W V0 := HOK.out.trans (HZ.out.trans HD.out)
          exact Below.trans b1 (Below.mono HB2.out HQ.out)⟩
        have e1 : IntKind.i64.wrap ((k : Int) + 1) = (k : Int) + 1 := IntWalk.i64_in _ (by have := HM6.out; omega)
        have HLT : Hid (m - ((k : Int) + 1).toNat < m - (k : Int).toNat) := Lib.hid (by omega)
        go_wp2_with fail
        exact ⟨⟨k + 1, A2, n2, c2, l2, hlt, rfl, HF.out.1, HT2.out, HF.out.2⟩, HLT.out⟩
      · have d1 : decide ((k : Int) < (m : Int)) = false := decide_eq_false (by omega)
        obtain rfl : k = m := by omega
        have HXS : Hid (xs.take k = xs) := Lib.hid (List.take_of_length_le (by rw [HM.out]; exact Nat.le_refl _))
        have c0 := HT.out.c0
        have HLN : Hid (l1.length = n1) := Lib.hid HT.out.own.1
        by_cases hbig : 400 < n1
        · have d2 : decide ((n1 : Int) > 400) = true := decide_eq_true (by omega)
          go_wp2_with fail
          go_ret
          exact .inr ⟨HALL.out, l1, by have := HLA.out; rwa [HXS.out] at this, .inl ⟨by rw [HLN.out]; exact hbig, rfl, HOK.out⟩⟩
        · have d2 : decide ((n1 : Int) > 400) = false := decide_eq_false (by omega)
          have p0 := HOK.out.cell HTP.out.c0
          have f0 : wr.frozen? ⟨p, 0, none⟩ = false := (HTP.out.ok HOK.out).f 0
          go_wp2_with fail
          go_ret
          refine .inr ⟨HALL.out, l1, by have := HLA.out; rwa [HXS.out] at this, .inr ⟨by rw [HLN.out]; omega, rfl, ⟨A1, c1, ?_, fun a e => by have := (HT.out.own.2.lt a.block (by rw [e]; rfl)).1; have := HQ.out; omega⟩, ?_⟩⟩
          · rw [HLN.out]
            have hpq : p ≠ q := by have := HTP.out.lt; have := HQ.out; omega
            have hA : ∀ a, A1 = some a → q + 1 ≤ a.block := fun a e => (HT.out.own.2.lt a.block (by rw [e]; rfl)).1
            have hpl := HTP.out.lt
            have hq := HQ.out
            refine ⟨World.cell?_setCell_same _ _ _ p0, ?_, ?_, ?_, fun a e => by have := hA a e; omega⟩
            · rw [World.cell?_setCell_other _ _ _ _ (fun e => by simp at e)]; exact HOK.out.cell HTP.out.c1
            · intro j
              rw [World.frozen?_setCell]; exact (HTP.out.ok HOK.out).f j
            · have := HT.out.own.far (p := p) (by omega) 0 (.slice A1 n1 c1)
              exact ⟨this.1, ownsRow_base this.2 (Nat.zero_le _)⟩
          · exact ⟨HOK.out.os, HOK.out.tape, HOK.out.output, by simp only [World.size_setCell]; exact HOK.out.size, fun j hj hn => by
              rw [Below.heap_setCell _ ⟨p, 0, none⟩ _ j (fun e => hn (by rw [e]))]; exact HOK.out.block j hj⟩
end Go.Proofs.YtebhcadolnjplaaGreat
