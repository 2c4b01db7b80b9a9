/- A list of numbers without those that are meant. -/
import Derived.Test.YtebhcadolnjplaaGk
namespace Go.Proofs.Ytebhcadolnjplaa
open Go.RowKit

theorem OwnZ.len {w : World} {B : Nat} {A : Option Addr} {n c : Nat} {xs : List Int} (h : OwnZ w B (.slice A n c) xs) : n = xs.length := by
  obtain ⟨_, _, e⟩ := h.form
  simp only [Value.slice.injEq] at e
  exact e.2.1
theorem OwnZ.store {w : World} {B g n c : Nat} {xs : List Int} (h : OwnZ w B (.slice (some ⟨g, 0, none⟩) n c) xs) (j : Nat) (y : Int) : OwnZ (w.setCell ⟨g, j, none⟩ (.int .i64 y)) B (.slice (some ⟨g, 0, none⟩) n c) (xs.set j y) := by
  obtain rfl := h.len
  have := (World.ownsRow.stored h j (.int .i64 y)).1
  unfold OwnZ
  rw [List.length_set, List.map_set]
  exact this
theorem OwnZ.cell {w : World} {B g n c : Nat} {xs : List Int} (h : OwnZ w B (.slice (some ⟨g, 0, none⟩) n c) xs) (j : Nat) (hj : j < xs.length) : w.cell? ⟨g, j, none⟩ = some (.int .i64 (xs.getD j 0)) ∧ w.frozen? ⟨g, j, none⟩ = false := by
  obtain rfl := h.len
  refine ⟨?_, World.ownsRow.frozenAt h j⟩
  rw [World.ownsRow.cellAt h j (by omega)]
  simp [hj, zv]
theorem OwnZ.take {w : World} {B n c : Nat} {A : Option Addr} {xs : List Int} (h : OwnZ w B (.slice A n c) xs) (k : Nat) (hk : k ≤ n) : OwnZ w B (.slice A k c) (xs.take k) := by
  obtain rfl := h.len
  have hl : (xs.take k).length = k := by rw [List.length_take]; omega
  unfold OwnZ
  rw [hl]
  refine ⟨by simp; omega, ?_⟩
  rcases h.2 with ⟨e, h0⟩ | ⟨g, cap, cur, e, hb, hg, h1, h2, h3, h4⟩
  · simp only [Value.slice.injEq] at e
    obtain ⟨rfl, _, rfl⟩ := e
    obtain rfl : k = 0 := by omega
    exact .inl ⟨rfl, rfl⟩
  · simp only [Value.slice.injEq] at e
    obtain ⟨rfl, _, rfl⟩ := e
    refine .inr ⟨g, c, cur, rfl, hb, hg, by omega, h2, h3, ?_⟩
    rw [List.map_take, ← h4, List.take_take]
    congr 1
    omega
theorem own_clear (B g n c : Nat) : ∀ (r k : Nat) (w : World) (ys : List Int), OwnZ w B (.slice (some ⟨g, 0, none⟩) n c) ys →
    ∃ ys', OwnZ (w.setCells g k (List.replicate r (.int .i64 0))) B (.slice (some ⟨g, 0, none⟩) n c) ys' ∧ ys'.take k = ys.take k ∧ Kp (fun b => b = g) w (w.setCells g k (List.replicate r (.int .i64 0)))
  | 0, k, w, ys, h => ⟨ys, h, rfl, Kp.refl _ _⟩
  | r + 1, k, w, ys, h => by
    obtain ⟨ys', h1, h2, h3⟩ := own_clear B g n c r (k + 1) (w.setCell ⟨g, k, none⟩ (.int .i64 0)) (ys.set k 0) (h.store k 0)
    refine ⟨ys', h1, ?_, (Kp.set (S := fun b => b = g) (Kp.refl _ w) (.inr rfl) k _).then h3 (fun _ _ q => q)⟩
    have := congrArg (List.take k) h2
    rw [List.take_take, List.take_take, Nat.min_eq_left (by omega)] at this
    rw [this, List.take_set_of_le (by omega)]
def kept (q : Int → Bool) (xs : List Int) (m : Nat) : List Int := (xs.take m).filter fun x => !q x
theorem kept_succ (q : Int → Bool) (xs : List Int) (m : Nat) (h : m < xs.length) : kept q xs (m + 1) = kept q xs m ++ if q (xs.getD m 0) then [] else [xs.getD m 0] := by
  unfold kept
  rw [List.take_add_one, List.filter_append, List.getElem?_eq_getElem h]
  congr 1
  rw [getD_get xs m h]
  cases hq : q xs[m] <;> simp [hq]
theorem kept_le (q : Int → Bool) (xs : List Int) (m : Nat) : (kept q xs m).length ≤ m := Nat.le_trans (List.length_filter_le _ _) (by rw [List.length_take]; omega)
theorem kept_all (q : Int → Bool) (xs : List Int) (m : Nat) (hm : m ≤ xs.length) (h : ∀ j, j < m → q (xs.getD j 0) = false) : kept q xs m = xs.take m := by
  unfold kept
  rw [List.filter_eq_self]
  intro x hx
  obtain ⟨j, hj, rfl⟩ := List.mem_iff_getElem.1 hx
  rw [List.length_take] at hj
  rw [List.getElem_take, ← getD_get xs j (by omega), h j (by omega)]
  rfl
/-- What DeleteFunc leaves. -/
def DelP (A : Option Addr) (c : Nat) (zs : List Int) (w : World) (e : Ending) (w' : World) : Prop :=
  e = .returned (.slice A zs.length c) ∧ OwnZ w' 0 (.slice A zs.length c) zs ∧ Kp (fun b => ∃ a, A = some a ∧ a.block = b) w w'
/-- m have been looked at, k of them kept, ys is what lies there. -/
structure DelI (q : Int → Bool) (xs : List Int) (g n c m k : Nat) (w wr : World) (ys : List Int) : Prop where
  le : m ≤ n
  lt : k < m
  len : ys.length = n
  cnt : (kept q xs m).length = k
  low : ys.take k = kept q xs m
  high : ∀ j, k ≤ j → ys.getD j 0 = xs.getD j 0
  own : OwnZ wr 0 (.slice (some ⟨g, 0, none⟩) n c) ys
  kp : Kp (fun b => b = g) w wr
theorem DelI.ok {q : Int → Bool} {xs ys : List Int} {g n c m k : Nat} {w wr w' : World} (h : DelI q xs g n c m k w wr ys) (o : Ok wr w') : DelI q xs g n c m k w w' ys :=
  { h with own := h.own.ok o, kp := h.kp.ok o }
theorem DelI.skip {q : Int → Bool} {xs ys : List Int} {g n c m k : Nat} {w wr : World} (h : DelI q xs g n c m k w wr ys) (hn : xs.length = n) (hm : m < n) (hq : q (xs.getD m 0) = true) : DelI q xs g n c (m + 1) k w wr ys := by
  have e := kept_succ q xs m (by omega)
  rw [hq, if_pos rfl, List.append_nil] at e
  exact { h with le := hm, lt := by have := h.lt; omega, cnt := by rw [e]; exact h.cnt, low := by rw [e]; exact h.low }
theorem DelI.keep {q : Int → Bool} {xs ys : List Int} {g n c m k : Nat} {w wr : World} (h : DelI q xs g n c m k w wr ys) (hn : xs.length = n) (hm : m < n) (hq : q (xs.getD m 0) = false) : DelI q xs g n c (m + 1) (k + 1) w (wr.setCell ⟨g, k, none⟩ (.int .i64 (xs.getD m 0))) (ys.set k (xs.getD m 0)) := by
  have e := kept_succ q xs m (by omega)
  rw [hq, if_neg (by decide)] at e
  have hk := h.lt
  have hl := h.len
  refine ⟨hm, by omega, by rw [List.length_set]; exact hl, by rw [e, List.length_append, h.cnt]; rfl, ?_, fun j hj => ?_, h.own.store k _, h.kp.set (.inr rfl) _ _⟩
  · rw [e, ← h.low, List.take_add_one, List.take_set_of_le (Nat.le_refl _)]
    congr 1
    rw [List.getElem?_set_self (by omega)]
    rfl
  · rw [← h.high j (by omega)]
    simp only [List.getD_eq_getElem?_getD]
    rw [List.getElem?_set_ne (by omega)]
set_option maxRecDepth 100000 in
set_option maxHeartbeats 4000000 in
theorem del_f (fn p : Nat) (q : Int → Bool) (A : Option Addr) (n c : Nat) (xs : List Int) (hn : xs.length = n) (hn6 : n ≤ 1000000) (w : World) (hI : OwnZ w 0 (.slice A n c) xs)
    (hc : ∀ args w, (callFunc fn args).run Try.prog w = .ok (.enter fn args) w) (hf : ∀ x w', Kp (fun b => ∃ a, A = some a ∧ a.block = b) w w' → Calls Try.prog fn #[.int .i64 x, .pointer (some ⟨p, 0, none⟩)] w' (Ret w' (.bool (q x)))) :
    Calls Try.prog 102 #[.slice A n c, .func (.func fn) #[] #[.pointer (some ⟨p, 0, none⟩)]] w (DelP A c (xs.filter fun x => !q x) w) := by
  have hix := idx_f fn p q A n c xs hn hn6 w (by have := hI.ints (by omega); exact this) hc (fun x w' o => hf x w' (Kp.of o))
  have HI := Lib.hid hI
  have HN := Lib.hid hn
  have HF := Lib.hid hf
  have HX : Hid ((idxI q xs = -1 ∧ ∀ j, j < n → q (xs.getD j 0) = false) ∨ ∃ k, k < n ∧ idxI q xs = (k : Int) ∧ q (xs.getD k 0) = true ∧ ∀ j, j < k → q (xs.getD j 0) = false) := Lib.hid (by
    cases hfi : xs.findIdx? q with
    | none =>
      refine .inl ⟨by rw [idxI, hfi], fun j hj => ?_⟩
      rw [List.findIdx?_eq_none_iff] at hfi
      rw [getD_get xs j (by omega)]
      exact hfi _ (List.getElem_mem _)
    | some k =>
      rw [List.findIdx?_eq_some_iff_getElem] at hfi
      obtain ⟨hk, h1, h2⟩ := hfi
      refine .inr ⟨k, by omega, by rw [idxI]; rw [(List.findIdx?_eq_some_iff_getElem.2 ⟨hk, h1, h2⟩)], by rw [getD_get xs k hk]; exact h1, fun j hj => ?_⟩
      rw [getD_get xs j (by omega)]
      simpa using h2 j hj)
  have HKN : Hid (kept q xs n = xs.filter fun x => !q x) := Lib.hid (by unfold kept; rw [List.take_of_length_le (by omega)])
  clear hI hn hf
  generalize idxI q xs = R at *
  go_enter Try.func102, Try.ntmps102
  go_wp2_with fail
  refine hix.mono ?_
  clear hix
  rintro _ w1 ⟨rfl, o1⟩
  have HI1 := Lib.hid (HI.out.ok o1)
  have HO1 := Lib.hid o1
  clear o1 HI
  rcases HX.out with ⟨rfl, hall⟩ | ⟨k0, hk0, rfl, hq0, hall⟩
  · have HALL := Lib.hid hall
    clear hall HX
    go_wp2_with fail
    go_ret
    have e : (xs.filter fun x => !q x) = xs := by rw [← HKN.out, kept_all q xs n (by rw [HN.out]; exact Nat.le_refl _) HALL.out, List.take_of_length_le (by rw [HN.out]; exact Nat.le_refl _)]
    rw [e]
    refine ⟨by rw [HN.out]; rfl, by have := HI1.out; rw [← HN.out] at this; exact this, Kp.of HO1.out⟩
  · obtain ⟨g, hg⟩ : ∃ g, A = some ⟨g, 0, none⟩ := by
      rcases HI1.out.2 with ⟨_, h0⟩ | ⟨g, cap, cur, e, _⟩
      · have := HN.out; omega
      · simp only [Value.slice.injEq] at e
        exact ⟨g, e.1⟩
    subst hg
    have HD : Hid (DelI q xs g n c (k0 + 1) k0 w w1 xs) := Lib.hid (by
      have ek := kept_all q xs k0 (by rw [HN.out]; omega) hall
      have es := kept_succ q xs k0 (by rw [HN.out]; omega)
      rw [hq0, if_pos rfl, List.append_nil] at es
      exact ⟨hk0, Nat.lt_succ_self _, HN.out, by rw [es, ek, List.length_take, HN.out]; omega, by rw [es, ek], fun _ _ => rfl, HI1.out, Kp.of HO1.out⟩)
    have HF2 : Hid (∀ x w', Kp (fun b => b = g) w w' → Calls Try.prog fn #[.int .i64 x, .pointer (some ⟨p, 0, none⟩)] w' (Ret w' (.bool (q x)))) := Lib.hid fun x w' k => HF.out x w' ((Kp.refl _ w).then k fun j _ e => ⟨_, rfl, e.symm⟩)
    have hne : ((k0 : Int) == -1) = false := beq_eq_false_iff_ne.2 (by omega)
    clear hall hq0 HX HF HI1
    go_wp2_with fail
    go_loopw [5, 6, 7] (fun i j _ wr => ∃ (m k : Nat) (ys : List Int), i = .int .i64 k ∧ j = .int .i64 m ∧ DelI q xs g n c m k w wr ys) (fun _ j _ _ => n - (intOf j).toNat)
    case atStart => exact ⟨k0 + 1, k0, xs, rfl, by push_cast; rfl, HD.out⟩
    case round =>
      obtain ⟨m, k, ys, rfl, rfl, hd⟩ := hrel
      have HDR := Lib.hid hd
      have b1 := hd.le
      have b2 := hd.lt
      clear hd
      by_cases hlt : m < n
      · have d1 : decide ((m : Int) < (n : Int)) = true := decide_eq_true (by omega)
        have hcell : wr.cell? ⟨g, m, none⟩ = some (.int .i64 (xs.getD m 0)) := by
          have := (HDR.out.own.cell m (by rw [HDR.out.len]; exact hlt)).1
          rwa [HDR.out.high m (by omega)] at this
        have hf := HF2.out (xs.getD m 0) wr HDR.out.kp
        have HSK := Lib.hid (fun (w' : World) (o : Ok wr w') => (HDR.out.ok o).skip HN.out hlt)
        have HKE := Lib.hid (fun (w' : World) (o : Ok wr w') => (HDR.out.ok o).keep HN.out hlt)
        have HST : Hid (∀ w' : World, Ok wr w' → w'.cell? ⟨g, k, none⟩ = some (.int .i64 (ys.getD k 0)) ∧ w'.frozen? ⟨g, k, none⟩ = false) := Lib.hid fun w' o => (HDR.out.ok o).own.cell k (by rw [HDR.out.len]; omega)
        generalize xs.getD m 0 = x at *
        have hi0 : (0 : Int) ≤ (m : Int) := Int.natCast_nonneg _
        have hi1 : (m : Int) < (n : Int) := by omega
        have hk0' : (0 : Int) ≤ (k : Int) := Int.natCast_nonneg _
        have hk1 : (k : Int) < (n : Int) := by omega
        go_wp2_with fail
        refine hf.mono ?_
        rintro _ w2 ⟨rfl, o2⟩
        cases h1 : q x with
        | true =>
          have hs := HSK.out w2 o2 h1
          have HSK2 := Lib.hid hs
          clear hs
          go_wp2
          refine ⟨⟨m + 1, k, ys, rfl, by push_cast; rfl, HSK2.out⟩, ?_⟩
          show n - ((m : Int) + 1).toNat < n - (m : Int).toNat
          omega
        | false =>
          have HKE2 := Lib.hid (HKE.out w2 o2 h1)
          obtain ⟨hcs, hfs⟩ := HST.out w2 o2
          go_wp2
          refine ⟨⟨m + 1, k + 1, _, by push_cast; rfl, by push_cast; rfl, HKE2.out⟩, ?_⟩
          show n - ((m : Int) + 1).toNat < n - (m : Int).toNat
          omega
      · have d1 : decide ((m : Int) < (n : Int)) = false := decide_eq_false (by omega)
        obtain rfl : m = n := by omega
        have HOC := Lib.hid (own_clear 0 g m c (m - k) k wr ys HDR.out.own)
        have hcap : m ≤ c := by
          rcases HDR.out.own.2 with ⟨e, _⟩ | ⟨g', cap, cur, e, _, _, h1, _⟩
          · simp at e
          · simp only [Value.slice.injEq] at e
            have := HDR.out.len
            omega
        have hcl : ∀ ty, (Builtin.clear_ #[23] ty #[.slice (some ⟨g, k, none⟩) (m - k) (c - k)]).run Try.prog wr = .ok (.tuple #[]) (wr.setCells g k (List.replicate (m - k) (.int .i64 0))) := fun ty =>
          Lib.run_clear_slice wr 23 3 ty (.int .i64 0) Try.underlying23 (fun _ => by simp [go_sem]) rfl rfl g k _ _ (by omega) (fun t ht => by rw [(HDR.out.own.cell (k + t) (by rw [HDR.out.len]; omega)).1]; rfl) (fun t ht => (HDR.out.own.cell (k + t) (by rw [HDR.out.len]; omega)).2)
        go_wp2
        go_ret
        obtain ⟨ys', h1, h2, h3⟩ := HOC.out
        rw [← HKN.out]
        refine ⟨by rw [HDR.out.cnt]; rfl, ?_, ?_⟩
        · rw [HDR.out.cnt, ← HDR.out.low, ← h2]
          exact h1.take k (by omega)
        · exact (Kp.refl _ w).then (HDR.out.kp.then h3 (fun _ _ e => e)) fun j _ e => ⟨_, rfl, e.symm⟩
end Go.Proofs.Ytebhcadolnjplaa
