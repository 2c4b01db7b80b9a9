/- The document's pasts: right, all, raised, is, merged. -/
import Derived.Test.YtnjaiiifafbbjaaPm
namespace Go.Proofs.Ytnjaiiifafbbjaa
open Go.RowKit

set_option maxHeartbeats 1000000 in
theorem rright_n (x : Nm) (w : World) : Calls Try.prog 105 #[nmV x] w (Ret w (.bool (nmB x))) := by
  unfold nmB nmV clientB
  obtain ⟨c, n⟩ := x
  simp only
  cases h1 : decide (1 ≤ c) with
  | false =>
    go_enter Try.func105, Try.ntmps105
    go_wp2
    go_ret
    exact ⟨by first | rfl | simp, Ok.alloc (Ok.refl _) _⟩
  | true =>
    cases h2 : decide (c ≤ 8) with
    | false =>
      go_enter Try.func105, Try.ntmps105
      go_wp2
      go_ret
      exact ⟨by first | rfl | simp, Ok.alloc (Ok.refl _) _⟩
    | true =>
      cases h3 : decide (1 ≤ n) with
      | false =>
        go_enter Try.func105, Try.ntmps105
        go_wp2
        go_ret
        exact ⟨by first | rfl | simp, Ok.alloc (Ok.refl _) _⟩
      | true =>
        go_enter Try.func105, Try.ntmps105
        go_wp2
        go_ret
        exact ⟨by first | rfl | simp, Ok.alloc (Ok.refl _) _⟩

theorem allB_take (xs : List Nm) (k : Nat) (h : k < xs.length) : allB (xs.take (k + 1)) = (allB (xs.take k) && nmB (atN xs k)) := by
  rw [take_atN xs k h]; simp [allB]
theorem allB_false (xs : List Nm) (k : Nat) (h : k < xs.length) (hb : nmB (atN xs k) = false) : allB xs = false := by
  rw [atN_get xs k h] at hb
  rw [allB, List.all_eq_false]
  exact ⟨xs[k], List.getElem_mem h, by rw [hb]; exact Bool.false_ne_true⟩

set_option maxRecDepth 100000 in
set_option maxHeartbeats 4000000 in
theorem all_w (A : Option Addr) (n c : Nat) (xs : List Nm) (hn : xs.length = n) (hn6 : n ≤ 1000000) (w : World) (hI : NamesAt w A xs) :
    Calls Try.prog 47 #[.slice A n c] w (Ret w (.bool (allB xs))) := by
  have HI := Lib.hid hI
  have HN := Lib.hid hn
  clear hI hn
  go_enter Try.func47, Try.ntmps47
  go_wp2_with fail
  go_loopw [3] (fun i wr => ∃ k : Nat, k ≤ n ∧ i = .int .i64 k ∧ allB (xs.take k) = true ∧ Ok w wr) (fun i _ => n - (intOf i).toNat)
  case atStart => exact ⟨0, Nat.zero_le _, rfl, rfl, Ok.refl _⟩
  case round =>
    obtain ⟨k, hk, rfl, hb, okr⟩ := hrel
    have HB := Lib.hid hb
    have HOKR := Lib.hid okr
    clear hb okr
    by_cases hlt : k < n
    · have d1 : decide ((k : Int) < (n : Int)) = true := decide_eq_true (by omega)
      obtain ⟨b, off, rfl, C0, C1⟩ := HI.out.ok HOKR.out k (by rw [HN.out]; exact hlt)
      have HT := Lib.hid (allB_take xs k (by rw [HN.out]; exact hlt))
      have HFA := Lib.hid (allB_false xs k (by rw [HN.out]; exact hlt))
      have hr := rright_n (atN xs k) wr
      unfold nmV at hr
      generalize atN xs k = x at *
      obtain ⟨xc, xn⟩ := x
      simp only at C0 C1 hr
      have hi0 : (0 : Int) ≤ (k : Int) := Int.natCast_nonneg _
      have hi1 : (k : Int) < (n : Int) := by omega
      cases h1 : nmB ⟨xc, xn⟩ with
      | true =>
        rw [h1] at hr
        have HT2 : Hid (allB (xs.take (k + 1)) = true) := Lib.hid (by rw [HT.out, HB.out, h1]; rfl)
        clear h1
        go_wp2_with fail
        refine hr.mono ?_
        rintro _ w1 ⟨rfl, o1⟩
        go_wp2
        refine ⟨⟨k + 1, hlt, rfl, HT2.out, Ok.trans HOKR.out o1⟩, ?_⟩
        show n - ((k : Int) + 1).toNat < n - (k : Int).toNat
        omega
      | false =>
        rw [h1] at hr
        have HF := Lib.hid (HFA.out h1)
        clear h1
        go_wp2_with fail
        refine hr.mono ?_
        rintro _ w1 ⟨rfl, o1⟩
        go_wp2
        go_ret
        exact ⟨by rw [HF.out]; rfl, Ok.trans HOKR.out o1⟩
    · have d1 : decide ((k : Int) < (n : Int)) = false := decide_eq_false (by omega)
      have HF : Hid (allB xs = true) := Lib.hid (by have := HB.out; rwa [List.take_of_length_le (by rw [HN.out]; omega)] at this)
      go_wp2
      go_ret
      exact ⟨by rw [HF.out]; rfl, HOKR.out⟩

theorem RpAt.raise {w : World} {p : Nat} {f : Nat → Int} {x : Nm} {k : Nat} (h : RpAt w p f) (hk : k < 8) (hc : x.c = (k : Int) + 1) : RpAt (w.setCell ⟨p, k + 1, none⟩ (.int .i64 (mxI (f k) x.n))) p (rz f x) where
  num i hi := by
    by_cases hik : i = k
    · subst hik
      rw [World.cell?_setCell_same _ _ _ (h.num i hi)]
      simp [rz, hc]
    · rw [World.cell?_setCell_other _ _ _ _ (by first | (simp; done) | (simp; omega)), h.num i hi]
      have : ¬ ((i : Int) + 1 = (k : Int) + 1) := by omega
      simp [rz, hc, this]
  free i hi := by rw [World.frozen?_setCell]; exact h.free i hi
theorem RpAt.congr {w : World} {p : Nat} {f g : Nat → Int} (h : RpAt w p f) (e : ∀ i, i < 8 → f i = g i) : RpAt w p g where
  num i hi := by rw [← e i hi]; exact h.num i hi
  free := h.free
theorem RpAt.drew {w : World} {p : Nat} {f : Nat → Int} (h : RpAt w p f) : RpAt w.drew p f := h.ok (Ok.drew (Ok.refl w))
theorem RpAt.lt {w : World} {p : Nat} {f : Nat → Int} (h : RpAt w p f) : p < w.heap.size := World.block_lt_of_cell? _ _ (h.num 0 (by omega))
/-- What the document's Raise leaves. -/
def RRaiseP (m : Nat) (f : Nat → Int) (xs : List Nm) (w : World) (e : Ending) (w' : World) : Prop :=
  Mv m w w' ∧ (allB xs = false ∧ e = .returned (.int .i64 2) ∧ RpAt w' m f ∨ allB xs = true ∧ e = .returned (.int .i64 0) ∧ RpAt w' m (rzs f xs))

theorem NamesAt.mvE {g : Nat} {W W' : World} {A : Option Addr} {l : List Nm} (h : NamesAt W A l) (k : Mv g W W') (hg : l ≠ [] → ∀ b off, A = some ⟨b, off, none⟩ → b ≠ g) : NamesAt W' A l := fun j hj =>
  h.mv k (hg (fun e => by rw [e] at hj; exact absurd hj (Nat.not_lt_zero _))) j hj

set_option maxRecDepth 100000 in
set_option maxHeartbeats 4000000 in
theorem rRaise_w (m : Nat) (f : Nat → Int) (A : Option Addr) (n c : Nat) (xs : List Nm) (hn : xs.length = n) (hn6 : n ≤ 1000000) (w : World) (h : RpAt w m f) (hI : NamesAt w A xs) (hA : xs ≠ [] → ∀ b off, A = some ⟨b, off, none⟩ → b ≠ m) :
    Calls Try.prog 49 #[.pointer (some ⟨m, 0, none⟩), .slice A n c] w (RRaiseP m f xs w) := by
  have HP := Lib.hid h
  have HI := Lib.hid hI
  have HN := Lib.hid hn
  have HA := Lib.hid hA
  have hps := h.lt
  clear h hI hn hA
  go_enter Try.func49, Try.ntmps49
  go_wp2_with fail
  go_loopw [5] (fun i wr => ∃ k : Nat, k ≤ n ∧ i = .int .i64 k ∧ allB (xs.take k) = true ∧ Ok w wr) (fun i _ => n - (intOf i).toNat)
  case atStart => exact ⟨0, Nat.zero_le _, rfl, rfl, Ok.refl _⟩
  case round =>
    obtain ⟨k, hk, rfl, hb, okr⟩ := hrel
    have HB := Lib.hid hb
    have HOKR := Lib.hid okr
    clear hb okr
    by_cases hlt : k < n
    · have d1 : decide ((k : Int) < (n : Int)) = true := decide_eq_true (by omega)
      obtain ⟨b, off, rfl, C0, C1⟩ := HI.out.ok HOKR.out k (by rw [HN.out]; exact hlt)
      have HT := Lib.hid (allB_take xs k (by rw [HN.out]; exact hlt))
      have HFA := Lib.hid (allB_false xs k (by rw [HN.out]; exact hlt))
      have hr := rright_n (atN xs k) wr
      unfold nmV at hr
      generalize atN xs k = x at *
      obtain ⟨xc, xn⟩ := x
      simp only at C0 C1 hr
      have hi0 : (0 : Int) ≤ (k : Int) := Int.natCast_nonneg _
      have hi1 : (k : Int) < (n : Int) := by omega
      cases h1 : nmB ⟨xc, xn⟩ with
      | true =>
        rw [h1] at hr
        have HT2 : Hid (allB (xs.take (k + 1)) = true) := Lib.hid (by rw [HT.out, HB.out, h1]; rfl)
        clear h1
        go_wp2_with fail
        refine hr.mono ?_
        rintro _ w1 ⟨rfl, o1⟩
        go_wp2
        refine ⟨⟨k + 1, hlt, rfl, HT2.out, Ok.trans HOKR.out o1⟩, ?_⟩
        show n - ((k : Int) + 1).toNat < n - (k : Int).toNat
        omega
      | false =>
        rw [h1] at hr
        have HFIN : Hid (∀ (e : Ending) w', Ok w w' → e = .returned (.int .i64 2) → RRaiseP m f xs w e w') := Lib.hid fun e w' o he => ⟨o.mv m, .inl ⟨HFA.out h1, he, HP.out.ok o⟩⟩
        clear h1
        go_wp2_with fail
        refine hr.mono ?_
        rintro _ w1 ⟨rfl, o1⟩
        go_wp2
        go_ret
        exact HFIN.out _ _ (Ok.trans HOKR.out o1) rfl
    · have d1 : decide ((k : Int) < (n : Int)) = false := decide_eq_false (by omega)
      have HALL : Hid (allB xs = true) := Lib.hid (by have := HB.out; rwa [List.take_of_length_le (by rw [HN.out]; omega)] at this)
      have HOKN : Hid (∀ j, j < n → nmB (atN xs j) = true) := Lib.hid fun j hj => by
        rw [atN_get xs j (by rw [HN.out]; exact hj)]
        exact List.all_eq_true.1 HALL.out _ (List.getElem_mem _)
      have HP1 : Hid (RpAt wr m (rzs f (xs.take 0))) := Lib.hid (HP.out.ok HOKR.out)
      have HM1 := Lib.hid (HOKR.out.mv m)
      clear HB
      go_wp2_with fail
      go_loopw [6] (fun i wr => ∃ k : Nat, k ≤ n ∧ i = .int .i64 k ∧ RpAt wr m (rzs f (xs.take k)) ∧ Mv m w wr) (fun i _ => n - (intOf i).toNat)
      case atStart => exact ⟨0, Nat.zero_le _, rfl, HP1.out, HM1.out⟩
      case round =>
        clear d1 hk hlt
        obtain ⟨q, hq, rfl, hpa, hm⟩ := hrel
        have HPA := Lib.hid hpa
        have HM := Lib.hid hm
        clear hpa hm HP1 HM1
        by_cases hlt : q < n
        · have d1 : decide ((q : Int) < (n : Int)) = true := decide_eq_true (by omega)
          obtain ⟨b, off, rfl, C0, C1⟩ := HI.out.mvE HM.out HA.out q (by rw [HN.out]; exact hlt)
          have hok := HOKN.out q hlt
          have HTK : Hid (rzs f (xs.take (q + 1)) = rz (rzs f (xs.take q)) (atN xs q)) := Lib.hid (by
            rw [take_atN xs q (by rw [HN.out]; exact hlt)]; simp [rzs])
          generalize rzs f (xs.take q) = fk at HPA HTK
          generalize atN xs q = x at C0 C1 hok HTK
          obtain ⟨xc, xn⟩ := x
          simp only at C0 C1
          simp only [nmB, clientB, Bool.and_eq_true, decide_eq_true_eq] at hok
          obtain ⟨r, rfl, hr⟩ : ∃ r : Nat, xc = (r : Int) + 1 ∧ r < 8 := ⟨(xc - 1).toNat, by omega, by omega⟩
          have HF : Hid (RpAt (wr.setCell ⟨m, r + 1, none⟩ (.int .i64 (mxI (fk r) xn))).drew m (rzs f (xs.take (q + 1))) ∧ Mv m w (wr.setCell ⟨m, r + 1, none⟩ (.int .i64 (mxI (fk r) xn))).drew) :=
            Lib.hid ⟨by rw [HTK.out]; exact (HPA.out.raise (x := ⟨(r : Int) + 1, xn⟩) hr rfl).drew, HM.out.trans (Only.mv ((Only.refl m wr).set (r + 1) _))⟩
          have c0 := HPA.out.num r hr
          have f0 := HPA.out.free r hr
          generalize fk r = v at *
          unfold mxI at HF
          have h0 : (0 : Int) ≤ (r : Int) + 1 := by omega
          have h1 : (r : Int) + 1 < 9 := by omega
          have hi0 : (0 : Int) ≤ (q : Int) := Int.natCast_nonneg _
          have hi1 : (q : Int) < (n : Int) := by omega
          clear hok HTK HPA hr
          by_cases hvn : v < xn
          · rw [if_pos hvn] at HF
            go_wp2_with fail
            go_region
            go_wp2
            refine ⟨⟨q + 1, hlt, by go_num, HF.out.1, HF.out.2⟩, ?_⟩
            show n - ((q : Int) + 1).toNat < n - (q : Int).toNat
            omega
          · rw [if_neg hvn] at HF
            go_wp2_with fail
            go_region
            go_wp2
            refine ⟨⟨q + 1, hlt, by go_num, HF.out.1, HF.out.2⟩, ?_⟩
            show n - ((q : Int) + 1).toNat < n - (q : Int).toNat
            omega
        · have d1 : decide ((q : Int) < (n : Int)) = false := decide_eq_false (by omega)
          have HFIN : Hid (∀ (e : Ending), e = .returned (.int .i64 0) → RRaiseP m f xs w e wr) := Lib.hid fun e he => ⟨HM.out, .inr ⟨HALL.out, he, by
            have := HPA.out
            rwa [List.take_of_length_le (by rw [HN.out]; omega)] at this⟩⟩
          go_wp2
          go_ret
          exact HFIN.out _ rfl
end Go.Proofs.Ytnjaiiifafbbjaa
