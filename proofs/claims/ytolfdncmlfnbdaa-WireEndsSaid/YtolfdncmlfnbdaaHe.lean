/- The readers' flags, rows and ends; a writer's end that is a row of its own; lent bytes written over, bytes copied. -/
import Derived.Test.YtolfdncmlfnbdaaHd
import Derived.Test.YtolfdncmlfnbdaaHc
namespace Go.Proofs.Ytolfdncmlfnbdaa
open Go.RowKit

def flagV : List B8 → Bool | [] => false | y :: _ => decide (y = 1#8)
def flagR : List B8 → List B8 | [] => [] | y :: r => if y.toNat ≤ 1 then r else []
def flagF : List B8 → Bool | [] => true | y :: _ => !decide (y.toNat ≤ 1)
def flagZ (xs : List B8) (f : Bool) : Bool × List B8 × Bool := if f = true then (false, xs, true) else (flagV xs, flagR xs, flagF xs)
theorem flagZ_ok (xs : List B8) (f : Bool) (h : f = true → xs = []) : (flagZ xs f).2.2 = true → (flagZ xs f).2.1 = [] := by
  unfold flagZ
  split
  · rename_i hf; intro _; exact h hf
  · cases xs with
    | nil => intro _; rfl
    | cons y r =>
      simp only [flagF, flagR]
      intro h2
      have h3 : ¬ y.toNat ≤ 1 := by simpa using h2
      rw [if_neg h3]
theorem flagZ_len (xs : List B8) (f : Bool) : (flagZ xs f).2.1.length ≤ xs.length := by
  unfold flagZ
  split
  · exact Nat.le_refl _
  · cases xs with
    | nil => exact Nat.le_refl _
    | cons y r =>
      simp only [flagR]
      split <;> simp
theorem ub_one (y : B8) : (ub y == 1) = decide (y = 1#8) := by
  have := ub_eq y 1#8
  rw [show ub 1#8 = 1 from rfl] at this
  rw [this]
  by_cases h : y = 1#8 <;> simp [h]
set_option maxRecDepth 100000 in
set_option maxHeartbeats 2000000 in
theorem flag_r (W0 : World) (g : Nat) (w : World) (xs : List B8) (h : Rd W0 g w xs false) :
    Calls Try.prog 29 #[.pointer (some ⟨g, 0, none⟩)] w (RdPost W0 g w (.bool (flagV xs)) (flagR xs) (flagF xs)) := by
  have HR := Lib.hid h
  clear h
  cases xs with
  | nil =>
    go_enter Try.func29, Try.ntmps29
    go_wp2_with fail
    refine (dead_r W0 g w _ false HR.out).mono ?_
    rintro e w' ⟨rfl, rfl⟩
    go_wp2_with fail
    refine (octet_none W0 g w false HR.out).mono ?_
    rintro e w1 ⟨rfl, hr1, ho1⟩
    have HR1 := Lib.hid hr1
    have HO1 := Lib.hid ho1
    clear hr1 ho1
    go_wp2_with fail
    go_ret
    exact ⟨rfl, HR1.out, HO1.out⟩
  | cons y r =>
    have HON := Lib.hid (ub_one y)
    have HU := Lib.hid (ub_lo y)
    by_cases hy : y.toNat ≤ 1
    · have hd : decide ((1 : Int) < ub y) = false := decide_eq_false (by unfold ub; omega)
      have HF : Hid (flagR (y :: r) = r ∧ flagF (y :: r) = false) := Lib.hid (by simp [flagR, flagF, hy])
      clear hy
      go_enter Try.func29, Try.ntmps29
      go_wp2_with fail
      refine (dead_r W0 g w _ false HR.out).mono ?_
      rintro e w' ⟨rfl, rfl⟩
      go_wp2_with fail
      refine (octet_some W0 g w y r false HR.out).mono ?_
      rintro e w1 ⟨rfl, hr1, ho1⟩
      have HR1 := Lib.hid hr1
      have HO1 := Lib.hid ho1
      clear hr1 ho1
      go_wp2_with fail
      go_ret
      rw [HF.out.1, HF.out.2]
      exact ⟨by rw [HON.out]; rfl, HR1.out, HO1.out⟩
    · have hd : decide ((1 : Int) < ub y) = true := decide_eq_true (by unfold ub; omega)
      have HF : Hid (flagR (y :: r) = [] ∧ flagF (y :: r) = true) := Lib.hid (by simp [flagR, flagF, hy])
      clear hy
      go_enter Try.func29, Try.ntmps29
      go_wp2_with fail
      refine (dead_r W0 g w _ false HR.out).mono ?_
      rintro e w' ⟨rfl, rfl⟩
      go_wp2_with fail
      refine (octet_some W0 g w y r false HR.out).mono ?_
      rintro e w1 ⟨rfl, hr1, ho1⟩
      have HR1 := Lib.hid hr1
      have HO1 := Lib.hid ho1
      clear hr1 ho1
      go_wp2_with fail
      refine (fail_r W0 g _ _ _ HR1.out).mono ?_
      rintro e w2 ⟨rfl, hr2, ho2⟩
      have HR2 := Lib.hid hr2
      have HO2 := Lib.hid ho2
      clear hr2 ho2
      go_wp2_with fail
      go_ret
      rw [HF.out.1, HF.out.2]
      exact ⟨by rw [HON.out]; rfl, HR2.out, HO1.out.trans HO2.out⟩
set_option maxHeartbeats 400000 in
theorem end_r (W0 : World) (g : Nat) (w : World) (xs : List B8) (f : Bool) (h : Rd W0 g w xs f) :
    Calls Try.prog 35 #[.pointer (some ⟨g, 0, none⟩)] w fun e w' => e = .returned (.int .i64 (endOf xs f)) ∧ w = w' := by
  obtain ⟨v, hv, h0⟩ := h.2.2.1
  obtain ⟨A, c, rfl, _⟩ := hv.form
  have h1 := h.2.2.2.1
  have h2 := h.2.2.2.2.1
  clear hv h
  cases f with
  | true =>
    go_enter Try.func35, Try.ntmps35
    go_wp2
    go_ret
    exact ⟨rfl, rfl⟩
  | false =>
    by_cases hl : 0 < xs.length
    · have HE : Hid (endOf xs false = 4) := Lib.hid (by simp [endOf, hl])
      have hd : decide (0 < xs.length) = true := decide_eq_true hl
      have hd2 : decide ((0 : Int) < (xs.length : Int)) = true := decide_eq_true (by omega)
      go_enter Try.func35, Try.ntmps35
      go_wp2
      go_ret
      exact ⟨by rw [HE.out]; rfl, rfl⟩
    · have HE : Hid (endOf xs false = 0) := Lib.hid (by unfold endOf; rw [decide_eq_false hl]; rfl)
      have hd : decide (0 < xs.length) = false := decide_eq_false hl
      have hd2 : decide ((0 : Int) < (xs.length : Int)) = false := decide_eq_false (by omega)
      go_enter Try.func35, Try.ntmps35
      go_wp2
      go_ret
      exact ⟨by rw [HE.out]; rfl, rfl⟩


set_option maxHeartbeats 400000 in
theorem Flag_z (W0 : World) (g : Nat) (w : World) (xs : List B8) (f : Bool) (h : Rd W0 g w xs f) :
    Calls Try.prog 29 #[.pointer (some ⟨g, 0, none⟩)] w (RdPost W0 g w (.bool (flagZ xs f).1) (flagZ xs f).2.1 (flagZ xs f).2.2) := by
  cases f with
  | false => exact flag_r W0 g w xs h
  | true =>
    have HR := Lib.hid h
    have e : flagZ xs true = (false, xs, true) := rfl
    rw [e]
    clear h e
    go_enter Try.func29, Try.ntmps29
    go_wp2_with fail
    refine (dead_r W0 g w _ true HR.out).mono ?_
    rintro e w' ⟨rfl, rfl⟩
    go_wp2_with fail
    go_ret
    exact ⟨rfl, HR.out, Only.refl _ _⟩
set_option maxHeartbeats 400000 in
theorem rend_w (W0 : World) (g : Nat) (w : World) (xs : List B8) (f : Bool) (h : Rf W0 g w xs f) :
    Calls Try.prog 36 #[.pointer (some ⟨g, 0, none⟩)] w fun e w' => e = .returned (.int .i64 (endOf xs f)) ∧ w = w' := by
  obtain ⟨v, hv, h0⟩ := h.2.2.1
  obtain ⟨A, c, rfl, _⟩ := hv.form
  have h1 := h.2.2.2.1
  clear hv h
  cases f with
  | true =>
    go_enter Try.func36, Try.ntmps36
    go_wp2
    go_ret
    exact ⟨rfl, rfl⟩
  | false =>
    by_cases hl : 0 < xs.length
    · have HE : Hid (endOf xs false = 4) := Lib.hid (by simp [endOf, hl])
      have hd : decide (0 < xs.length) = true := decide_eq_true hl
      have hd2 : decide ((0 : Int) < (xs.length : Int)) = true := decide_eq_true (by omega)
      go_enter Try.func36, Try.ntmps36
      go_wp2
      go_ret
      exact ⟨by rw [HE.out]; rfl, rfl⟩
    · have HE : Hid (endOf xs false = 0) := Lib.hid (by unfold endOf; rw [decide_eq_false hl]; rfl)
      have hd : decide (0 < xs.length) = false := decide_eq_false hl
      have hd2 : decide ((0 : Int) < (xs.length : Int)) = false := decide_eq_false (by omega)
      go_enter Try.func36, Try.ntmps36
      go_wp2
      go_ret
      exact ⟨by rw [HE.out]; rfl, rfl⟩
set_option maxRecDepth 100000 in
set_option maxHeartbeats 1000000 in
theorem rFlag_w (W0 : World) (g : Nat) (w : World) (xs : List B8) (f : Bool) (h : Rf W0 g w xs f) :
    Calls Try.prog 30 #[.pointer (some ⟨g, 0, none⟩)] w (RfPost W0 g w (.bool (flagZ xs f).1) (flagZ xs f).2.1 (flagZ xs f).2.2) := by
  have HR := Lib.hid h
  obtain ⟨_, hok, ⟨v, hv, h0⟩, h1, h3, h4⟩ := h
  cases f with
  | true =>
    have e : flagZ xs true = (false, xs, true) := rfl
    rw [e]
    clear e
    go_enter Try.func30, Try.ntmps30
    go_wp2
    go_ret
    exact ⟨rfl, HR.out, Only.refl _ _⟩
  | false =>
    cases xs with
    | nil =>
      have e : flagZ [] false = (false, [], true) := rfl
      rw [e]
      obtain ⟨A, c, rfl, _⟩ := hv.form
      clear e hv hok
      go_enter Try.func30, Try.ntmps30
      go_wp2_with fail
      refine (rfail_w W0 g _ _ _ HR.out).mono ?_
      rintro _ w2 ⟨rfl, hr2, ho2⟩
      have HR2 := Lib.hid hr2
      have HO2 := Lib.hid ho2
      clear hr2 ho2
      go_wp2_with fail
      go_ret
      exact ⟨rfl, HR2.out, HO2.out⟩
    | cons y r =>
      have HON := Lib.hid (ub_one y)
      have hV := hv
      obtain ⟨b, o, c, rfl, hlc, hc, ht⟩ := bytes_tail hv
      have C1 := hok.cell hc
      have HT := Lib.hid ht
      have hlm : r.length + 1 ≤ 140737488351232 := by
        obtain ⟨_, _, _, hl⟩ := hV.form
        simpa using hl
      have hz : ((r.length : Int) + 1 == 0) = false := by rw [beq_eq_false_iff_ne]; omega
      by_cases hy : y.toNat ≤ 1
      · have hd : decide ((1 : Int) < ub y) = false := decide_eq_false (by unfold ub; omega)
        have HF : Hid (flagZ (y :: r) false = (flagV (y :: r), r, false)) := Lib.hid (by simp [flagZ, flagR, flagF, hy])
        rw [HF.out]
        have HG : Hid (∀ A c', BytesIn W0 (.slice A r.length c') r → RfPost W0 g w (.bool (flagV (y :: r))) r false (.returned (.bool (ub y == 1))) (w.setCell ⟨g, 0, none⟩ (.slice A r.length c'))) := Lib.hid fun A c' hA =>
          ⟨by rw [HON.out]; rfl, HR.out.set hA ((Only.refl g w).set 0 _) (by go_simp) (by go_simp) (by go_simp) (by go_simp), (Only.refl g w).set 0 _⟩
        clear hy ht hV hv hc hok HF
        by_cases hc1 : c = 1
        · obtain rfl := hc1
          have hx0 : r = [] := List.length_eq_zero_iff.1 (by omega)
          subst hx0
          have HB : Hid (BytesIn W0 (.slice (some ⟨b, o, none⟩) 0 0) []) := Lib.hid (by
            have := HT.out _ rfl
            rwa [if_pos rfl] at this)
          clear hz
          simp only [List.length_nil, Nat.zero_add] at h0
          go_enter Try.func30, Try.ntmps30
          go_wp2_with fail
          go_ret
          exact HG.out _ _ HB.out
        · have HB : Hid (BytesIn W0 (.slice (some ⟨b, o + 1, none⟩) r.length (c - 1)) r) := Lib.hid (by
            have := HT.out _ rfl
            rwa [if_neg hc1] at this)
          have hc2 : 1 < c := by omega
          go_enter Try.func30, Try.ntmps30
          go_wp2_with fail
          go_ret
          exact HG.out _ _ HB.out
      · have hd : decide ((1 : Int) < ub y) = true := decide_eq_true (by unfold ub; omega)
        have HF : Hid (flagZ (y :: r) false = (false, [], true)) := Lib.hid (by
          have : ¬ y = 1#8 := fun e => hy (by subst e; decide)
          simp [flagZ, flagV, flagR, flagF, hy, this])
        rw [HF.out]
        clear hy ht hV hv hc hok
        go_enter Try.func30, Try.ntmps30
        go_wp2_with fail
        refine (rfail_w W0 g _ _ _ HR.out).mono ?_
        rintro _ w2 ⟨rfl, hr2, ho2⟩
        have HR2 := Lib.hid hr2
        have HO2 := Lib.hid ho2
        clear hr2 ho2
        go_wp2_with fail
        go_ret
        exact ⟨rfl, HR2.out, HO2.out⟩
/-- What a writer tells at its end: a row of its own. -/
def DoneP (W : World) (xs : List B8) (e : Ending) (w' : World) : Prop := ∃ A c, e = .returned (.tuple #[.slice A xs.length c, .int .i64 0]) ∧ OwnN w' W.heap.size (.slice A xs.length c) xs ∧ Ok W w'
set_option maxRecDepth 100000 in
set_option maxHeartbeats 1000000 in
theorem done_z (g : Nat) (xs : List B8) (W : World) (hw : Wn false g W xs) (hx : xs.length ≤ 140737488350000) :
    Calls Try.prog 18 #[.pointer (some ⟨g, 0, none⟩)] W (DoneP W xs) := by
  obtain ⟨A, c, hw⟩ := hw.wr
  have HW := Lib.hid hw
  have HB : Hid (BytesIn W (.slice A xs.length c) xs) := Lib.hid (hw.2.1.bytes (by omega))
  have h0 := hw.1
  have h1 := hw.2.2.1
  have HON : Hid (OwnN W W.heap.size (.slice none 0 0) []) := Lib.hid (World.ownsRow_nil _ _ _ _)
  generalize hL : xs.length = L at *
  have HL := Lib.hid hL
  clear hw hL
  go_enter Try.func18, Try.ntmps18
  go_wp2_with fail
  refine (none_w g _ xs _ HW.out).mono ?_
  rintro e w1 ⟨rfl, rfl⟩
  go_wp2_with (at_builtin; go_must (refine wpList_app rfl (.const (.slice none 0 0)) (.tmp 15) rfl W.heap.size (.slice none 0 0) [] xs (.slice A L c) rfl rfl HON.out HB.out (by rw [HL.out]; simp; omega) (Nat.le_refl _) ?_; intro A' c' w2 hown2 hbel2; simp only [List.nil_append, List.length_nil, Nat.zero_add] at hown2 ⊢; have HOWN2 := Lib.hid hown2; have HBEL2 := Lib.hid hbel2; clear hown2 hbel2; rw [HL.out]))
  go_ret2
  exact ⟨A', c', by rw [HL.out]; rfl, by have := HOWN2.out; rw [HL.out] at this; rw [HL.out]; exact this, HBEL2.out⟩

/-- A row read, in a block of its own. -/
def RowQ (W0 : World) (g : Nat) (w : World) (zs ys : List B8) (f : Bool) (e : Ending) (w' : World) : Prop := ∃ A c, e = .returned (.slice A zs.length c) ∧ OwnN w' w.heap.size (.slice A zs.length c) zs ∧ Rd W0 g w' ys f ∧ Alo g w w'
theorem Rd.ok {W0 : World} {m : Nat} {w w' : World} {xs : List B8} {f : Bool} (h : Rd W0 m w xs f) (k : Ok w w') : Rd W0 m w' xs f := by
  obtain ⟨h1, h2, ⟨v, hv, h0⟩, h3, h6, h4, h5⟩ := h
  have hm : m < w.heap.size := World.block_lt_of_cell? _ _ h0
  exact ⟨h1, Ok.trans h2 k, ⟨v, hv, k.cell h0⟩, k.cell h3, k.cell h6, by rw [Below.frozen k (p := ⟨m, 0, none⟩) hm]; exact h4, by rw [Below.frozen k (p := ⟨m, 1, none⟩) hm]; exact h5⟩
theorem rowZ_len (m : Int) (xs : List B8) (f : Bool) : (rowZ m xs f).2.1.length ≤ xs.length ∧ (rowZ m xs f).1.length ≤ xs.length := by
  have h := numZ_len m xs f
  unfold rowZ
  split
  · exact ⟨h, Nat.zero_le _⟩
  · split
    · exact ⟨Nat.zero_le _, Nat.zero_le _⟩
    · simp only [List.length_drop, List.length_take]
      omega
set_option maxRecDepth 100000 in
set_option maxHeartbeats 1000000 in
theorem RowP_z (W0 : World) (g : Nat) (w : World) (xs : List B8) (f : Bool) (m : Int) (h : Rd W0 g w xs f) :
    Calls Try.prog 33 #[.pointer (some ⟨g, 0, none⟩), .int .i64 m] w (RowQ W0 g w (rowZ m xs f).1 (rowZ m xs f).2.1 (rowZ m xs f).2.2) := by
  have HR := Lib.hid h
  clear h
  cases f with
  | true =>
    rw [rowZ_dead]
    go_enter Try.func33, Try.ntmps33
    go_wp2_with fail
    refine (dead_r W0 g w _ true HR.out).mono ?_
    rintro e w' ⟨rfl, rfl⟩
    go_wp2_with fail
    go_ret
    exact ⟨none, 0, rfl, World.ownsRow_nil _ _ _ _, HR.out, Alo.refl _ _⟩
  | false =>
    have HP := Lib.hid (placeRow_z W0 g w xs m HR.out)
    generalize rowZ m xs false = R at *
    obtain ⟨zs, ys, ff⟩ := R
    simp only at HP ⊢
    go_enter Try.func33, Try.ntmps33
    go_wp2_with fail
    refine (dead_r W0 g w _ false HR.out).mono ?_
    rintro e w' ⟨rfl, rfl⟩
    go_wp2_with fail
    refine HP.out.mono ?_
    rintro _ w2 ⟨v, rfl, hz, hr2, ho2⟩
    have HB := Lib.hid (hr2.2.1.bytes hz)
    obtain ⟨A, c, rfl, hzm⟩ := hz.form
    have HR2 := Lib.hid hr2
    have HO2 := Lib.hid ho2
    have HON : Hid (OwnN w2 w2.heap.size (.slice none 0 0) []) := Lib.hid (World.ownsRow_nil _ _ _ _)
    have hsz := ho2.2.2.2.1
    have HSZ := Lib.hid hsz
    clear hr2 ho2 hz hsz
    go_wp2_with (at_builtin; go_must (refine wpList_app rfl (.const (.slice none 0 0)) (.tmp 11) rfl w2.heap.size (.slice none 0 0) [] zs (.slice A zs.length c) rfl rfl HON.out HB.out (by simp; omega) (Nat.le_refl _) ?_; intro A' c' w3 hown3 hbel3; simp only [List.nil_append, List.length_nil, Nat.zero_add] at hown3 ⊢; have HOWN3 := Lib.hid hown3; have HBEL3 := Lib.hid hbel3; clear hown3 hbel3))
    go_ret
    exact ⟨A', c', rfl, by rw [← HSZ.out]; exact HOWN3.out, HR2.out.ok HBEL3.out, (Alo.only HO2.out).trans (Alo.ok HBEL3.out)⟩
set_option maxRecDepth 100000 in
set_option maxHeartbeats 1000000 in
theorem copyBytes_w (W : World) (v : Value) (xs : List B8) (h : BytesIn W v xs) (_hx : xs.length ≤ 140737488350000) :
    Calls Try.prog 26 #[v] W (RowP W xs) := by
  obtain ⟨A, c, rfl, _⟩ := h.form
  have HB := Lib.hid h
  have HON : Hid (OwnN W W.heap.size (.slice none 0 0) []) := Lib.hid (World.ownsRow_nil _ _ _ _)
  clear h
  go_enter Try.func26, Try.ntmps26
  go_wp2_with (at_builtin; go_must (refine wpList_app rfl (.tmp 4) (.tmp 5) rfl W.heap.size (.slice none 0 0) [] xs (.slice A xs.length c) rfl rfl HON.out HB.out (by simp; omega) (Nat.le_refl _) ?_; intro A' c' w2 hown2 hbel2; simp only [List.nil_append, List.length_nil, Nat.zero_add] at hown2 ⊢; have HOWN2 := Lib.hid hown2; have HBEL2 := Lib.hid hbel2; clear hown2 hbel2))
  go_ret
  exact ⟨A', c', rfl, HOWN2.out, HBEL2.out⟩
end Go.Proofs.Ytolfdncmlfnbdaa
