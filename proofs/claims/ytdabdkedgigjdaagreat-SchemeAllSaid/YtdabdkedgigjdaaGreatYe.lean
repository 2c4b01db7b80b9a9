/- A row of handoffs that are right; shares cloned, copied. -/
import Derived.Test.YtdabdkedgigjdaaGreatYc
import Derived.Test.YtdabdkedgigjdaaGreatSk
import Derived.Lib.BufferMore
namespace Go.Proofs.YtdabdkedgigjdaaGreat
open Go.RowKit

/-- A handoff at a place. -/
def ScIn (w : World) (b o : Nat) (x : Sc) : Prop := w.cell? ⟨b, o, none⟩ = some (.int .i64 x.num) ∧ w.cell? ⟨b, o + 1, none⟩ = some (.string x.sp.lo) ∧ w.cell? ⟨b, o + 2, none⟩ = some (.string x.sp.hi) ∧ w.cell? ⟨b, o + 3, none⟩ = some (.int .i64 x.fr) ∧
  w.cell? ⟨b, o + 4, none⟩ = some (.int .i64 x.to) ∧ w.cell? ⟨b, o + 5, none⟩ = some (.int .i64 x.ep) ∧ w.cell? ⟨b, o + 6, none⟩ = some (.int .i64 x.un) ∧ w.cell? ⟨b, o + 7, none⟩ = some (.int .u8 x.st)
theorem ScIn.ok {w w' : World} {b o : Nat} {x : Sc} (h : ScIn w b o x) (k : Ok w w') : ScIn w' b o x :=
  ⟨Ok.cell k h.1, Ok.cell k h.2.1, Ok.cell k h.2.2.1, Ok.cell k h.2.2.2.1, Ok.cell k h.2.2.2.2.1, Ok.cell k h.2.2.2.2.2.1, Ok.cell k h.2.2.2.2.2.2.1, Ok.cell k h.2.2.2.2.2.2.2⟩
def scAt (xs : List Sc) (j : Nat) : Sc := xs[j]?.getD sc0
/-- A row of handoffs. -/
def ScsAt (w : World) (A : Option Addr) (xs : List Sc) : Prop := ∀ j, j < xs.length → ∃ b off, A = some ⟨b, off, none⟩ ∧ ScIn w b (off + j * 8) (scAt xs j)
theorem ScsAt.ok {w w' : World} {A : Option Addr} {xs : List Sc} (h : ScsAt w A xs) (k : Ok w w') : ScsAt w' A xs := fun j hj => by
  obtain ⟨b, off, e, h2⟩ := h j hj
  exact ⟨b, off, e, h2.ok k⟩
def badI (xs : List Sc) : Int := match xs.findIdx? (fun x => !scB x) with
  | some i => (i : Int)
  | none => -1
theorem scAt_get (xs : List Sc) (j : Nat) (h : j < xs.length) : scAt xs j = xs[j] := by simp [scAt, h]
theorem badI_some (xs : List Sc) (k : Nat) (hk : k < xs.length) (h : (!scB (scAt xs k)) = true) (hb : ∀ j, j < k → (!scB (scAt xs j)) = false) : badI xs = (k : Int) := by
  have e : xs.findIdx? (fun x => !scB x) = some k := by
    rw [List.findIdx?_eq_some_iff_getElem]
    refine ⟨hk, by rw [← scAt_get xs k hk]; exact h, fun j hj => ?_⟩
    rw [← scAt_get xs j (by omega), hb j hj]; simp
  rw [badI, e]
theorem badI_none (xs : List Sc) (hb : ∀ j, j < xs.length → (!scB (scAt xs j)) = false) : badI xs = -1 := by
  have e : xs.findIdx? (fun x => !scB x) = none := by
    rw [List.findIdx?_eq_none_iff]
    intro x hx
    obtain ⟨j, hj, rfl⟩ := List.mem_iff_getElem.1 hx
    rw [← scAt_get xs j hj, hb j hj]
  rw [badI, e]
theorem badI_all (xs : List Sc) : (!decide (0 ≤ badI xs)) = xs.all scB := by
  unfold badI
  cases h : xs.findIdx? (fun x => !scB x) with
  | none =>
    rw [List.findIdx?_eq_none_iff] at h
    have : xs.all scB = true := List.all_eq_true.2 fun x hx => by have := h x hx; simpa using this
    rw [this]; rfl
  | some i =>
    rw [List.findIdx?_eq_some_iff_getElem] at h
    obtain ⟨hi, hq, _⟩ := h
    have : xs.all scB = false := by
      rw [List.all_eq_false]
      exact ⟨xs[i], List.getElem_mem hi, by simpa using hq⟩
    rw [this]
    simp

set_option maxRecDepth 100000 in
set_option maxHeartbeats 4000000 in
theorem idxSc_w (A : Option Addr) (n c : Nat) (xs : List Sc) (hn : xs.length = n) (hn6 : n ≤ 1000000) (w : World) (hI : ScsAt w A xs) :
    Calls Tryz.prog 110 #[.slice A n c, .func (.func 82) #[] #[]] w (Ret w (.int .i64 (badI xs))) := by
  have HI := Lib.hid hI
  have HN := Lib.hid hn
  have HF := Lib.hid notSc_c
  have HS := Lib.hid (badI_some xs)
  have HZ := Lib.hid (badI_none xs)
  obtain ⟨R, hR⟩ : ∃ R, badI xs = R := ⟨_, rfl⟩
  rw [hR] at HS HZ ⊢
  clear hI hn hR
  go_enter Tryz.func110, Tryz.ntmps110
  go_wp2_with fail
  go_loopw [5, 8] (fun _ i wr => ∃ k : Nat, k ≤ n ∧ i = .int .i64 k ∧ (∀ j, j < k → (!scB (scAt xs j)) = false) ∧ Ok w wr) (fun _ i _ => n - (intOf i).toNat)
  case atStart => exact ⟨0, Nat.zero_le _, rfl, fun j hj => absurd hj (Nat.not_lt_zero _), Ok.refl _⟩
  case round =>
    obtain ⟨k, hk, rfl, hb, okr⟩ := hrel
    have HB := Lib.hid hb
    have HOKR := Lib.hid okr
    clear hb okr
    by_cases hlt : k < n
    · have d1 : decide ((k : Int) < (n : Int)) = true := decide_eq_true (by omega)
      obtain ⟨b, off, rfl, C0, C1, C2, C3, C4, C5, C6, C7⟩ := HI.out.ok HOKR.out k (by rw [HN.out]; exact hlt)
      have hf := HF.out (scAt xs k) wr
      have HS := Lib.hid (HS.out k (by rw [HN.out]; exact hlt))
      have HNX : Hid ((!scB (scAt xs k)) = false → ∀ j, j < k + 1 → (!scB (scAt xs j)) = false) := Lib.hid fun h j hj => by
        by_cases hjk : j < k
        · exact HB.out j hjk
        · obtain rfl : j = k := by omega
          exact h
      unfold scV at hf
      generalize scAt xs k = x at *
      obtain ⟨num, ⟨xl, xh⟩, fr, to, ep, un, st⟩ := x
      simp only at C0 C1 C2 C3 C4 C5 C6 C7 hf
      have hi0 : (0 : Int) ≤ (k : Int) := Int.natCast_nonneg _
      have hi1 : (k : Int) < (n : Int) := by omega
      go_wp2_with fail
      refine hf.mono ?_
      rintro _ w1 ⟨rfl, o1⟩
      cases h1 : !scB ⟨num, ⟨xl, xh⟩, fr, to, ep, un, st⟩ with
      | true =>
        have hr := HS.out h1 HB.out
        go_wp2
        go_ret
        exact ⟨by rw [hr]; rfl, Ok.call HOKR.out o1⟩
      | false =>
        have HNX := Lib.hid (HNX.out h1)
        go_wp2
        refine ⟨⟨k + 1, hlt, rfl, HNX.out, Ok.call HOKR.out o1⟩, ?_⟩
        show n - ((k : Int) + 1).toNat < n - (k : Int).toNat
        omega
    · have d1 : decide ((k : Int) < (n : Int)) = false := decide_eq_false (by omega)
      have hr := HZ.out fun j hj => HB.out j (by rw [HN.out] at hj; omega)
      go_wp2
      go_ret
      exact ⟨by rw [hr]; rfl, HOKR.out⟩
set_option maxRecDepth 100000 in
set_option maxHeartbeats 4000000 in
theorem containsSc_w (A : Option Addr) (n c : Nat) (xs : List Sc) (hn : xs.length = n) (hn6 : n ≤ 1000000) (w : World) (hI : ScsAt w A xs) :
    Calls Tryz.prog 81 #[.slice A n c, .func (.func 82) #[] #[]] w (Ret w (.bool (decide (0 ≤ badI xs)))) := by
  have hi := idxSc_w A n c xs hn hn6 w hI
  go_enter Tryz.func81, Tryz.ntmps81
  go_wp2_with fail
  refine hi.mono ?_
  rintro _ w1 ⟨rfl, o1⟩
  go_wp2
  go_ret
  exact ⟨rfl, o1⟩
set_option maxRecDepth 100000 in
set_option maxHeartbeats 4000000 in
theorem scRight_w (A : Option Addr) (n c : Nat) (xs : List Sc) (hn : xs.length = n) (hn6 : n ≤ 1000000) (w : World) (hI : ScsAt w A xs) :
    Calls Tryz.prog 33 #[.slice A n c] w (Ret w (.bool (xs.all scB))) := by
  have hi := containsSc_w A n c xs hn hn6 w hI
  rw [← badI_all]
  generalize decide (0 ≤ badI xs) = r at hi ⊢
  go_enter Tryz.func33, Tryz.ntmps33
  go_wp2_with fail
  refine hi.mono ?_
  rintro _ w1 ⟨rfl, o1⟩
  go_wp2
  go_ret
  exact ⟨rfl, o1⟩
theorem OwnSh.made (w : World) : OwnSh (w.alloc (.cells #[] 35)) w.heap.size (Option.some ⟨w.heap.size, 0, none⟩) 0 0 [] := ⟨World.ownsRow_lit (base := w.heap.size) (e := 35) (size := 4) w #[] 0 (Nat.le_refl _) (by decide) (by decide), rfl⟩
theorem OwnSh.cap {w : World} {B : Nat} {A : Option Addr} {n c : Nat} {xs : List Sh} (h : OwnSh w B A n c xs) : xs.length ≤ c := by
  obtain ⟨h1, rfl⟩ := h
  rcases h1.2 with ⟨e, h5⟩ | ⟨g, cap, cur, e, _, _, _, hl, _⟩
  · omega
  · simp only [Value.slice.injEq] at e
    omega
set_option maxRecDepth 100000 in
set_option maxHeartbeats 2000000 in
theorem cloneSh_w (A : Option Addr) (c : Nat) (xs : List Sh) (hn6 : xs.length ≤ 1000) (w : World) (hI : SharesAt w A xs) :
    Calls Tryz.prog 109 #[.slice A xs.length c] w (SharesPost w xs) := by
  cases A with
  | none =>
    obtain rfl : xs = [] := by
      cases xs with
      | nil => rfl
      | cons x l => obtain ⟨b, off, e, _⟩ := hI 0 (by simp); cases e
    have heq := fun w => Lib.run_eql_slice_nil_nil (P := Tryz.prog) w 0 c Tryz.underlying22
    go_enter Tryz.func109, Tryz.ntmps109
    go_wp2_with fail
    go_ret
    exact ⟨none, 0, rfl, OwnSh.nil _ _, Ok.refl _⟩
  | some ad =>
    have hin : ShIn w ad xs := by
      by_cases h0 : xs.length = 0
      · obtain rfl : xs = [] := List.length_eq_zero_iff.1 h0
        intro j u hu
        simp [flat4] at hu
      · obtain ⟨b, off, e, _⟩ := hI 0 (by omega)
        cases e
        exact hI.inn
    have HO : Hid (OwnSh (w.alloc (.cells #[] 35)) w.heap.size (some ⟨w.heap.size, 0, none⟩) 0 0 []) := Lib.hid (OwnSh.made w)
    have HX : Hid (ShIn (w.alloc (.cells #[] 35)) ad xs) := Lib.hid (hin.ok (Ok.alloc (Ok.refl w) _))
    obtain ⟨L, hL⟩ : ∃ L, xs.length = L := ⟨_, rfl⟩
    have HL := Lib.hid hL
    rw [hL] at hn6 ⊢
    clear hI hin hL
    have heq := fun w => Lib.run_eql_slice_some_nil (P := Tryz.prog) w ad L c Tryz.underlying22
    go_enter Tryz.func109, Tryz.ntmps109
    go_wp2_with (at_builtin; go_must (refine wpList_appSh rfl (.tmp 5) (.tmp 6) rfl w.heap.size (some ⟨w.heap.size, 0, none⟩) 0 0 [] rfl HO.out ad L c xs rfl HL.out HX.out (by simp; omega) (by rw [World.size_alloc]; omega) ?_; intro A' n' c' w2 hown2 hbel2; have HOWN2 := Lib.hid hown2; have HBEL2 := Lib.hid hbel2; clear hown2 hbel2))
    go_ret
    have h := HOWN2.out
    rw [List.nil_append] at h
    have h2 : n' = L := by rw [← HL.out]; exact h.2
    rw [h2] at h ⊢
    exact ⟨A', c', by rw [HL.out]; rfl, by rw [HL.out]; exact h, Below.trans (Ok.alloc (Ok.refl w) _) HBEL2.out⟩
set_option maxRecDepth 100000 in
set_option maxHeartbeats 2000000 in
theorem copySh_w (ep : Int) (A : Option Addr) (c : Nat) (xs : List Sh) (hn6 : xs.length ≤ 1000) (w : World) (hI : SharesAt w A xs) :
    Calls Tryz.prog 77 #[.agg #[.int .i64 ep, .slice A xs.length c]] w fun e w' => ∃ A' c', e = .returned (.agg #[.int .i64 ep, .slice A' xs.length c']) ∧ OwnSh w' w.heap.size A' xs.length c' xs ∧ Ok w w' := by
  have hc := fun w' (k : Ok w w') => cloneSh_w A c xs hn6 w' (hI.ok k)
  have HC := Lib.hid hc
  unfold SharesPost at HC
  obtain ⟨L, hL⟩ : ∃ L, xs.length = L := ⟨_, rfl⟩
  rw [hL] at HC hn6 ⊢
  clear hc hI hL
  go_enter Tryz.func77, Tryz.ntmps77
  go_wp2_with fail
  generalize hW : (w.alloc (.cells #[.int .i64 ep, .slice A L c] 24)).alloc (.cells #[.int .i64 0, .slice none 0 0] 24) = W
  have oW : Ok w W := by subst hW; exact Ok.alloc (Ok.alloc (Ok.refl w) _) _
  have B0 : W.cell? ⟨w.heap.size, 0, none⟩ = some (.int .i64 ep) := by subst hW; go_cell
  have B1 : W.cell? ⟨w.heap.size, 1, none⟩ = some (.slice A L c) := by subst hW; go_cell
  have G1 : W.frozen? ⟨w.heap.size, 1, none⟩ = false := by subst hW; go_cell
  have R0 : W.cell? ⟨w.heap.size + 1, 0, none⟩ = some (.int .i64 0) := by subst hW; go_cell
  have R1 : W.cell? ⟨w.heap.size + 1, 1, none⟩ = some (.slice none 0 0) := by subst hW; go_cell
  have F0 : W.frozen? ⟨w.heap.size + 1, 0, none⟩ = false := by subst hW; go_cell
  have F1 : W.frozen? ⟨w.heap.size + 1, 1, none⟩ = false := by subst hW; go_cell
  have HWS : Hid (w.heap.size + 1 < W.heap.size) := Lib.hid (World.block_lt_of_cell? _ _ R0)
  clear hW
  refine (HC.out W oW).mono ?_
  rintro _ w1 ⟨A1, c1, rfl, hown, o1⟩
  replace G1 := (Below.frozen o1 (World.block_lt_of_cell? _ _ B1)).trans G1
  replace F0 := (Below.frozen o1 (World.block_lt_of_cell? _ _ R0)).trans F0
  replace F1 := (Below.frozen o1 (World.block_lt_of_cell? _ _ R1)).trans F1
  replace R0 := Ok.cell o1 R0
  replace R1 := Ok.cell o1 R1
  replace B0 := Ok.cell o1 B0
  replace B1 := Ok.cell o1 B1
  have OK1 := Lib.hid (Ok.call oW o1)
  have hW1 : w.heap.size + 1 < W.heap.size := HWS.out
  have HAT := Lib.hid hown
  clear o1 oW hown
  go_wp2
  have s0 : ((w1.setCell ⟨w.heap.size, 1, none⟩ (.slice A1 L c1)).cell? ⟨w.heap.size + 1, 0, none⟩) = some (.int .i64 0) := (World.cell?_setCell_other _ _ _ _ (by simp)).trans R0
  have s1 : ((w1.setCell ⟨w.heap.size, 1, none⟩ (.slice A1 L c1)).cell? ⟨w.heap.size + 1, 1, none⟩) = some (.slice none 0 0) := (World.cell?_setCell_other _ _ _ _ (by simp)).trans R1
  have st := store2 (w1.setCell ⟨w.heap.size, 1, none⟩ (.slice A1 L c1)) (w.heap.size + 1) _ _ (.int .i64 ep) (.slice A1 L c1) s0 s1
  (try simp only [Exit.inBlock, Exit.then])
  refine bodyPost_ret (by simp [results, Tryz.results77, go_sem, st.1, st.2]; try rfl) rfl ?_
  refine ⟨A1, c1, rfl, (((HAT.out.set (p := ⟨w.heap.size, 1, none⟩) (by simp; omega) _).set (p := ⟨w.heap.size + 1, 0, none⟩) (by simp; omega) _).set (p := ⟨w.heap.size + 1, 1, none⟩) (by simp; omega) _).base (by omega), Ok.set (Ok.set (Ok.set OK1.out (Nat.le_refl _) _) (by simp) _) (by simp) _⟩
end Go.Proofs.YtdabdkedgigjdaaGreat
