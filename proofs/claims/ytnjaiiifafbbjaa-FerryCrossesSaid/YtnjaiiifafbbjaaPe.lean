/- Pasts: names, whether they are right; names that are raised. -/
import Derived.Test.YtnjaiiifafbbjaaPd
import Derived.Deep.QuietTactic
import Derived.BigQuiet
namespace Go.Proofs.Ytnjaiiifafbbjaa
open Go.RowKit

def nm0 : Nm := ⟨0, 0⟩
def atN (l : List Nm) (j : Nat) : Nm := l[j]?.getD nm0
theorem atN_get (xs : List Nm) (j : Nat) (h : j < xs.length) : atN xs j = xs[j] := by simp [atN, h]
/-- These names, from an address on. -/
def NamesAt (W : World) (A : Option Addr) (l : List Nm) : Prop := ∀ j, j < l.length → ∃ b off, A = some ⟨b, off, none⟩ ∧ W.cell? ⟨b, off + j * 2, none⟩ = some (.int .i64 (atN l j).c) ∧ W.cell? ⟨b, off + j * 2 + 1, none⟩ = some (.int .i64 (atN l j).n)
theorem NamesAt.ok {W W' : World} {A : Option Addr} {l : List Nm} (h : NamesAt W A l) (k : Ok W W') : NamesAt W' A l := fun j hj => by
  obtain ⟨b, off, e, c0, c1⟩ := h j hj
  exact ⟨b, off, e, Ok.cell k c0, Ok.cell k c1⟩
theorem NamesAt.mv {g : Nat} {W W' : World} {A : Option Addr} {l : List Nm} (h : NamesAt W A l) (k : Mv g W W') (hg : ∀ b off, A = some ⟨b, off, none⟩ → b ≠ g) : NamesAt W' A l := fun j hj => by
  obtain ⟨b, off, e, c0, c1⟩ := h j hj
  exact ⟨b, off, e, k.cell c0 (hg b off e), k.cell c1 (hg b off e)⟩
def idxN (q : Nm → Bool) (xs : List Nm) : Int := match xs.findIdx? q with
  | some i => (i : Int)
  | none => -1
theorem idxN_some (q : Nm → Bool) (xs : List Nm) (k : Nat) (hk : k < xs.length) (h : q (atN xs k) = true) (hb : ∀ j, j < k → q (atN xs j) = false) : idxN q xs = (k : Int) := by
  have e : xs.findIdx? q = some k := by
    rw [List.findIdx?_eq_some_iff_getElem]
    refine ⟨hk, by rw [← atN_get xs k hk]; exact h, fun j hj => ?_⟩
    rw [← atN_get xs j (by omega), hb j hj]; simp
  rw [idxN, e]
theorem idxN_none (q : Nm → Bool) (xs : List Nm) (hb : ∀ j, j < xs.length → q (atN xs j) = false) : idxN q xs = -1 := by
  have e : xs.findIdx? q = none := by
    rw [List.findIdx?_eq_none_iff]
    intro x hx
    obtain ⟨j, hj, rfl⟩ := List.mem_iff_getElem.1 hx
    rw [← atN_get xs j hj, hb j hj]
  rw [idxN, e]
theorem idxN_any (q : Nm → Bool) (xs : List Nm) : decide (0 ≤ idxN q xs) = xs.any q := by
  unfold idxN
  cases h : xs.findIdx? q with
  | none =>
    rw [List.findIdx?_eq_none_iff] at h
    have : xs.any q = false := by rw [List.any_eq_false]; intro x hx; rw [h x hx]; simp
    rw [this]; rfl
  | some i =>
    rw [List.findIdx?_eq_some_iff_getElem] at h
    obtain ⟨hi, hq, _⟩ := h
    have : xs.any q = true := List.any_eq_true.2 ⟨xs[i], List.getElem_mem hi, hq⟩
    rw [this]
    simp
theorem call103 (args : Array Value) (w : World) : (callFunc 103 args).run Try.prog w = .ok (.enter 103 args) w := by
  have hn : ¬ Try.f103.name = "runtime.NumGoroutine" := by decide
  have hb : ¬ Try.f103.body = none := fun h => by
    have h2 : Try.f103.body.isNone = false := by kernel_rfl
    rw [h] at h2; cases h2
  simp [callFunc, go_sem, hn, hb]

set_option maxHeartbeats 400000 in
theorem notRight_n (x : Nm) (w : World) : Calls Try.prog 103 #[nmV x] w (Ret w (.bool (!nmB x))) := by
  have hr := right_n x
  unfold nmV at hr ⊢
  obtain ⟨c, n⟩ := x
  simp only at hr ⊢
  go_enter Try.func103, Try.ntmps103
  go_wp2_with fail
  refine (hr _).mono ?_
  rintro _ w1 ⟨rfl, o1⟩
  go_wp2
  go_ret
  exact ⟨rfl, Ok.trans (Ok.alloc (Ok.refl w) _) o1⟩

set_option maxRecDepth 100000 in
set_option maxHeartbeats 4000000 in
theorem idxN_w (q : Nm → Bool) (A : Option Addr) (n c : Nat) (xs : List Nm) (hn : xs.length = n) (hn6 : n ≤ 1000000) (w : World) (hI : NamesAt w A xs) (hf : ∀ x w', Calls Try.prog 103 #[nmV x] w' (Ret w' (.bool (q x)))) :
    Calls Try.prog 128 #[.slice A n c, .func (.func 103) #[] #[]] w (Ret w (.int .i64 (idxN q xs))) := by
  have HI := Lib.hid hI
  have HN := Lib.hid hn
  have hc := call103
  have HF := Lib.hid hf
  have HS := Lib.hid (idxN_some q xs)
  have HZ := Lib.hid (idxN_none q xs)
  obtain ⟨R, hR⟩ : ∃ R, idxN q xs = R := ⟨_, rfl⟩
  rw [hR] at HS HZ ⊢
  clear hf
  clear hI hn hR
  go_enter Try.func128, Try.ntmps128
  go_wp2_with fail
  go_loopw [5, 8] (fun _ i wr => ∃ k : Nat, k ≤ n ∧ i = .int .i64 k ∧ (∀ j, j < k → q (atN xs j) = false) ∧ Ok w wr) (fun _ i _ => n - (intOf i).toNat)
  case atStart => exact ⟨0, Nat.zero_le _, rfl, fun j hj => absurd hj (Nat.not_lt_zero _), Ok.refl _⟩
  case round =>
    obtain ⟨k, hk, rfl, hb, okr⟩ := hrel
    have HB := Lib.hid hb
    have HOKR := Lib.hid okr
    clear hb okr
    by_cases hlt : k < n
    · have d1 : decide ((k : Int) < (n : Int)) = true := decide_eq_true (by omega)
      obtain ⟨b, off, rfl, C0, C1⟩ := HI.out.ok HOKR.out k (by rw [HN.out]; exact hlt)
      have hf := HF.out (atN xs k) wr
      have HS := Lib.hid (HS.out k (by rw [HN.out]; exact hlt))
      have HNX : Hid (q (atN xs k) = false → ∀ j, j < k + 1 → q (atN xs j) = false) := Lib.hid fun h j hj => by
        by_cases hjk : j < k
        · exact HB.out j hjk
        · obtain rfl : j = k := by omega
          exact h
      unfold nmV at hf
      generalize atN xs k = x at *
      obtain ⟨xc, xn⟩ := x
      simp only at C0 C1 hf
      have hi0 : (0 : Int) ≤ (k : Int) := Int.natCast_nonneg _
      have hi1 : (k : Int) < (n : Int) := by omega
      go_wp2_with fail
      refine hf.mono ?_
      rintro _ w1 ⟨rfl, o1⟩
      cases h1 : q ⟨xc, xn⟩ with
      | true =>
        have hr := HS.out h1 HB.out
        go_wp2
        go_ret
        exact ⟨by rw [hr]; rfl, Ok.trans HOKR.out o1⟩
      | false =>
        have HNX := Lib.hid (HNX.out h1)
        go_wp2
        refine ⟨⟨k + 1, hlt, rfl, HNX.out, Ok.trans HOKR.out o1⟩, ?_⟩
        show n - ((k : Int) + 1).toNat < n - (k : Int).toNat
        omega
    · have d1 : decide ((k : Int) < (n : Int)) = false := decide_eq_false (by omega)
      have hr := HZ.out fun j hj => HB.out j (by rw [HN.out] at hj; omega)
      go_wp2
      go_ret
      exact ⟨by rw [hr]; rfl, HOKR.out⟩

def allB (xs : List Nm) : Bool := xs.all nmB
set_option maxHeartbeats 400000 in
theorem Right_w (A : Option Addr) (n c : Nat) (xs : List Nm) (hn : xs.length = n) (hn6 : n ≤ 1000000) (w : World) (hI : NamesAt w A xs) :
    Calls Try.prog 46 #[.slice A n c] w (Ret w (.bool (allB xs))) := by
  have hi : Calls Try.prog 102 #[.slice A n c, .func (.func 103) #[] #[]] w (Ret w (.bool (!allB xs))) := by
    have h := idxN_w (fun x => !nmB x) A n c xs hn hn6 w hI notRight_n
    have e : decide (0 ≤ idxN (fun x => !nmB x) xs) = !allB xs := by
      rw [idxN_any, allB, List.not_all_eq_any_not]
    rw [← e]
    clear e
    generalize idxN (fun x => !nmB x) xs = z at *
    go_enter Try.func102, Try.ntmps102
    go_wp2_with fail
    refine h.mono ?_
    rintro _ w1 ⟨rfl, o1⟩
    go_wp2
    go_ret
    exact ⟨rfl, o1⟩
  generalize allB xs = z at *
  clear hI hn
  go_enter Try.func46, Try.ntmps46
  go_wp2_with fail
  refine hi.mono ?_
  rintro _ w1 ⟨rfl, o1⟩
  go_wp2
  go_ret
  exact ⟨by simp, o1⟩

def mxI (v n : Int) : Int := if v < n then n else v
/-- A name raised. -/
def rz (f : Nat → Int) (x : Nm) (i : Nat) : Int := if (i : Int) + 1 = x.c then mxI (f i) x.n else f i
def rzs (f : Nat → Int) (l : List Nm) : Nat → Int := l.foldl rz f
theorem PastAt.raise {w : World} {p : Nat} {f : Nat → Int} {x : Nm} {k : Nat} (h : PastAt w p f) (hk : k < 8) (hc : x.c = (k : Int) + 1) : PastAt (w.setCell ⟨p, k, none⟩ (.int .i64 (mxI (f k) x.n))) p (rz f x) where
  num i hi := by
    by_cases hik : i = k
    · subst hik
      rw [World.cell?_setCell_same _ _ _ (h.num i hi)]
      simp [rz, hc]
    · rw [World.cell?_setCell_other _ _ _ _ (by first | (simp; done) | (simp; omega)), h.num i hi]
      have : ¬ (i : Int) + 1 = x.c := by omega
      simp [rz, this]
  made := by rw [World.cell?_setCell_other _ _ _ _ (by first | (simp; done) | (simp; omega))]; exact h.made
  free i hi := by rw [World.frozen?_setCell]; exact h.free i hi
set_option maxRecDepth 100000 in
set_option maxHeartbeats 2000000 in
theorem raise_p (p : Nat) (f : Nat → Int) (x : Nm) (hx : nmB x = true) (w : World) (h : PastAt w p f) :
    Calls Try.prog 107 #[.pointer (some ⟨p, 0, none⟩), .int .i64 x.c, .int .i64 x.n] w fun e w' => e = .returned (.tuple #[]) ∧ PastAt w' p (rz f x) ∧ Only p w w' := by
  obtain ⟨c, n⟩ := x
  simp only [nmB, clientB, Bool.and_eq_true, decide_eq_true_eq] at hx
  obtain ⟨k, rfl, hk⟩ : ∃ k : Nat, c = (k : Int) + 1 ∧ k < 8 := ⟨(c - 1).toNat, by omega, by omega⟩
  have HF : Hid (PastAt (w.setCell ⟨p, k, none⟩ (.int .i64 (mxI (f k) n))).drew p (rz f ⟨(k : Int) + 1, n⟩) ∧ Only p w (w.setCell ⟨p, k, none⟩ (.int .i64 (mxI (f k) n))).drew) :=
    Lib.hid ⟨(h.raise (x := ⟨(k : Int) + 1, n⟩) hk rfl).drew, ((Only.refl p w).set k _)⟩
  have c0 := h.num k hk
  have f0 := h.free k hk
  clear h hx
  generalize rz f ⟨(k : Int) + 1, n⟩ = f2 at *
  generalize f k = v at *
  unfold mxI at HF
  have h0 : (0 : Int) ≤ (k : Int) := Int.natCast_nonneg _
  have h1 : (k : Int) < 8 := by omega
  have s1 : IntKind.i64.wrap ((k : Int) + 1 - 1) = (k : Int) := by simp only [IntKind.wrap_i64]; omega
  by_cases hvn : v < n
  · rw [if_pos hvn] at HF
    go_enter Try.func107, Try.ntmps107
    go_wp2_with fail
    go_region
    go_wp2
    go_end0
    exact ⟨rfl, HF.out.1, HF.out.2⟩
  · rw [if_neg hvn] at HF
    go_enter Try.func107, Try.ntmps107
    go_wp2_with fail
    go_region
    go_wp2
    go_end0
    exact ⟨rfl, HF.out.1, HF.out.2⟩
end Go.Proofs.Ytnjaiiifafbbjaa
