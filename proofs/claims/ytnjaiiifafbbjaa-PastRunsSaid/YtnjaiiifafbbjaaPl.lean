/- Pasts: merged. -/
import Derived.Test.YtnjaiiifafbbjaaPk
namespace Go.Proofs.Ytnjaiiifafbbjaa
open Go.RowKit

set_option maxRecDepth 100000 in
set_option maxHeartbeats 2000000 in
theorem raise_c (p : Nat) (f : Nat → Int) (k : Nat) (hk : k < 8) (c n : Int) (hc : c = (k : Int) + 1) (w : World) (h : PastAt w p f) :
    Calls Try.prog 107 #[.pointer (some ⟨p, 0, none⟩), .int .i64 c, .int .i64 n] w fun e w' => e = .returned (.tuple #[]) ∧ PastAt w' p (rz f ⟨c, n⟩) ∧ Only p w w' := by
  subst hc
  have HF : Hid (PastAt (w.setCell ⟨p, k, none⟩ (.int .i64 (mxI (f k) n))).drew p (rz f ⟨(k : Int) + 1, n⟩) ∧ Only p w (w.setCell ⟨p, k, none⟩ (.int .i64 (mxI (f k) n))).drew) :=
    Lib.hid ⟨(h.raise (x := ⟨(k : Int) + 1, n⟩) hk rfl).drew, ((Only.refl p w).set k _)⟩
  have c0 := h.num k hk
  have f0 := h.free k hk
  clear h
  generalize rz f ⟨(k : Int) + 1, n⟩ = f2 at *
  generalize f k = v at *
  unfold mxI at HF
  have h0 : (0 : Int) ≤ (k : Int) := Int.natCast_nonneg _
  have h1 : (k : Int) < 8 := by omega
  have s1 : IntKind.i64.wrap ((k : Int) + 1 - 1) = (k : Int) := by simp only [IntKind.wrap_i64]; omega
  by_cases hvn : v < n
  · rw [if_pos hvn] at HF
    go_enter Try.func107, Try.ntmps107
    go_wp2_with fail
    go_region
    go_wp2
    go_end0
    exact ⟨rfl, HF.out.1, HF.out.2⟩
  · rw [if_neg hvn] at HF
    go_enter Try.func107, Try.ntmps107
    go_wp2_with fail
    go_region
    go_wp2
    go_end0
    exact ⟨rfl, HF.out.1, HF.out.2⟩

abbrev Pst := Nat × (Nat → Int)
def pst0 : Pst := (0, fz)
def atP (l : List Pst) (j : Nat) : Pst := l[j]?.getD pst0
/-- These pasts, from an address on. -/
def PastsAt (W : World) (A : Option Addr) (l : List Pst) : Prop := ∀ j, j < l.length → (∃ b off, A = some ⟨b, off, none⟩ ∧ W.cell? ⟨b, off + j, none⟩ = some (.pointer (some ⟨(atP l j).1, 0, none⟩))) ∧ PastAt W (atP l j).1 (atP l j).2
theorem PastsAt.ok {W W' : World} {A : Option Addr} {l : List Pst} (h : PastsAt W A l) (k : Ok W W') : PastsAt W' A l := fun j hj => by
  obtain ⟨⟨b, off, e, c0⟩, hp⟩ := h j hj
  exact ⟨⟨b, off, e, Ok.cell k c0⟩, hp.ok k⟩
theorem PastsAt.mv {g : Nat} {W W' : World} {A : Option Addr} {l : List Pst} (h : PastsAt W A l) (k : Mv g W W') (hg : ∀ b off, A = some ⟨b, off, none⟩ → b ≠ g) (hl : ∀ j, j < l.length → (atP l j).1 ≠ g) : PastsAt W' A l := fun j hj => by
  obtain ⟨⟨b, off, e, c0⟩, hp⟩ := h j hj
  exact ⟨⟨b, off, e, k.cell c0 (hg b off e)⟩, k.past (hl j hj) hp⟩

theorem call106 (args : Array Value) (w : World) : (callFunc 106 args).run Try.prog w = .ok (.enter 106 args) w := by
  have hn : ¬ Try.f106.name = "runtime.NumGoroutine" := by decide
  have hb : ¬ Try.f106.body = none := fun h => by
    have h2 : Try.f106.body.isNone = false := by kernel_rfl
    rw [h] at h2; cases h2
  simp [callFunc, go_sem, hn, hb]

set_option maxRecDepth 100000 in
set_option maxHeartbeats 4000000 in
theorem anyNone_w (A : Option Addr) (n c : Nat) (xs : List Pst) (hn : xs.length = n) (hn6 : n ≤ 1000000) (w : World) (hI : PastsAt w A xs) :
    Calls Try.prog 129 #[.slice A n c, .func (.func 106) #[] #[]] w fun e w' => e = .returned (.int .i64 (-1)) ∧ w = w' := by
  have HI := Lib.hid hI
  have HN := Lib.hid hn
  have hc := call106
  clear hI hn
  go_enter Try.func129, Try.ntmps129
  go_wp2_with fail
  go_loopw [5, 8] (fun _ i wr => ∃ k : Nat, k ≤ n ∧ i = .int .i64 k ∧ w = wr) (fun _ i _ => n - (intOf i).toNat)
  case atStart => exact ⟨0, Nat.zero_le _, rfl, rfl⟩
  case round =>
    obtain ⟨k, hk, rfl, rfl⟩ := hrel
    by_cases hlt : k < n
    · have d1 : decide ((k : Int) < (n : Int)) = true := decide_eq_true (by omega)
      obtain ⟨⟨b, off, rfl, C0⟩, hp⟩ := HI.out k (by rw [HN.out]; exact hlt)
      have hf := none_p _ _ _ hp
      clear hp
      generalize (atP xs k).1 = q at *
      have hi0 : (0 : Int) ≤ (k : Int) := Int.natCast_nonneg _
      have hi1 : (k : Int) < (n : Int) := by omega
      go_wp2_with fail
      refine hf.mono ?_
      rintro _ w1 ⟨rfl, rfl⟩
      go_wp2
      refine ⟨⟨k + 1, hlt, rfl, by trivial⟩, ?_⟩
      show n - ((k : Int) + 1).toNat < n - (k : Int).toNat
      omega
    · have d1 : decide ((k : Int) < (n : Int)) = false := decide_eq_false (by omega)
      go_wp2
      go_ret
      exact ⟨rfl, rfl⟩

set_option maxHeartbeats 400000 in
theorem hasNone_w (A : Option Addr) (n c : Nat) (xs : List Pst) (hn : xs.length = n) (hn6 : n ≤ 1000000) (w : World) (hI : PastsAt w A xs) :
    Calls Try.prog 109 #[.slice A n c, .func (.func 106) #[] #[]] w fun e w' => e = .returned (.bool false) ∧ w = w' := by
  have h := anyNone_w A n c xs hn hn6 w hI
  clear hI hn
  go_enter Try.func109, Try.ntmps109
  go_wp2_with fail
  refine h.mono ?_
  rintro _ w1 ⟨rfl, rfl⟩
  go_wp2
  go_ret
  exact ⟨rfl, rfl⟩

def mg (f g : Nat → Int) (i : Nat) : Int := mxI (f i) (g i)
def mgs (f : Nat → Int) (l : List Pst) : Nat → Int := l.foldl (fun a q => mg a q.2) f
theorem take_atP (xs : List Pst) (k : Nat) (h : k < xs.length) : xs.take (k + 1) = xs.take k ++ [atP xs k] := by
  have e : atP xs k = xs[k] := by simp [atP, h]
  rw [e, List.take_succ_eq_append_getElem h]
/-- The first j merged. -/
def mgU (f g : Nat → Int) (j : Nat) (i : Nat) : Int := if i < j then mxI (f i) (g i) else f i

theorem mgU_step (f g : Nat → Int) (j : Nat) (c : Int) (hc : c = (j : Int) + 1) (i : Nat) (_ : i < 8) : rz (mgU f g j) ⟨c, g j⟩ i = mgU f g (j + 1) i := by
  subst hc
  by_cases h : i = j
  · subst h; simp [rz, mgU]
  · have h1 : ¬ (i : Int) + 1 = (j : Int) + 1 := by omega
    have h2 : (i < j + 1) = (i < j) := by simp; omega
    simp only [rz, mgU, h2, if_neg h1]

theorem idx0 (v0 v1 v2 v3 v4 v5 v6 v7 : Value) (w : World) : (Instr.index 171 (.agg #[v0, v1, v2, v3, v4, v5, v6, v7]) (.int .i64 0)).run Try.prog w = .ok v0 w := by kernel_rfl
theorem idx1 (v0 v1 v2 v3 v4 v5 v6 v7 : Value) (w : World) : (Instr.index 171 (.agg #[v0, v1, v2, v3, v4, v5, v6, v7]) (.int .i64 1)).run Try.prog w = .ok v1 w := by kernel_rfl
theorem idx2 (v0 v1 v2 v3 v4 v5 v6 v7 : Value) (w : World) : (Instr.index 171 (.agg #[v0, v1, v2, v3, v4, v5, v6, v7]) (.int .i64 2)).run Try.prog w = .ok v2 w := by kernel_rfl
theorem idx3 (v0 v1 v2 v3 v4 v5 v6 v7 : Value) (w : World) : (Instr.index 171 (.agg #[v0, v1, v2, v3, v4, v5, v6, v7]) (.int .i64 3)).run Try.prog w = .ok v3 w := by kernel_rfl
theorem idx4 (v0 v1 v2 v3 v4 v5 v6 v7 : Value) (w : World) : (Instr.index 171 (.agg #[v0, v1, v2, v3, v4, v5, v6, v7]) (.int .i64 4)).run Try.prog w = .ok v4 w := by kernel_rfl
theorem idx5 (v0 v1 v2 v3 v4 v5 v6 v7 : Value) (w : World) : (Instr.index 171 (.agg #[v0, v1, v2, v3, v4, v5, v6, v7]) (.int .i64 5)).run Try.prog w = .ok v5 w := by kernel_rfl
theorem idx6 (v0 v1 v2 v3 v4 v5 v6 v7 : Value) (w : World) : (Instr.index 171 (.agg #[v0, v1, v2, v3, v4, v5, v6, v7]) (.int .i64 6)).run Try.prog w = .ok v6 w := by kernel_rfl
theorem idx7 (v0 v1 v2 v3 v4 v5 v6 v7 : Value) (w : World) : (Instr.index 171 (.agg #[v0, v1, v2, v3, v4, v5, v6, v7]) (.int .i64 7)).run Try.prog w = .ok v7 w := by kernel_rfl

set_option maxRecDepth 100000 in
set_option maxHeartbeats 4000000 in
theorem Merge_w (p : Nat) (f : Nat → Int) (A : Option Addr) (n c : Nat) (xs : List Pst) (hn : xs.length = n) (hn6 : n ≤ 1000000) (w : World) (h : PastAt w p f) (hI : PastsAt w A xs) (hA : ∀ b off, A = some ⟨b, off, none⟩ → b ≠ p) (hl : ∀ j, j < xs.length → (atP xs j).1 ≠ p) :
    Calls Try.prog 53 #[.pointer (some ⟨p, 0, none⟩), .slice A n c] w fun e w' => e = .returned (.int .i64 0) ∧ PastAt w' p (mgs f xs) ∧ Mv p w w' := by
  have HP := Lib.hid h
  have HI := Lib.hid hI
  have HN := Lib.hid hn
  have HA := Lib.hid hA
  have HL := Lib.hid hl
  have HH := Lib.hid (hasNone_w A n c xs hn hn6 w hI)
  clear h hI hn hA hl
  go_enter Try.func53, Try.ntmps53
  go_wp2_with fail
  refine (none_p p f _ HP.out).mono ?_
  rintro _ w1 ⟨rfl, rfl⟩
  go_wp2_with fail
  refine HH.out.mono ?_
  rintro _ w1 ⟨rfl, rfl⟩
  go_wp2_with fail
  go_loopw [17] (fun s wr => ∃ k : Nat, k ≤ n ∧ s = .int .i64 (k : Int) ∧ PastAt wr p (mgs f (xs.take k)) ∧ Mv p w wr) (fun s _ => n - (intOf s).toNat)
  case atStart => exact ⟨0, Nat.zero_le _, rfl, HP.out, Mv.refl _ _⟩
  case round =>
    obtain ⟨k, hk, rfl, hpa, hm⟩ := hrel
    have HPA := Lib.hid hpa
    have HM := Lib.hid hm
    clear hpa hm
    by_cases hlt : k < n
    · have d1 : decide ((k : Int) < (n : Int)) = true := decide_eq_true (by omega)
      obtain ⟨⟨b, off, rfl, C0⟩, hq⟩ := HI.out.mv HM.out HA.out HL.out k (by rw [HN.out]; exact hlt)
      have HTK : Hid (mgs f (xs.take (k + 1)) = mg (mgs f (xs.take k)) (atP xs k).2) := Lib.hid (by
        rw [take_atP xs k (by rw [HN.out]; exact hlt)]; simp [mgs])
      generalize mgs f (xs.take k) = fk at HPA HTK
      generalize (atP xs k).1 = q at *
      generalize (atP xs k).2 = g at *
      have c0 := hq.num 0 (by omega)
      have c1 := hq.num 1 (by omega)
      have c2 := hq.num 2 (by omega)
      have c3 := hq.num 3 (by omega)
      have c4 := hq.num 4 (by omega)
      have c5 := hq.num 5 (by omega)
      have c6 := hq.num 6 (by omega)
      have c7 := hq.num 7 (by omega)
      clear hq
      have hi0 : (0 : Int) ≤ (k : Int) := Int.natCast_nonneg _
      have hi1 : (k : Int) < (n : Int) := by omega
      go_wp2_with fail
      clear c0 c1 c2 c3 c4 c5 c6 c7 C0
      go_loopw [25] (fun s wi => ∃ j : Nat, j ≤ 8 ∧ s = .int .i64 (j : Int) ∧ PastAt wi p (mgU fk g j) ∧ Mv p w wi) (fun s _ => 8 - (intOf s).toNat)
      case atStart => exact ⟨0, Nat.zero_le _, rfl, HPA.out.congr (fun i _ => rfl), HM.out⟩
      case round =>
        obtain ⟨j, hj, rfl, hpi, hmi⟩ := hrel
        have HPI := Lib.hid hpi
        have HMI := Lib.hid hmi
        clear hpi hmi
        by_cases hj8 : j < 8
        · have HR : Hid (∀ c : Int, c = (j : Int) + 1 → ∀ w', PastAt w' p (mgU fk g j) → Mv p w w' → Calls Try.prog 107 #[.pointer (some ⟨p, 0, none⟩), .int .i64 c, .int .i64 (g j)] w' fun e w'' => e = .returned (.tuple #[]) ∧ PastAt w'' p (mgU fk g (j + 1)) ∧ Mv p w w'') := Lib.hid fun c hc w' h hm =>
            (raise_c p (mgU fk g j) j hj8 c (g j) hc w' h).mono fun e w'' ⟨he, hp, ho⟩ => ⟨he, hp.congr (mgU_step fk g j c hc), hm.trans ho.mv⟩
          rcases (by omega : j = 0 ∨ j = 1 ∨ j = 2 ∨ j = 3 ∨ j = 4 ∨ j = 5 ∨ j = 6 ∨ j = 7) with rfl | rfl | rfl | rfl | rfl | rfl | rfl | rfl
          · have hix := idx0
            go_wp2_with fail
            refine (HR.out _ (by rfl) _ HPI.out HMI.out).mono ?_
            rintro _ w2 ⟨rfl, hp2, hm2⟩
            go_wp2
            exact ⟨⟨1, by omega, rfl, hp2, hm2⟩, by simp [intOf]⟩
          · have hix := idx1
            go_wp2_with fail
            refine (HR.out _ (by rfl) _ HPI.out HMI.out).mono ?_
            rintro _ w2 ⟨rfl, hp2, hm2⟩
            go_wp2
            exact ⟨⟨2, by omega, rfl, hp2, hm2⟩, by simp [intOf]⟩
          · have hix := idx2
            go_wp2_with fail
            refine (HR.out _ (by rfl) _ HPI.out HMI.out).mono ?_
            rintro _ w2 ⟨rfl, hp2, hm2⟩
            go_wp2
            exact ⟨⟨3, by omega, rfl, hp2, hm2⟩, by simp [intOf]⟩
          · have hix := idx3
            go_wp2_with fail
            refine (HR.out _ (by rfl) _ HPI.out HMI.out).mono ?_
            rintro _ w2 ⟨rfl, hp2, hm2⟩
            go_wp2
            exact ⟨⟨4, by omega, rfl, hp2, hm2⟩, by simp [intOf]⟩
          · have hix := idx4
            go_wp2_with fail
            refine (HR.out _ (by rfl) _ HPI.out HMI.out).mono ?_
            rintro _ w2 ⟨rfl, hp2, hm2⟩
            go_wp2
            exact ⟨⟨5, by omega, rfl, hp2, hm2⟩, by simp [intOf]⟩
          · have hix := idx5
            go_wp2_with fail
            refine (HR.out _ (by rfl) _ HPI.out HMI.out).mono ?_
            rintro _ w2 ⟨rfl, hp2, hm2⟩
            go_wp2
            exact ⟨⟨6, by omega, rfl, hp2, hm2⟩, by simp [intOf]⟩
          · have hix := idx6
            go_wp2_with fail
            refine (HR.out _ (by rfl) _ HPI.out HMI.out).mono ?_
            rintro _ w2 ⟨rfl, hp2, hm2⟩
            go_wp2
            exact ⟨⟨7, by omega, rfl, hp2, hm2⟩, by simp [intOf]⟩
          · have hix := idx7
            go_wp2_with fail
            refine (HR.out _ (by rfl) _ HPI.out HMI.out).mono ?_
            rintro _ w2 ⟨rfl, hp2, hm2⟩
            go_wp2
            exact ⟨⟨8, by omega, rfl, hp2, hm2⟩, by simp [intOf]⟩
        · obtain rfl : j = 8 := by omega
          have HP8 := Lib.hid (HPI.out.congr (g := mg fk g) fun i hi => by simp [mgU, mg, hi])
          go_wp2
          refine ⟨⟨k + 1, hlt, by go_num, by rw [HTK.out]; exact HP8.out, HMI.out⟩, ?_⟩
          show n - ((k : Int) + 1).toNat < n - (k : Int).toNat
          omega
    · have d1 : decide ((k : Int) < (n : Int)) = false := decide_eq_false (by omega)
      go_wp2
      go_ret
      exact ⟨rfl, by have := HPA.out; rwa [List.take_of_length_le (by rw [HN.out]; omega)] at this, HM.out⟩
end Go.Proofs.Ytnjaiiifafbbjaa
