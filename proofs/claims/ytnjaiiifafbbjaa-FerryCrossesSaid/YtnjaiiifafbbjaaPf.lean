/- Pasts: names raised, one behind the other; whether a name is past. -/
import Derived.Test.YtnjaiiifafbbjaaPe
import Derived.Lib.QuietBelow
import Derived.Handy
namespace Go.Proofs.Ytnjaiiifafbbjaa
open Go.RowKit

structure HeldU (p : Prop) : Prop where
  out : p
theorem hqU_step {P : Program} {ops : Array Oper} {C : World → Prop} {Q : Act → Prop} {a : Act} {o : Oper} {rest : List Oper}
    (h : ∀ K : Act → Prop, (∀ a, HeldU (wpQuiet P ops C Q rest a) → K a) → if Region.wanted o (yielded ops a.tmps) then o.quiet P a C K else K (a.put o.dst undef)) : HeldU (wpQuiet P ops C Q (o :: rest) a) :=
  ⟨h (fun a => wpQuiet P ops C Q rest a) (fun _ h => h.out)⟩
theorem take_atN (xs : List Nm) (k : Nat) (h : k < xs.length) : xs.take (k + 1) = xs.take k ++ [atN xs k] := by
  rw [atN_get xs k h, List.take_succ_eq_append_getElem h]
/-- What Raise leaves. -/
def RaiseP (p : Nat) (f : Nat → Int) (xs : List Nm) (w : World) (e : Ending) (w' : World) : Prop :=
  Mv p w w' ∧ (allB xs = false ∧ e = .returned (.int .i64 2) ∧ PastAt w' p f ∨ allB xs = true ∧ e = .returned (.int .i64 0) ∧ PastAt w' p (rzs f xs))

set_option maxRecDepth 100000 in
set_option maxHeartbeats 4000000 in
theorem Raise_w (p : Nat) (f : Nat → Int) (A : Option Addr) (n c : Nat) (xs : List Nm) (hn : xs.length = n) (hn6 : n ≤ 1000000) (w : World) (h : PastAt w p f) (hI : NamesAt w A xs) (hA : ∀ b off, A = some ⟨b, off, none⟩ → b ≠ p) :
    Calls Try.prog 48 #[.pointer (some ⟨p, 0, none⟩), .slice A n c] w (RaiseP p f xs w) := by
  have HP := Lib.hid h
  have HI := Lib.hid hI
  have HN := Lib.hid hn
  have HA := Lib.hid hA
  have HR := Lib.hid (Right_w A n c xs hn hn6 w hI)
  have hps : p < w.heap.size := World.block_lt_of_cell? _ _ h.made
  clear h hI hn hA
  cases hall : allB xs with
  | false =>
    rw [hall] at HR
    have HFIN : Hid (∀ (e : Ending) w', Ok w w' → e = .returned (.int .i64 2) → RaiseP p f xs w e w') := Lib.hid fun e w' o he => ⟨o.mv p, .inl ⟨hall, he, HP.out.ok o⟩⟩
    clear hall
    go_enter Try.func48, Try.ntmps48
    go_wp2_with fail
    refine (none_p p f _ HP.out).mono ?_
    rintro _ w1 ⟨rfl, rfl⟩
    go_wp2_with fail
    refine HR.out.mono ?_
    rintro _ w1 ⟨rfl, o1⟩
    go_wp2
    go_ret
    exact HFIN.out _ _ o1 rfl
  | true =>
    rw [hall] at HR
    have HOKN : Hid (∀ j, j < n → nmB (atN xs j) = true) := Lib.hid fun j hj => by
      rw [atN_get xs j (by rw [HN.out]; exact hj)]
      exact List.all_eq_true.1 hall _ (List.getElem_mem _)
    have HALL := Lib.hid hall
    clear hall
    go_enter Try.func48, Try.ntmps48
    go_wp2_with fail
    refine (none_p p f _ HP.out).mono ?_
    rintro _ w1 ⟨rfl, rfl⟩
    go_wp2_with fail
    refine HR.out.mono ?_
    rintro _ w1 ⟨rfl, o1⟩
    have HP1 : Hid (PastAt w1 p (rzs f (xs.take 0))) := Lib.hid (HP.out.ok o1)
    have HM1 := Lib.hid (o1.mv p)
    clear o1
    go_wp2_with fail
    go_loopw [6, 14] (fun _ s wr => ∃ k : Nat, k ≤ n ∧ s = .int .i64 (k : Int) ∧ PastAt wr p (rzs f (xs.take k)) ∧ Mv p w wr) (fun _ s _ => n - (intOf s).toNat)
    case atStart => exact ⟨0, Nat.zero_le _, rfl, HP1.out, HM1.out⟩
    case round =>
      obtain ⟨k, hk, rfl, hpa, hm⟩ := hrel
      have HPA := Lib.hid hpa
      have HM := Lib.hid hm
      clear hpa hm HP1 HM1
      by_cases hlt : k < n
      · have d1 : decide ((k : Int) < (n : Int)) = true := decide_eq_true (by omega)
        obtain ⟨b, off, rfl, C0, C1⟩ := HI.out.mv HM.out HA.out k (by rw [HN.out]; exact hlt)
        have hok := HOKN.out k hlt
        have HTK : Hid (rzs f (xs.take (k + 1)) = rz (rzs f (xs.take k)) (atN xs k)) := Lib.hid (by
          rw [take_atN xs k (by rw [HN.out]; exact hlt)]; simp [rzs])
        generalize rzs f (xs.take k) = fk at HPA HTK
        generalize atN xs k = x at C0 C1 hok HTK
        have HRZ := Lib.hid (fun w' h => raise_p p fk x hok w' h)
        obtain ⟨xc, xn⟩ := x
        simp only at C0 C1 HRZ
        clear hok
        have hi0 : (0 : Int) ≤ (k : Int) := Int.natCast_nonneg _
        have hi1 : (k : Int) < (n : Int) := by omega
        go_upto_region 8 with fail
        generalize hWa : wr.alloc (.cells #[.int .i64 xc, .int .i64 xn] 115) = wa
        obtain ⟨pe, hpe⟩ : ∃ q, wr.heap.size = q := ⟨_, rfl⟩
        have oa : Ok wr wa := by subst hWa; exact Ok.alloc (Ok.refl _) _
        have E0 : wa.cell? ⟨pe, 0, none⟩ = some (.int .i64 xc) := by subst hWa; subst hpe; go_cell
        have E1 : wa.cell? ⟨pe, 1, none⟩ = some (.int .i64 xn) := by subst hWa; subst hpe; go_cell
        have hpw : p < wr.heap.size := World.block_lt_of_cell? _ _ HPA.out.made
        have hne : pe ≠ p := by omega
        rw [hpe]
        clear hWa hpe
        have HPA2 := Lib.hid (HPA.out.ok oa).drew
        have HMA := Lib.hid (HM.out.trans ((Ok.drew oa).mv p))
        have HE0 := Lib.hid E0
        have HE1 := Lib.hid E1
        have HDR : Hid (Mv p wa wa.drew) := Lib.hid ((Ok.drew (Ok.refl wa)).mv p)
        clear oa C0 C1
        go_region_held3 (fun w' => w'.cell? ⟨pe, 0, none⟩ = some (.int .i64 xc) ∧ w'.cell? ⟨pe, 1, none⟩ = some (.int .i64 xn))
          (first
            | go_keep
            | (exact ⟨(HDR.out.trans ho2.mv).cell HE0.out hne, (HDR.out.trans ho2.mv).cell HE1.out hne⟩))
          ((go_at_call 107; (with_reducible refine (HRZ.out _ HPA2.out).mono ?_); rintro e w2 ⟨rfl, hp2, ho2⟩))
        have HP2 := Lib.hid hp2
        have HM2 := Lib.hid (HMA.out.trans ho2.mv)
        clear hp2 ho2
        go_wp2
        refine ⟨⟨k + 1, hlt, by go_num, by rw [HTK.out]; exact HP2.out, HM2.out⟩, ?_⟩
        show n - ((k : Int) + 1).toNat < n - (k : Int).toNat
        omega
      · have d1 : decide ((k : Int) < (n : Int)) = false := decide_eq_false (by omega)
        have HFIN : Hid (∀ (e : Ending), e = .returned (.int .i64 0) → RaiseP p f xs w e wr) := Lib.hid fun e he => ⟨HM.out, .inr ⟨HALL.out, he, by
          have := HPA.out
          rwa [List.take_of_length_le (by rw [HN.out]; omega)] at this⟩⟩
        go_wp2
        go_ret
        exact HFIN.out _ rfl

def isB (f : Nat → Int) (x : Nm) : Bool := nmB x && decide (x.n ≤ f (x.c - 1).toNat)
set_option maxRecDepth 100000 in
set_option maxHeartbeats 2000000 in
theorem Is_w (p : Nat) (f : Nat → Int) (x : Nm) (w : World) (h : PastAt w p f) :
    Calls Try.prog 59 #[.pointer (some ⟨p, 0, none⟩), nmV x] w (Ret w (.bool (isB f x))) := by
  have HP := Lib.hid h
  have hps : p < w.heap.size := World.block_lt_of_cell? _ _ h.made
  clear h
  have hr := right_n x
  have hd : isB f x = (nmB x && decide (x.n ≤ f (x.c - 1).toNat)) := rfl
  have hof : nmB x = true → ∀ w', PastAt w' p f → Calls Try.prog 113 #[.pointer (some ⟨p, 0, none⟩), .int .i64 x.c] w' fun e w'' => e = .returned (.int .i64 (f (x.c - 1).toNat)) ∧ w' = w'' := by
    intro hb w' hp
    simp only [nmB, clientB, Bool.and_eq_true, decide_eq_true_eq] at hb
    exact of_p p f (x.c - 1).toNat (by omega) x.c (by omega) w' hp
  have HOF := Lib.hid hof
  have HD := Lib.hid hd
  clear hof hd
  generalize isB f x = R at HD ⊢
  generalize f (x.c - 1).toNat = v at HD HOF
  obtain ⟨c, n⟩ := x
  unfold nmV at hr ⊢
  simp only at hr HD HOF ⊢
  go_enter Try.func59, Try.ntmps59
  go_upto_region 1 with fail
  generalize hWa : w.alloc (.cells #[.int .i64 c, .int .i64 n] 115) = wa
  obtain ⟨pe, hpe⟩ : ∃ q, w.heap.size = q := ⟨_, rfl⟩
  have oa : Ok w wa := by subst hWa; exact Ok.alloc (Ok.refl _) _
  have E0 : wa.cell? ⟨pe, 0, none⟩ = some (.int .i64 c) := by subst hWa; subst hpe; go_cell
  have E1 : wa.cell? ⟨pe, 1, none⟩ = some (.int .i64 n) := by subst hWa; subst hpe; go_cell
  rw [hpe]
  clear hWa hpe
  have HPA := Lib.hid (HP.out.ok oa)
  have kE0 := cell_regrown E0
  have kE1 := cell_regrown E1
  have q1 : ∀ d os, Calls Try.prog 106 #[.pointer (some ⟨p, 0, none⟩)] (Go.Sort.grow (redrawn wa d) os) fun e w'' => e = .returned (.bool false) ∧ ∃ q : Regrown, w'' = Go.Sort.grow (redrawn wa q.d) q.os := fun d os => (none_p p f _ (HPA.out.ok (below_regrown wa d os))).mono fun e w'' ⟨he, hw⟩ => ⟨he, ⟨d, os⟩, hw.symm⟩
  cases hb : nmB ⟨c, n⟩ with
  | false =>
    rw [hb] at hr HD
    have HR : Hid (R = false) := Lib.hid (by rw [HD.out]; rfl)
    have q2 : ∀ d os, Calls Try.prog 104 #[.agg #[.int .i64 c, .int .i64 n]] (Go.Sort.grow (redrawn wa d) os) fun e w'' => e = .returned (.bool false) ∧ ∃ q : Regrown, w'' = Go.Sort.grow (redrawn wa q.d) q.os := fun d os => Calls.regrown_of (hr _)
    clear HD HOF hr hb
    refine wp_region_quiet_below (by kernel_rfl) (by kernel_rfl) ?_
    refine HeldU.out ?_
    repeat (
      refine hqU_step (fun K hK => ?_)
      go_simp
      first
        | (refine hK _ ?_; clear hK K)
        | (apply Exists.intro
           refine ⟨fun _ => ?_, hK _ ?_⟩
           (with_reducible first
             | exact q1 _ _
             | exact q2 _ _)
           clear hK K))
    refine HeldU.mk (wpQuiet_nil ?_)
    intro _ hw'
    obtain ⟨⟨dq, osq⟩, hw''⟩ := hw'
    subst hw''
    go_wp2
    go_ret
    exact ⟨by rw [HR.out]; rfl, Ok.trans oa (below_regrown wa dq osq)⟩
  | true =>
    rw [hb] at hr HD
    have HR : Hid (R = decide (n ≤ v)) := Lib.hid (by rw [HD.out]; rfl)
    have q2 : ∀ d os, Calls Try.prog 104 #[.agg #[.int .i64 c, .int .i64 n]] (Go.Sort.grow (redrawn wa d) os) fun e w'' => e = .returned (.bool true) ∧ ∃ q : Regrown, w'' = Go.Sort.grow (redrawn wa q.d) q.os := fun d os => Calls.regrown_of (hr _)
    have hof := HOF.out hb
    have q3 : ∀ d os, Calls Try.prog 113 #[.pointer (some ⟨p, 0, none⟩), .int .i64 c] (Go.Sort.grow (redrawn wa d) os) fun e w'' => e = .returned (.int .i64 v) ∧ ∃ q : Regrown, w'' = Go.Sort.grow (redrawn wa q.d) q.os := fun d os => (hof _ (HPA.out.ok (below_regrown wa d os))).mono fun e w'' ⟨he, hw⟩ => ⟨he, ⟨d, os⟩, hw.symm⟩
    clear HD HOF hr hb hof
    refine wp_region_quiet_below (by kernel_rfl) (by kernel_rfl) ?_
    refine HeldU.out ?_
    repeat (
      refine hqU_step (fun K hK => ?_)
      go_simp
      first
        | (refine hK _ ?_; clear hK K)
        | (apply Exists.intro
           refine ⟨fun _ => ?_, hK _ ?_⟩
           (with_reducible first
             | exact q1 _ _
             | exact q2 _ _
             | exact q3 _ _)
           clear hK K))
    refine HeldU.mk (wpQuiet_nil ?_)
    intro _ hw'
    obtain ⟨⟨dq, osq⟩, hw''⟩ := hw'
    subst hw''
    go_wp2
    go_ret
    exact ⟨by rw [HR.out]; rfl, Ok.trans oa (below_regrown wa dq osq)⟩
end Go.Proofs.Ytnjaiiifafbbjaa
