/- The document's pasts: whether a name is past; merged. -/
import Derived.Test.YtnjaiiifafbbjaaRa
namespace Go.Proofs.Ytnjaiiifafbbjaa
open Go.RowKit

set_option maxRecDepth 100000 in
set_option maxHeartbeats 2000000 in
theorem rIs_w (p : Nat) (f : Nat → Int) (x : Nm) (w : World) (h : RpAt w p f) :
    Calls Try.prog 60 #[.pointer (some ⟨p, 0, none⟩), nmV x] w (Ret w (.bool (isB f x))) := by
  have HP := Lib.hid h
  have hps := h.lt
  clear h
  have hr := rright_n x
  have hd : isB f x = (nmB x && decide (x.n ≤ f (x.c - 1).toNat)) := rfl
  have HD := Lib.hid hd
  clear hd
  generalize isB f x = R at HD ⊢
  cases hb : nmB x with
  | false =>
    rw [hb] at hr HD
    have HR : Hid (R = false) := Lib.hid (by rw [HD.out]; rfl)
    obtain ⟨c, n⟩ := x
    unfold nmV at hr ⊢
    simp only at hr ⊢
    clear HD hb
    go_enter Try.func60, Try.ntmps60
    go_upto_region 1 with fail
    generalize hWa : w.alloc (.cells #[.int .i64 c, .int .i64 n] 115) = wa
    obtain ⟨pe, hpe⟩ : ∃ q, w.heap.size = q := ⟨_, rfl⟩
    have oa : Ok w wa := by subst hWa; exact Ok.alloc (Ok.refl _) _
    have E0 : wa.cell? ⟨pe, 0, none⟩ = some (.int .i64 c) := by subst hWa; subst hpe; go_cell
    have E1 : wa.cell? ⟨pe, 1, none⟩ = some (.int .i64 n) := by subst hWa; subst hpe; go_cell
    rw [hpe]
    clear hWa hpe
    have kE0 := cell_regrown E0
    have kE1 := cell_regrown E1
    have q2 : ∀ d os, Calls Try.prog 105 #[.agg #[.int .i64 c, .int .i64 n]] (Go.Sort.grow (redrawn wa d) os) fun e w'' => e = .returned (.bool false) ∧ ∃ q : Regrown, w'' = Go.Sort.grow (redrawn wa q.d) q.os := fun d os => Calls.regrown_of (hr _)
    clear hr
    refine wp_region_quiet_below (by kernel_rfl) (by kernel_rfl) ?_
    refine HeldU.out ?_
    repeat (
      refine hqU_step (fun K hK => ?_)
      go_simp
      first
        | (refine hK _ ?_; clear hK K)
        | (apply Exists.intro
           refine ⟨fun _ => ?_, hK _ ?_⟩
           (with_reducible exact q2 _ _)
           clear hK K))
    refine HeldU.mk (wpQuiet_nil ?_)
    intro _ hw'
    obtain ⟨⟨dq, osq⟩, hw''⟩ := hw'
    subst hw''
    go_wp2
    go_ret
    exact ⟨by rw [HR.out]; rfl, Ok.trans oa (below_regrown wa dq osq)⟩
  | true =>
    rw [hb] at hr HD
    have hb2 := hb
    simp only [nmB, clientB, Bool.and_eq_true, decide_eq_true_eq] at hb2
    obtain ⟨c, n⟩ := x
    simp only at hb2 HD
    obtain ⟨k, rfl, hk⟩ : ∃ k : Nat, c = (k : Int) + 1 ∧ k < 8 := ⟨(c - 1).toNat, by omega, by omega⟩
    have hkk : ((k : Int) + 1 - 1).toNat = k := by omega
    rw [hkk] at HD
    unfold nmV at hr ⊢
    simp only at hr ⊢
    have HF0 := Lib.hid (fun (w' : World) (o : Ok w w') => Ok.cell o (HP.out.num k hk))
    generalize f k = v at HD HF0
    have HR : Hid (R = decide (n ≤ v)) := Lib.hid (by rw [HD.out]; rfl)
    clear HD hb hb2 hkk
    have h0 : (0 : Int) ≤ (k : Int) + 1 := by omega
    have h1 : (k : Int) + 1 < 9 := by omega
    go_enter Try.func60, Try.ntmps60
    go_upto_region 1 with fail
    generalize hWa : w.alloc (.cells #[.int .i64 ((k : Int) + 1), .int .i64 n] 115) = wa
    obtain ⟨pe, hpe⟩ : ∃ q, w.heap.size = q := ⟨_, rfl⟩
    have oa : Ok w wa := by subst hWa; exact Ok.alloc (Ok.refl _) _
    have E0 : wa.cell? ⟨pe, 0, none⟩ = some (.int .i64 ((k : Int) + 1)) := by subst hWa; subst hpe; go_cell
    have E1 : wa.cell? ⟨pe, 1, none⟩ = some (.int .i64 n) := by subst hWa; subst hpe; go_cell
    rw [hpe]
    clear hWa hpe
    have P0 := HF0.out wa oa
    have kE0 := cell_regrown E0
    have kE1 := cell_regrown E1
    have kP0 := cell_regrown P0
    have q2 : ∀ d os, Calls Try.prog 105 #[.agg #[.int .i64 ((k : Int) + 1), .int .i64 n]] (Go.Sort.grow (redrawn wa d) os) fun e w'' => e = .returned (.bool true) ∧ ∃ q : Regrown, w'' = Go.Sort.grow (redrawn wa q.d) q.os := fun d os => Calls.regrown_of (hr _)
    clear hr HF0
    refine wp_region_quiet_below (by kernel_rfl) (by kernel_rfl) ?_
    refine HeldU.out ?_
    repeat (
      refine hqU_step (fun K hK => ?_)
      go_simp
      first
        | (refine hK _ ?_; clear hK K)
        | (apply Exists.intro
           refine ⟨fun _ => ?_, hK _ ?_⟩
           (with_reducible exact q2 _ _)
           clear hK K))
    refine HeldU.mk (wpQuiet_nil ?_)
    intro _ hw'
    obtain ⟨⟨dq, osq⟩, hw''⟩ := hw'
    subst hw''
    go_wp2
    go_ret
    exact ⟨by rw [HR.out]; rfl, Ok.trans oa (below_regrown wa dq osq)⟩

/-- These pasts of the document's, from an address on. -/
def RpastsAt (W : World) (A : Option Addr) (l : List Pst) : Prop := ∀ j, j < l.length → (∃ b off, A = some ⟨b, off, none⟩ ∧ W.cell? ⟨b, off + j, none⟩ = some (.pointer (some ⟨(atP l j).1, 0, none⟩))) ∧ RpAt W (atP l j).1 (atP l j).2
theorem RpastsAt.ok {W W' : World} {A : Option Addr} {l : List Pst} (h : RpastsAt W A l) (k : Ok W W') : RpastsAt W' A l := fun j hj => by
  obtain ⟨⟨b, off, e, c0⟩, hp⟩ := h j hj
  exact ⟨⟨b, off, e, Ok.cell k c0⟩, hp.ok k⟩
theorem RpastsAt.mv {g : Nat} {W W' : World} {A : Option Addr} {l : List Pst} (h : RpastsAt W A l) (k : Mv g W W') (hg : ∀ b off, A = some ⟨b, off, none⟩ → b ≠ g) (hl : ∀ j, j < l.length → (atP l j).1 ≠ g) : RpastsAt W' A l := fun j hj => by
  obtain ⟨⟨b, off, e, c0⟩, hp⟩ := h j hj
  exact ⟨⟨b, off, e, k.cell c0 (hg b off e)⟩, hp.mv k (hl j hj)⟩

set_option maxRecDepth 100000 in
set_option maxHeartbeats 4000000 in
theorem rMerge_w (p : Nat) (f : Nat → Int) (A : Option Addr) (n c : Nat) (xs : List Pst) (hn : xs.length = n) (hn6 : n ≤ 1000000) (w : World) (h : RpAt w p f) (hI : RpastsAt w A xs) (hA : ∀ b off, A = some ⟨b, off, none⟩ → b ≠ p) (hl : ∀ j, j < xs.length → (atP xs j).1 ≠ p) :
    Calls Try.prog 52 #[.pointer (some ⟨p, 0, none⟩), .slice A n c] w fun e w' => e = .returned (.tuple #[]) ∧ RpAt w' p (mgs f xs) ∧ Mv p w w' := by
  have HP := Lib.hid h
  have HI := Lib.hid hI
  have HN := Lib.hid hn
  have HA := Lib.hid hA
  have HL := Lib.hid hl
  clear h hI hn hA hl
  go_enter Try.func52, Try.ntmps52
  go_wp2_with fail
  go_loopw [4, 5] (fun s _ wr => ∃ k : Nat, k ≤ n ∧ s = .int .i64 (k : Int) ∧ RpAt wr p (mgs f (xs.take k)) ∧ Mv p w wr) (fun s _ _ => n - (intOf s).toNat)
  case atStart => exact ⟨0, Nat.zero_le _, rfl, HP.out, Mv.refl _ _⟩
  case round =>
    obtain ⟨k, hk, rfl, hpa, hm⟩ := hrel
    have HPA := Lib.hid hpa
    have HM := Lib.hid hm
    clear hpa hm
    by_cases hlt : k < n
    · have d1 : decide ((k : Int) < (n : Int)) = true := decide_eq_true (by omega)
      have HQ := Lib.hid (fun wi (hm : Mv p w wi) => HI.out.mv hm HA.out HL.out k (by rw [HN.out]; exact hlt))
      obtain ⟨⟨b, off, rfl, -⟩, -⟩ := HI.out k (by rw [HN.out]; exact hlt)
      have HTK : Hid (mgs f (xs.take (k + 1)) = mg (mgs f (xs.take k)) (atP xs k).2) := Lib.hid (by
        rw [take_atP xs k (by rw [HN.out]; exact hlt)]; simp [mgs])
      have HNE : Hid ((atP xs k).1 ≠ p) := Lib.hid (HL.out k (by rw [HN.out]; exact hlt))
      generalize mgs f (xs.take k) = fk at HPA HTK
      generalize (atP xs k).1 = q at *
      generalize (atP xs k).2 = g at *
      have hi0 : (0 : Int) ≤ (k : Int) := Int.natCast_nonneg _
      have hi1 : (k : Int) < (n : Int) := by omega
      go_wp2_with fail
      go_loopw [5] (fun s wi => ∃ j : Nat, j ≤ 8 ∧ s = .int .i64 ((j : Int) + 1) ∧ RpAt wi p (mgU fk g j) ∧ Mv p w wi) (fun s _ => 9 - (intOf s).toNat)
      case atStart => exact ⟨0, Nat.zero_le _, rfl, HPA.out.congr (fun i _ => rfl), HM.out⟩
      case round =>
        obtain ⟨j, hj, rfl, hpi, hmi⟩ := hrel
        have HPI := Lib.hid hpi
        have HMI := Lib.hid hmi
        clear hpi hmi d1 HPA HM
        by_cases hj8 : j < 8
        · have d2 : decide ((j : Int) + 1 ≤ 8) = true := decide_eq_true (by omega)
          obtain ⟨⟨b', off', e', C0⟩, hq⟩ := HQ.out wr HMI.out
          simp only [Option.some.injEq, Addr.mk.injEq, and_true] at e'
          obtain ⟨rfl, rfl⟩ := e'
          have c0 := HPI.out.num j hj8
          have f0 := HPI.out.free j hj8
          have c1 := hq.num j hj8
          have HF : Hid (RpAt (wr.setCell ⟨p, j + 1, none⟩ (.int .i64 (mxI (mgU fk g j j) (g j)))).drew p (mgU fk g (j + 1)) ∧ Mv p w (wr.setCell ⟨p, j + 1, none⟩ (.int .i64 (mxI (mgU fk g j j) (g j)))).drew) :=
            Lib.hid ⟨(HPI.out.raise (x := ⟨(j : Int) + 1, g j⟩) hj8 rfl).drew.congr (mgU_step fk g j _ rfl), HMI.out.trans (Only.mv ((Only.refl p wr).set (j + 1) _))⟩
          clear hq
          generalize mgU fk g j j = v at *
          generalize g j = y at *
          unfold mxI at HF
          have h0 : (0 : Int) ≤ (j : Int) + 1 := by omega
          have h1 : (j : Int) + 1 < 9 := by omega
          by_cases hvn : v < y
          · rw [if_pos hvn] at HF
            go_wp2_with fail
            go_region
            go_wp2
            refine ⟨⟨j + 1, by omega, by go_num, HF.out.1, HF.out.2⟩, ?_⟩
            show 9 - ((j : Int) + 1 + 1).toNat < 9 - ((j : Int) + 1).toNat
            omega
          · rw [if_neg hvn] at HF
            go_wp2_with fail
            go_region
            go_wp2
            refine ⟨⟨j + 1, by omega, by go_num, HF.out.1, HF.out.2⟩, ?_⟩
            show 9 - ((j : Int) + 1 + 1).toNat < 9 - ((j : Int) + 1).toNat
            omega
        · have d2 : decide ((j : Int) + 1 ≤ 8) = false := decide_eq_false (by omega)
          obtain rfl : j = 8 := by omega
          have HP9 : Hid (RpAt wr p (mgs f (xs.take (k + 1)))) := Lib.hid (HPI.out.congr (fun i hi => by rw [HTK.out]; simp [mgU, mg, hi]))
          go_wp2
          refine ⟨⟨k + 1, hlt, by go_num, HP9.out, HMI.out⟩, ?_⟩
          show n - ((k : Int) + 1).toNat < n - (k : Int).toNat
          omega
    · have d1 : decide ((k : Int) < (n : Int)) = false := decide_eq_false (by omega)
      have HP9 : Hid (RpAt wr p (mgs f xs)) := Lib.hid (by
        have := HPA.out
        rwa [List.take_of_length_le (by rw [HN.out]; omega)] at this)
      go_wp2
      go_end0
      exact ⟨rfl, HP9.out, HM.out⟩
end Go.Proofs.Ytnjaiiifafbbjaa
