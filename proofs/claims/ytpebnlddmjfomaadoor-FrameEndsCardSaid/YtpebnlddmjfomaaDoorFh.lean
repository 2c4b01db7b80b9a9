/- One frame, walked: nine bytes and more. -/
import Derived.Test.YtpebnlddmjfomaaDoorFg
import Derived.Deep.RegionLaw
namespace Go.Proofs.YtpebnlddmjfomaaDoor
open Go.RowKit
/-- What the call of a frame leaves. -/
def FrameP (W0 : World) (p : Nat) (w : World) (bs : List B8) (m : Nat) (e : Ending) (w' : World) : Prop :=
  (nextF bs = none ∧ NoFrame W0 p w m e w') ∨ ∃ (f : Fr) (t : List B8) (A : Option Addr) (n c : Nat), nextF bs = some (f, t) ∧ e = .returned (.tuple #[.agg #[.int .i64 f.kind, .slice A n c], .bool true]) ∧ OwnN w' w.heap.size (.slice A n c) f.data ∧ Pl W0 p w' t m ∧ But p w w'
theorem FrameP.no {W0 : World} {p : Nat} {w : World} {bs : List B8} {m : Nat} {e : Ending} {w' : World} (h : nextF bs = none) (k : NoFrame W0 p w m e w') : FrameP W0 p w bs m e w' := .inl ⟨h, k⟩
theorem OwnN.set {w : World} {B r : Nat} {v : Value} {xs : List B8} (h : OwnN w B v xs) (hr : r < B) (i : Nat) (x : Value) : OwnN (w.setCell ⟨r, i, none⟩ x) B v xs := by
  refine World.ownsRow.kept (row := some r) h ⟨rfl, rfl, rfl, by simp [World.setCell], fun k _ hk => heap_setCell_other w ⟨r, i, none⟩ k _ (fun e => hk (by simp [e]))⟩ ?_
  rcases h.2 with ⟨h1, _⟩ | ⟨g', cap', cur, h1, hg', _⟩
  · exact .inl (by rw [h1]; rfl)
  · refine .inr (by rw [h1]; simp [Value.ownBlock]; omega)
theorem FrameP.yes {W0 : World} {p : Nat} {w w8 : World} {bs : List B8} {m r B : Nat} {f : Fr} {t : List B8} {A : Option Addr} {n c : Nat} {x : Int} (hn : nextF bs = some (f, t)) (hx : x = f.kind) (ho : OwnN w8 B (.slice A n c) f.data) (hB : w.heap.size ≤ B) (hrB : r < B) (hP : Pl W0 p w8 t m) (hb : But p w w8)
    (hr : r ≠ p) (hw : w.heap.size ≤ r) (hW : W0.heap.size ≤ r) {y z : Value} : FrameP W0 p w bs m (.returned (.tuple #[.agg #[.int .i64 x, .slice A n c], .bool true])) ((w8.setCell ⟨r, 0, none⟩ y).setCell ⟨r, 1, none⟩ z) := by
  subst hx
  exact .inr ⟨f, t, A, n, c, hn, rfl, ((ho.set hrB 0 y).set hrB 1 z).mono hB, (hP.other hr hW 0 y).other hr hW 1 z, (hb.new hw 0 y).new hw 1 z⟩
theorem wrap_ub (k : B8) : IntKind.i64.wrap (ub k) = (k.toNat : Int) := by
  have h := k.isLt
  unfold ub
  rw [IntKind.wrap_i64]
  omega
theorem next_big (a0 a1 a2 a3 k t0 t1 t2 t3 : B8) (r : List B8) (h : 262144 < un4 a0 a1 a2 a3) : nextF (a0 :: a1 :: a2 :: a3 :: k :: t0 :: t1 :: t2 :: t3 :: r) = none := by
  unfold nextF; simp only; rw [if_neg (by omega)]
theorem next_few (a0 a1 a2 a3 k t0 t1 t2 t3 : B8) (r : List B8) (h : r.length < un4 a0 a1 a2 a3) : nextF (a0 :: a1 :: a2 :: a3 :: k :: t0 :: t1 :: t2 :: t3 :: r) = none := by
  unfold nextF; simp only; rw [if_neg (by omega)]
theorem next_odd (a0 a1 a2 a3 k t0 t1 t2 t3 : B8) (r : List B8) (h : sumF k.toNat (r.take (un4 a0 a1 a2 a3)) ≠ un4 t0 t1 t2 t3) : nextF (a0 :: a1 :: a2 :: a3 :: k :: t0 :: t1 :: t2 :: t3 :: r) = none := by
  unfold nextF; simp only; rw [if_neg (fun e => h e.2.2)]
theorem next_good (a0 a1 a2 a3 k t0 t1 t2 t3 : B8) (r : List B8) (h1 : un4 a0 a1 a2 a3 ≤ 262144) (h2 : un4 a0 a1 a2 a3 ≤ r.length) (h : sumF k.toNat (r.take (un4 a0 a1 a2 a3)) = un4 t0 t1 t2 t3) :
    nextF (a0 :: a1 :: a2 :: a3 :: k :: t0 :: t1 :: t2 :: t3 :: r) = some (⟨k.toNat, r.take (un4 a0 a1 a2 a3)⟩, r.drop (un4 a0 a1 a2 a3)) := by
  unfold nextF; simp only; rw [if_pos ⟨h1, h2, h⟩]
set_option maxRecDepth 100000 in
set_option maxHeartbeats 4000000 in
theorem frame_w (W0 : World) (p : Nat) (w : World) (bs : List B8) (m : Nat) (h : Pl W0 p w bs m) (ht : Tab W0) :
    Calls Tryd.prog 35 #[.pointer (some ⟨p, 0, none⟩)] w (FrameP W0 p w bs m) := by
  rcases Nat.lt_or_ge bs.length 9 with hl | hl
  · exact (frame_short W0 p w bs m h hl).mono fun e w' hh => FrameP.no (next_short hl) hh
  · obtain ⟨a0, a1, a2, a3, k, t0, t1, t2, t3, rest, rfl⟩ := nine hl
    have HT := Lib.hid ht
    clear hl ht
    have HBIG := Lib.hid (next_big a0 a1 a2 a3 k t0 t1 t2 t3 rest)
    have HFEW := Lib.hid (next_few a0 a1 a2 a3 k t0 t1 t2 t3 rest)
    have HODD := Lib.hid (next_odd a0 a1 a2 a3 k t0 t1 t2 t3 rest)
    have HGOOD := Lib.hid (next_good a0 a1 a2 a3 k t0 t1 t2 t3 rest)
    have hn4 := un4_lt a0 a1 a2 a3
    have HN1 := Lib.hid (fun V (k' : Pl W0 p V _ m) => number_yes W0 p V a0 a1 a2 a3 (k :: t0 :: t1 :: t2 :: t3 :: rest) m k')
    have HT1 : Hid (∀ V, Pl W0 p V (k :: t0 :: t1 :: t2 :: t3 :: rest) m → Calls Tryd.prog 63 #[.pointer (some ⟨p, 0, none⟩), .int .i64 1] V fun e w' => (∃ A c, e = .returned (.tuple #[.slice A 1 c, .bool true]) ∧ BytesIn W0 (.slice A 1 c) [k]) ∧ Pl W0 p w' (t0 :: t1 :: t2 :: t3 :: rest) m ∧ Only p V w') := Lib.hid (fun V k' => take_yes W0 p V _ m 1 k' (by simp))
    have HN2 := Lib.hid (fun V (k' : Pl W0 p V _ m) => number_yes W0 p V t0 t1 t2 t3 rest m k')
    generalize un4 a0 a1 a2 a3 = n at *
    generalize un4 t0 t1 t2 t3 = told at *
    have HP := Lib.hid (h.ok ((Ok.refl w).alloc (.cells #[.int .i64 0, .slice none 0 0] 28)))
    have HB := Lib.hid ((But.refl p w).ok ((Ok.refl w).alloc (.cells #[.int .i64 0, .slice none 0 0] 28)))
    have HR := Lib.hid (res_new w (.int .i64 0) (.slice none 0 0))
    have HNE : Hid (w.heap.size ≠ p) := Lib.hid (Nat.ne_of_gt h.lt)
    have HW0 : Hid (W0.heap.size ≤ w.heap.size) := Lib.hid (Nat.le_of_lt (Nat.lt_of_le_of_lt h.1 h.lt))
    clear h
    go_enter Tryd.func35, Tryd.ntmps35
    go_wp2_with fail
    obtain ⟨r, hr⟩ : ∃ r, r = w.heap.size := ⟨_, rfl⟩
    have HRW : Hid (w.heap.size ≤ r) := Lib.hid (Nat.le_of_eq hr.symm)
    rw [← hr] at HR HNE HW0 ⊢
    clear hr
    generalize w.alloc (.cells #[.int .i64 0, .slice none 0 0] 28) = w1 at *
    (with_reducible refine (HN1.out _ HP.out).mono ?_)
    rintro _ w2 ⟨rfl, hP, hO⟩
    replace HP := Lib.hid hP
    replace HB := Lib.hid (HB.out.only hO)
    replace HR := Lib.hid (HR.out.only HNE.out hO)
    clear hP hO HN1
    go_wp2_with fail
    (with_reducible refine (HT1.out _ HP.out).mono ?_)
    rintro _ w3 ⟨⟨A1, c1, rfl, hB1⟩, hP, hO⟩
    replace HP := Lib.hid hP
    replace HB := Lib.hid (HB.out.only hO)
    replace HR := Lib.hid (HR.out.only HNE.out hO)
    have HB1 := Lib.hid hB1
    clear hP hO HT1 hB1
    go_wp2_with fail
    (with_reducible refine (HN2.out _ HP.out).mono ?_)
    rintro _ w4 ⟨rfl, hP, hO⟩
    replace HP := Lib.hid hP
    replace HB := Lib.hid (HB.out.only hO)
    replace HR := Lib.hid (HR.out.only HNE.out hO)
    clear hP hO HN2
    by_cases hbig : 262144 < n
    · have d1 : decide ((262144 : Int) < (n : Int)) = true := decide_eq_true (by omega)
      have HN := Lib.hid (HBIG.out hbig)
      clear HBIG HFEW HODD HGOOD hbig
      obtain ⟨r0, r1, f0, f1⟩ := HR.out
      go_wp2_with fail
      refine bodyPost_ret (by simp [results, Tryd.results35, go_sem, r0, r1]; try rfl) rfl ?_
      exact FrameP.no HN.out (NoFrame.mk HP.out HB.out HNE.out HRW.out HW0.out)
    · have d1 : decide ((262144 : Int) < (n : Int)) = false := decide_eq_false (by omega)
      clear HBIG
      have hn64 : (n : Int) < 9223372036854775808 := by omega
      have hn0 : (0 : Int) ≤ (n : Int) := Int.natCast_nonneg _
      by_cases hfew : rest.length < n
      · have HN := Lib.hid (HFEW.out hfew)
        have HTN := Lib.hid (take_no W0 p w4 rest m n HP.out hfew)
        clear HFEW HODD HGOOD hfew
        go_wp2_with fail
        (with_reducible refine HTN.out.mono ?_)
        rintro _ w5 ⟨rfl, rfl⟩
        obtain ⟨r0, r1, f0, f1⟩ := HR.out
        go_wp2_with fail
        refine bodyPost_ret (by simp [results, Tryd.results35, go_sem, r0, r1]; try rfl) rfl ?_
        exact FrameP.no HN.out (NoFrame.mk HP.out HB.out HNE.out HRW.out HW0.out)
      · have HTY := Lib.hid (take_yes W0 p w4 rest m n HP.out (by omega))
        clear HFEW
        go_wp2_with fail
        (with_reducible refine HTY.out.mono ?_)
        rintro _ w5 ⟨⟨A5, c5, rfl, hB5⟩, hP, hO⟩
        replace HP := Lib.hid hP
        replace HB := Lib.hid (HB.out.only hO)
        replace HR := Lib.hid (HR.out.only HNE.out hO)
        have HB5 := Lib.hid hB5
        clear hP hO HTY hB5
        have hln : n ≤ rest.length := by omega
        have hdl : (rest.take n).length = n := by rw [List.length_take]; omega
        obtain ⟨b1, o1, rfl, hc1⟩ := bytes_cell HP.out.2.1 HB1.out (by simp)
        have K0 : w5.cell? ⟨b1, o1, none⟩ = some (.int .u8 (ub k)) := hc1 0 (by simp)
        have HHD : Hid (∀ V, Calls Tryd.prog 25 #[.int .i64 (ub k), .int .i64 (n : Int)] V (RowP V (headB k.toNat n))) := Lib.hid (fun V => head_w k.toNat n k.isLt hn4 V)
        have HDL := Lib.hid hdl
        have HGD := Lib.hid (fun e => HGOOD.out (by omega) hln e)
        generalize rest.take n = d at *
        generalize rest.drop n = tl at *
        clear hc1 hdl hln hfew hbig HB1 HGOOD
        have ub0 := ub_lo k
        have ub1 := ub_hi k
        generalize hub : ub k = uk at *
        have HUK := Lib.hid hub
        clear hub
        go_wp2_with fail
        (with_reducible refine (HHD.out _).mono ?_)
        rintro _ w6 ⟨AH, cH, rfl, hoH, o6⟩
        have hHB := hoH.bytes (by rw [headB_len]; decide)
        have okr : Ok w5 (w6.alloc (.cells #[.slice AH (headB k.toNat n).length cH, .slice A5 n c5] 23)) := o6.alloc _
        have HSUM : Hid (Calls Tryd.prog 22 #[.slice (some ⟨w6.heap.size, 0, none⟩) 2 2] (w6.alloc (.cells #[.slice AH (headB k.toNat n).length cH, .slice A5 n c5] 23)) (Ret (w6.alloc (.cells #[.slice AH (headB k.toNat n).length cH, .slice A5 n c5] 23)) (.int .u32 (sumF k.toNat d : Nat)))) :=
          Lib.hid (sumF_w _ k.toNat n d HDL.out _ (rows2_of _ _ _ _ _ _ _ (by go_cell) (by go_cell) (((Ok.refl w6).alloc _).bytes hHB) ((Ok.trans HP.out.2.1 okr).bytes HB5.out)) (HT.out.ok (Ok.trans HP.out.2.1 okr)))
        have HOKR := Lib.hid okr
        clear hHB hoH okr o6 HHD
        generalize sumF k.toNat d = sn at *
        go_wp2_with fail
        (with_reducible refine HSUM.out.mono ?_)
        rintro _ w7 ⟨rfl, o7⟩
        have ok57 := Ok.trans HOKR.out o7
        have K7 := ok57.cell K0
        replace HP := Lib.hid (HP.out.ok ok57)
        replace HB := Lib.hid (HB.out.ok ok57)
        replace HR := Lib.hid (HR.out.ok ok57)
        clear ok57 o7 HOKR HSUM K0
        by_cases heq : sn = told
        · subst heq
          have hs : ((sn : Int) != (sn : Int)) = false := by simp
          have HN := Lib.hid (HGD.out rfl)
          clear HODD HGD
          go_wp2_with fail
          obtain ⟨r0, r1, f0, f1⟩ := HR.out
          have HBD : Hid (BytesIn w7.drew (.slice A5 n c5) d) := Lib.hid (HP.out.2.1.drew.bytes HB5.out)
          have HLN : Hid (([] : List B8).length + d.length ≤ 140737488351232) := Lib.hid (by have := HDL.out; simp; omega)
          have HRS := HR
          clear HR
          go_region_law ((refine step_appB (by rfl) _ _ (by rfl) w7.drew.heap.size _ [] d _ (by rfl) (by rfl) (OwnN.nil _ _) HBD.out HLN.out (Nat.le_refl _) ?_; intro A8 n8 c8 w8 ho8 hb8 hg8; have K8 : w8.cell? ⟨b1, o1, none⟩ = some (.int .u8 uk) := (Ok.trans (Ok.refl w7).drew hb8).cell K7; obtain ⟨s0, s1, g0, g1⟩ := HRS.out.ok (Ok.trans (Ok.refl w7).drew hb8)))
          all_goals
            go_wp2_with fail
            refine bodyPost_ret (by simp [results, Tryd.results35, go_sem, s0, s1]; try rfl) rfl ?_
            have okF : Ok w7 w8 := Ok.trans (Ok.refl w7).drew hb8
            exact FrameP.yes HN.out (by rw [← HUK.out]; exact wrap_ub k) ho8 (Nat.le_trans HB.out.2.2.2.1 (Nat.le_refl _)) (World.block_lt_of_cell? _ _ HRS.out.1) (HP.out.ok okF) (HB.out.ok okF) HNE.out HRW.out HW0.out
        · have hs : ((sn : Int) != (told : Int)) = true := by simp; omega
          have hs2 : (sn != told) = true := by simp [heq]
          have HN := Lib.hid (HODD.out heq)
          clear HODD HGD
          obtain ⟨r0, r1, f0, f1⟩ := HR.out
          go_wp2_with fail
          refine bodyPost_ret (by simp [results, Tryd.results35, go_sem, r0, r1]; try rfl) rfl ?_
          exact FrameP.no HN.out (NoFrame.mk HP.out HB.out HNE.out HRW.out HW0.out)
end Go.Proofs.YtpebnlddmjfomaaDoor
