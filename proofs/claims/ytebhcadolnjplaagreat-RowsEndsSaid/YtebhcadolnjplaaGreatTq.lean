/- The law RowsBytes. -/
import Derived.Test.YtebhcadolnjplaaGreatTp
namespace Go.Proofs.YtebhcadolnjplaaGreat
open Go.RowKit

set_option maxRecDepth 100000 in
set_option maxHeartbeats 8000000 in
theorem bytes_law (A : Option Addr) (n c : Nat) (l : List Rw) (hn : l.length = n) (hn6 : n ≤ 17592186044416) (Ab : Option Addr) (nb cb : Nat) (xb : List B8) (W : World) (hA : RowsIn W A l) (hs : RowsSz l) (hA0 : A = none → c = 0) (hnb : xb.length = nb) (hb : BytesIn W (.slice Ab nb cb) xb) :
    Calls Tryz.prog 17 #[.slice A n c, .slice Ab nb cb] W (Ret W (.bool true)) := by
  have HA := Lib.hid hA
  have HN := Lib.hid hn
  have HA0 := Lib.hid hA0
  have HB := Lib.hid hb
  have HNB := Lib.hid hnb
  have hli := lines_m A n c l hn hn6 W hA hs
  have HSM := Lib.hid (small_of_lines l)
  have HLN := Lib.hid (linesM_spec l hs).2.2
  clear hA hn hA0 hb hnb hs hn6
  generalize linesM l = R at *
  go_enter Tryz.func17, Tryz.ntmps17
  go_wp2_with fail
  refine hli.mono ?_
  clear hli
  rintro _ w1 ⟨rfl, o1⟩
  have HO1 := Lib.hid o1
  clear o1
  by_cases hR : 1200 < R
  · have d1 : decide (R > 1200) = true := decide_eq_true hR
    have haw := awake_r w1
    go_wp2_with fail
    refine haw.mono ?_
    clear haw
    rintro _ w2 ⟨rfl, o2⟩
    have HO2 := Lib.hid (HO1.out.trans o2)
    clear o2
    go_wp2_with fail
    go_ret
    exact ⟨rfl, HO2.out⟩
  have d1 : decide (R > 1200) = false := decide_eq_false hR
  have HS := Lib.hid (HSM.out (by omega))
  have HN12 : Hid (n ≤ 1200) := Lib.hid (by have := HLN.out (by omega); rw [HN.out] at this; exact this)
  clear HSM HLN hR
  by_cases hbig : 20000 < nb
  · have d2 : decide ((nb : Int) > 20000) = true := decide_eq_true (by omega)
    have haw := awake_r w1
    go_wp2_with fail
    refine haw.mono ?_
    clear haw
    rintro _ w2 ⟨rfl, o2⟩
    have HO2 := Lib.hid (HO1.out.trans o2)
    clear o2
    go_wp2_with fail
    go_ret
    exact ⟨rfl, HO2.out⟩
  have d2 : decide ((nb : Int) > 20000) = false := decide_eq_false (by omega)
  have HNB2 : Hid (nb ≤ 20000) := Lib.hid (by omega)
  clear hbig
  have hle := lent_f A n c l HN.out (Nat.le_trans HN12.out (by decide)) w1 (HA.out.ok HO1.out) HA0.out
  go_wp2_with fail
  refine hle.mono ?_
  clear hle d1 d2
  rintro _ w2 ⟨g, cap, rfl, hcap, hg, o2, hown⟩
  have HG := Lib.hid (And.intro hcap hg)
  have HL2 := Lib.hid hown
  have HO2 := Lib.hid (HO1.out.trans o2)
  rw [HN.out] at HG HL2 ⊢
  clear hcap hg o2 hown HO1
  have hnw := newWriter_n w2
  go_wp2_with fail
  refine hnw.mono ?_
  clear hnw
  rintro _ w3 ⟨rfl, hwn, o3⟩
  have HWN := Lib.hid hwn
  have HL3 := Lib.hid (HL2.out.ok o3)
  have HK3 : Hid (Ok w2 w3) := Lib.hid o3
  have HGL : Hid (∀ a : Addr, some (⟨g, 0, none⟩ : Addr) = some a → a.block ≠ w2.heap.size) := Lib.hid (fun a e => by
    have h1 := (HL2.out.2.lt g rfl).2
    cases e
    show g ≠ _
    omega)
  clear hwn o3
  obtain ⟨gw, hgw⟩ : ∃ g, w2.heap.size = g := ⟨_, rfl⟩
  rw [hgw] at HWN HGL ⊢
  have HGW := Lib.hid hgw
  clear hgw
  have hwr := write_f gw w3 HWN.out _ (some ⟨g, 0, none⟩) n cap l (HL3.out.short HN.out) HGL.out (Nat.le_trans HN12.out (by decide)) HS.out
  go_wp2_with fail
  refine hwr.mono ?_
  clear hwr
  rintro _ w4 ⟨rfl, hw4, hk4⟩
  have HW4 := Lib.hid hw4
  have HL4 := Lib.hid (HL3.out.kp hk4 HGL.out)
  have HK4 : Hid (Ok w2 w4) := Lib.hid (Below.trans HK3.out (by have := hk4.below; unfold Below at *; rw [HGW.out]; exact this))
  clear hw4 hk4 HL3 HWN HK3 HGL HGW HL2
  have HZL := Lib.hid (enc_all_len l HS.out (by rw [HN.out]; exact Nat.le_trans HN12.out (by decide)) n)
  have HZ2 : Hid ((encsI [(n : Int)] ++ encR l).length ≤ 30000000) := Lib.hid (by
    have h1 := encsI_len [(n : Int)]
    have h2 := encR_len l HS.out l.length (Nat.le_refl _)
    rw [List.take_length, HN.out] at h2
    have h3 := HN12.out
    rw [List.length_append]
    simp only [List.length_cons, List.length_nil] at h1
    omega)
  have hdn := done_ok gw w4 _ HW4.out HZL.out
  have HRB := Lib.hid (fun (w' : World) (k : Ok W w') => rbytes_f A n c l HN.out (Nat.le_trans HN12.out (by decide)) HS.out w' (HA.out.ok k))
  obtain ⟨zs, hzs⟩ : ∃ z, encsI [(n : Int)] ++ encR l = z := ⟨_, rfl⟩
  rw [hzs] at hdn HZL HZ2 HRB
  clear hzs HW4
  go_wp2_with fail
  refine hdn.mono ?_
  clear hdn
  rintro _ w5 ⟨⟨A5, c5, rfl, hb5⟩, o5, -⟩
  have HB5 := Lib.hid hb5
  have HL5 := Lib.hid (HL4.out.ok o5)
  have HO5 : Hid (Ok W w5) := Lib.hid (HO2.out.trans (HK4.out.trans o5))
  clear hb5 o5 HL4 HK4 HO2
  obtain ⟨m5, hm5⟩ : ∃ m, zs.length = m := ⟨_, rfl⟩
  rw [hm5] at HZL HZ2 HB5 ⊢
  have HM5 := Lib.hid hm5
  clear hm5
  have hrb := HRB.out w5 HO5.out
  go_wp2_with fail
  refine hrb.mono ?_
  clear hrb HRB
  rintro _ w6 ⟨A6, m6, c6, rfl, hm6, hown6, o6⟩
  have HB6 := Lib.hid (hown6.bytes (by have := HZL.out; have := HM5.out; omega))
  obtain rfl : m6 = m5 := hm6.trans HM5.out
  have HO6 := Lib.hid (HO5.out.trans o6)
  have HL6 := Lib.hid (HL5.out.ok o6)
  have HB56 := Lib.hid (o6.bytes HB5.out)
  clear hm6 hown6 o6 HO5 HL5 HB5
  have hsb := sameBytes_v _ _ zs w6 HB56.out HB6.out
  go_wp2_with fail
  refine hsb.mono ?_
  clear hsb
  rintro _ w7 ⟨rfl, o7⟩
  have HO7 := Lib.hid (HO6.out.trans o7)
  have HL7 := Lib.hid (HL6.out.ok o7)
  have HB7 := Lib.hid (o7.bytes HB56.out)
  clear o7 HO6 HL6 HB56 HB6
  have hke := kept_f g cap A n c l HN.out (Nat.le_trans HN12.out (by decide)) w7 HG.out.1 HL7.out.rows (HA.out.ok HO7.out)
  go_wp2_with fail
  refine hke.mono ?_
  clear hke
  rintro _ w8 ⟨rfl, o8⟩
  have HO8 := Lib.hid (HO7.out.trans o8)
  have HB8 := Lib.hid (o8.bytes HB7.out)
  clear o8 HO7 HL7 HB7 HG
  have HVB := Lib.hid (HO8.out.bytes HB.out)
  have HC7 := Lib.hid (blk_new (w := w8) (o := .cells #[.slice A5 m6 c5, .slice Ab nb cb] 50) rfl)
  have o9 := (Ok.refl w8).alloc (.cells #[.slice A5 m6 c5, .slice Ab nb cb] 50)
  have HK : Hid (Ok W (w8.alloc (.cells #[.slice A5 m6 c5, .slice Ab nb cb] 50))) := Lib.hid (Ok.trans HO8.out o9)
  replace HB8 := Lib.hid (o9.bytes HB8.out)
  replace HVB := Lib.hid (o9.bytes HVB.out)
  clear o9 HO8
  go_wp2_with fail
  generalize w8.heap.size = pb at *
  generalize w8.alloc (.cells #[.slice A5 m6 c5, .slice Ab nb cb] 50) = V7 at *
  have HEL : Hid (∀ k : Nat, k < 2 → ∃ (Ak : Option Addr) (ck nk : Nat) (zk : List B8), V7.cell? ⟨pb, k, none⟩ = some (.slice Ak nk ck) ∧ BytesIn V7 (.slice Ak nk ck) zk ∧ zk.length ≤ 30000000) := Lib.hid fun k hk => by
    match k, hk with
    | 0, _ => exact ⟨A5, c5, m6, zs, by rw [cell_of_heap HC7.out]; rfl, HB8.out, by rw [HM5.out]; exact HZ2.out⟩
    | 1, _ => exact ⟨Ab, cb, nb, xb, by rw [cell_of_heap HC7.out]; rfl, HVB.out, by rw [HNB.out]; have := HNB2.out; omega⟩
  clear HC7 HB8 HVB HZ2 HZL HM5 HNB HNB2
  go_loopw [9, 10, 11, 12, 13, 14, 15] (fun i _ _ _ _ _ _ wr => ∃ k : Nat, k ≤ 2 ∧ i = .int .i64 k ∧ Ok V7 wr) (fun i _ _ _ _ _ _ _ => 2 - (intOf i).toNat)
  case atStart => exact ⟨0, Nat.zero_le _, rfl, Ok.refl _⟩
  case round =>
  obtain ⟨k, hk, rfl, hok⟩ := hrel
  have HOK := Lib.hid hok
  replace HK := Lib.hid (Ok.trans HK.out hok)
  by_cases hlt : k < 2
  · obtain ⟨Ak, ck, nk, zk, hc, hz, hzl⟩ := HEL.out k hlt
    have hcr := Ok.cell hok hc
    have HZ := Lib.hid (hok.bytes hz)
    have HZL := Lib.hid hzl
    have d1 : decide ((k : Int) < 2) = true := decide_eq_true (by omega)
    have hi0 : (0 : Int) ≤ (k : Int) := Int.natCast_nonneg _
    have hi1 : (k : Int) < 2 := by omega
    clear hc hz hok hzl
    go_upto_region 11 with fail
    go_cut [10, 11] from 56 to 66 (fun vg vq wx => Pair wr zk vg vq wx)
    case first =>
      go_region_held3 (fun w' => w'.cell? ⟨pb, k, none⟩ = some (.slice Ak nk ck))
        ((refine Ok.cell ?_ hcr; (repeat (first | (with_reducible exact Ok.refl _) | (with_reducible assumption) | (with_reducible refine Ok.drew ?_) | (with_reducible refine Ok.alloc ?_ _) | ((with_reducible apply Ok.trans); rotate_left; (with_reducible assumption)))); done))
        ((go_at_call 40; (with_reducible refine (newReader_r _ _ zk (Ok.bytes ?_ HZ.out) ?_).mono ?_); (focus ((repeat (first | (with_reducible exact Ok.refl _) | (with_reducible assumption) | (with_reducible refine Ok.drew ?_) | (with_reducible refine Ok.alloc ?_ _) | ((with_reducible apply Ok.trans); rotate_left; (with_reducible assumption)))); done)); (have := HZL.out; omega); rintro e w8 ⟨W0, g, rfl, hrd, k0, hg1⟩; have k1 := Ok.trans k0 hrd.2.1))
      all_goals (go_wp2_with fail; go_meet)
      all_goals (first | exact pair1 hrd k0 HZ.out | exact pair2 hrd k0 HZ.out)
    case rest =>
    obtain ⟨w8, hw8⟩ : ∃ v, v = wc := ⟨_, rfl⟩
    subst hw8
    have o8 := hcut.ok
    obtain ⟨W0, g2, q, rfl, rfl, hrd, hrf, hgq, hg0, hw0⟩ := hcut
    have HRF := Lib.hid hrf
    have HG0 := Lib.hid (And.intro hg0 hw0)
    have HQ := Lib.hid hgq
    have HO8 := Lib.hid o8
    have hre := read_f W0 g2 w8 zk hrd
    have HQ8 : Hid (q < w8.heap.size) := Lib.hid hrf.lt
    clear hrd hrf hg0 hw0 hcr HZ HZL o8 hgq
    go_wp2_with fail
    refine hre.mono ?_
    clear hre
    rintro _ w9 hp9
    obtain ⟨hf9, hal9⟩ : Rf wr q w9 zk false ∧ Ok wr w9 := by
      have ha : Alo g2 w8 w9 := by
        rcases hp9 with ⟨_, _, h⟩ | ⟨_, _, _, _, _, _, _, _, _, h⟩ <;> exact h
      have h1 := HRF.out.alo ha HQ.out HG0.out.1
      exact ⟨h1, h1.2.1⟩
    have HF9 := Lib.hid hf9
    have HO9 := Lib.hid hal9
    have hrr := rread_f wr q w9 zk HF9.out
    clear hf9 hal9 HRF HO8
    rcases hp9 with ⟨hno, rfl, -⟩ | ⟨l1, ys1, A1, n1, c1, hso, rfl, hown1, hrd1, -⟩
    · have HNO := Lib.hid hno
      clear hno
      go_wp2_with fail
      refine hrr.mono ?_
      clear hrr
      rintro _ w10 hp10
      obtain ⟨hq10, o10⟩ : (_ : Ending) = .returned (.tuple #[.slice none 0 0, .bool false]) ∧ Ok wr w10 := by
        rcases hp10 with ⟨_, h2, h3⟩ | ⟨l', ys, A', n', c', h1, _⟩
        · exact ⟨h2, Below.trans HO9.out (h3.below HF9.out.1 HO9.out.size)⟩
        · rw [HNO.out] at h1; cases h1
      subst hq10
      have HO10 := Lib.hid o10
      clear o10 hp10 HF9 HO9 HNO
      go_upto_region 14 with fail
      have q41 : ∀ d os, Calls Tryz.prog 24 #[.slice none 0 0, .slice none 0 0] (Go.Sort.grow (redrawn w10 d) os) fun e w'' => e = .returned (.bool true) ∧ ∃ p : Regrown, w'' = Go.Sort.grow (redrawn w10 p.d) p.os := fun d os => Rg (same_f none none 0 0 0 [] rfl (by decide) _ (fun j hj => absurd hj (Nat.not_lt_zero _)) (fun j hj => absurd hj (Nat.not_lt_zero _)))
      refine wp_region_quiet_below (by kernel_rfl) (by kernel_rfl) ?_
      refine HeldU.out ?_
      repeat (
        refine hqU_step (fun K hK => ?_)
        go_simp
        first
          | (refine hK _ ?_; clear hK K)
          | (apply Exists.intro
             refine ⟨fun _ => ?_, hK _ ?_⟩
             (with_reducible first
               | exact q41 _ _)
             clear hK K))
      refine HeldU.mk (wpQuiet_nil ?_)
      intro _ hw'
      obtain ⟨⟨dq, osq⟩, hw''⟩ := hw'
      subst hw''
      have HO11 : Hid (Ok V7 (Go.Sort.grow (redrawn w10 dq) osq)) := Lib.hid (Ok.trans (Ok.trans HOK.out HO10.out) (below_regrown w10 dq osq))
      clear q41
      generalize Go.Sort.grow (redrawn w10 dq) osq = w11 at *
      go_wp2_with fail
      exact ⟨⟨k + 1, by omega, by go_num, HO11.out⟩, by simp [intOf]; omega⟩
    · have HSO := Lib.hid hso
      have HL1 := Lib.hid hown1
      have HRD := Lib.hid hrd1
      have hgw9 : g2 < w9.heap.size := hrd1.lt
      have HGW := Lib.hid hgw9
      clear hso hown1 hrd1 hgw9
      go_wp2_with fail
      refine hrr.mono ?_
      clear hrr
      rintro _ w10 hp10
      obtain ⟨A2, c2, hq10, hown2, hrf2, hal2⟩ : ∃ A2 c2, (_ : Ending) = .returned (.tuple #[.slice A2 n1 c2, .bool true]) ∧ OwnR w10 w9.heap.size A2 n1 c2 l1 ∧ Rf wr q w10 ys1 false ∧ Alo q w9 w10 := by
        rcases hp10 with ⟨h1, _⟩ | ⟨l', ys, A', n', c', h1, h2, h3, h4, h5⟩
        · rw [HSO.out] at h1; cases h1
        · rw [HSO.out] at h1
          simp only [Option.some.injEq, Prod.mk.injEq] at h1
          obtain ⟨rfl, rfl⟩ := h1
          obtain rfl : n1 = n' := HL1.out.1.symm.trans h3.1
          exact ⟨A', c', h2, h3, h4, h5⟩
      subst hq10
      have HO10 : Hid (Ok wr w10) := Lib.hid hrf2.2.1
      obtain ⟨_, _, ⟨vq, hvq, e0⟩, _, _, _⟩ := hrf2
      obtain ⟨Aq, cq, rfl, -⟩ := hvq.form
      obtain ⟨_, _, ⟨vg, hvg, g0⟩, g1, gg2, _, _⟩ := HRD.out
      obtain ⟨Ag, cg, rfl, -⟩ := hvg.form
      have g0 := hal2.cell HQ.out g0
      have g1 := hal2.cell HQ.out g1
      have gg2 := hal2.cell HQ.out gg2
      have HL2 := Lib.hid (HL1.out.alo hal2 (fun a e => by
        have h1 := (HL1.out.2.lt a.block (by rw [e]; rfl)).1
        have h2 := HQ8.out
        omega))
      have HL3 := Lib.hid hown2
      have HLL := Lib.hid (readM_len zk l1 ys1 HSO.out)
      have h41 := fun w' (o : Ok w10 w') => same_f A1 A2 n1 c1 c2 l1 HL1.out.1 (by have := HLL.out; have := HL1.out.1; omega) w' (HL2.out.rows.ok o) (HL3.out.rows.ok o)
      have h42 := fun w' (o : Ok w10 w') => left_raw g2 ys1.length cg Ag w' (o.cell g0) (o.cell g1) (o.cell gg2)
      have hne : ((ys1.length : Int) != (ys1.length : Int)) = false := by simp
      clear hp10 hown2 hal2 hvq hvg g0 g1 gg2 HRD HL1 HL2 HL3 HF9 HO9 HSO HLL
      generalize ys1.length = L at *
      go_upto_region 14 with fail
      have r0 := cell_regrown e0
      have q41 : ∀ d os, Calls Tryz.prog 24 #[.slice A1 n1 c1, .slice A2 n1 c2] (Go.Sort.grow (redrawn w10 d) os) fun e w'' => e = .returned (.bool true) ∧ ∃ p : Regrown, w'' = Go.Sort.grow (redrawn w10 p.d) p.os := fun d os => Rg (h41 _ (below_regrown w10 d os))
      have q42 : ∀ d os, Calls Tryz.prog 43 #[.pointer (some ⟨g2, 0, none⟩)] (Go.Sort.grow (redrawn w10 d) os) fun e w'' => e = .returned (.int .i64 (L : Int)) ∧ ∃ p : Regrown, w'' = Go.Sort.grow (redrawn w10 p.d) p.os := fun d os => Rg (h42 _ (below_regrown w10 d os))
      clear e0 h41 h42
      refine wp_region_quiet_below (by kernel_rfl) (by kernel_rfl) ?_
      refine HeldU.out ?_
      repeat (
        refine hqU_step (fun K hK => ?_)
        go_simp
        first
          | (refine hK _ ?_; clear hK K)
          | (apply Exists.intro
             refine ⟨fun _ => ?_, hK _ ?_⟩
             (with_reducible first
               | exact q41 _ _
               | exact q42 _ _)
             clear hK K))
      refine HeldU.mk (wpQuiet_nil ?_)
      intro _ hw'
      obtain ⟨⟨dq, osq⟩, hw''⟩ := hw'
      subst hw''
      have HO11 : Hid (Ok V7 (Go.Sort.grow (redrawn w10 dq) osq)) := Lib.hid (Ok.trans (Ok.trans HOK.out HO10.out) (below_regrown w10 dq osq))
      clear q41 q42 r0
      generalize Go.Sort.grow (redrawn w10 dq) osq = w11 at *
      go_wp2_with fail
      exact ⟨⟨k + 1, by omega, by go_num, HO11.out⟩, by simp [intOf]; omega⟩
  · obtain rfl : k = 2 := by omega
    have d1 : decide (((2 : Nat) : Int) < 2) = false := by decide
    have haw := awake_r wr
    go_wp2_with fail
    refine haw.mono ?_
    clear haw
    rintro _ w9 ⟨rfl, o9⟩
    have HO9 := Lib.hid (HK.out.trans o9)
    clear o9
    go_wp2_with fail
    go_ret
    exact ⟨rfl, HO9.out⟩
end Go.Proofs.YtebhcadolnjplaaGreat
