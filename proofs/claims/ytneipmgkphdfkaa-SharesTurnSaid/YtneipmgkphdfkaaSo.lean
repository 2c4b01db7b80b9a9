/- The law SharesTurn, walked. -/
import Derived.Test.YtneipmgkphdfkaaSn
namespace Go.Proofs.Ytneipmgkphdfkaa
open Go.RowKit

theorem made4 {w w8 : World} {C : Prop} (o8 : Ok (w.alloc (.cells #[.string ⟨#[]⟩, .string ⟨#[]⟩, .int .i64 0, .int .i64 0] 60)).drew w8)
    (h : w8.cell? ⟨w.heap.size, 0, none⟩ = some (.string ⟨#[]⟩) → w8.cell? ⟨w.heap.size, 1, none⟩ = some (.string ⟨#[]⟩) → w8.cell? ⟨w.heap.size, 2, none⟩ = some (.int .i64 0) → w8.cell? ⟨w.heap.size, 3, none⟩ = some (.int .i64 0) →
      w8.frozen? ⟨w.heap.size, 0, none⟩ = false → w8.frozen? ⟨w.heap.size, 1, none⟩ = false → w8.frozen? ⟨w.heap.size, 2, none⟩ = false → w8.frozen? ⟨w.heap.size, 3, none⟩ = false → C) : C := by
  refine h (Ok.cell o8 (by go_cell)) (Ok.cell o8 (by go_cell)) (Ok.cell o8 (by go_cell)) (Ok.cell o8 (by go_cell)) ?_ ?_ ?_ ?_ <;> (rw [Below.frozen o8 (by simp)]; go_cell)
theorem first_some {ep : Int} {xs : List Sh} (h : sharesB ep xs = true) (q : Sh → Bool) : firstM ep xs q = xs.find? q := by rw [firstM, if_pos h]

set_option maxRecDepth 100000 in
set_option maxHeartbeats 40000000 in
theorem sharesTurn_w (ep : Int) (A : Option Addr) (n c : Nat) (xs : List Sh) (i : Sp) (g : Int) (vk : Value) (ks : List Str) (hn : xs.length = n) (hnc : n ≤ c) (w : World) (hI : SharesAt w A xs) (hk : StrsN w.heap.size w vk ks) :
    Calls Try.prog 9 #[.agg #[.int .i64 ep, .slice A n c], spV i, .int .i64 g, vk] w (Ret w (.bool true)) := by
  obtain ⟨Ak, ck, rfl⟩ := hk.form
  have HI := Lib.hid hI
  have HN := Lib.hid hn
  have HK := Lib.hid hk
  clear hI hn hk
  obtain ⟨nk, hnk⟩ : ∃ n, ks.length = n := ⟨_, rfl⟩
  rw [hnk] at HK ⊢
  have HNK := Lib.hid hnk
  clear hnk
  have HHAS := Lib.hid (has_w i)
  have HTURN := Lib.hid (fun hn6 => turn_w ep A n c xs i g HN.out hn6 hnc)
  have HWAYS := Lib.hid (turn_ways ep xs i g)
  have HMATH := Lib.hid (fun k => @turned ep xs i g k)
  obtain ⟨R, hR⟩ : ∃ R, turnM ep xs i g = R := ⟨_, rfl⟩
  rw [hR] at HTURN HWAYS
  clear hR
  generalize hasB i = hb at HHAS HMATH
  obtain ⟨il, ih⟩ := i
  unfold spV at *
  go_enter Try.func9, Try.ntmps9
  go_wp2_with fail
  refine (awake2_w _).mono ?_
  rintro _ w1 ⟨rfl, o1⟩
  have B0 : w1.cell? ⟨w.heap.size, 0, none⟩ = some (.int .i64 ep) := Ok.cell o1 (by go_cell)
  have B1 : w1.cell? ⟨w.heap.size, 1, none⟩ = some (.slice A n c) := Ok.cell o1 (by go_cell)
  have I0 : w1.cell? ⟨w.heap.size + 1, 0, none⟩ = some (.string il) := Ok.cell o1 (by go_cell)
  have I1 : w1.cell? ⟨w.heap.size + 1, 1, none⟩ = some (.string ih) := Ok.cell o1 (by go_cell)
  have ok1 := Lib.hid (Ok.call (Ok.alloc (Ok.alloc (Ok.refl w) _) _) o1)
  clear o1
  have HS := Lib.hid fun w' (k' : Ok w1 w') => show w'.cell? ⟨w.heap.size, 0, none⟩ = some (.int .i64 ep) ∧ w'.cell? ⟨w.heap.size, 1, none⟩ = some (.slice A n c) ∧ w'.cell? ⟨w.heap.size + 1, 0, none⟩ = some (.string il) ∧ w'.cell? ⟨w.heap.size + 1, 1, none⟩ = some (.string ih) ∧ OkS w1 w' from ⟨Ok.cell k' B0, Ok.cell k' B1, Ok.cell k' I0, Ok.cell k' I1, k'⟩
  have HOW := Lib.hid (two_own w1.drew il ih)
  have HKD : Hid (StrsN w.heap.size (w1.drew.alloc (.cells #[.string il, .string ih] 9)) (.slice Ak nk ck) ks) := Lib.hid (HK.out.below (Ok.alloc (Ok.drew ok1.out) _))
  have HG := Lib.hid fun w' (k' : Ok w1 w') v zs b hz => great_w ep A n c xs v zs b HN.out w' (HI.out.ok (Ok.call ok1.out k')) hz
  go_wp2_with fail
  go_region_held3 (fun w' => w'.cell? ⟨w.heap.size, 0, none⟩ = some (.int .i64 ep) ∧ w'.cell? ⟨w.heap.size, 1, none⟩ = some (.slice A n c) ∧ w'.cell? ⟨w.heap.size + 1, 0, none⟩ = some (.string il) ∧ w'.cell? ⟨w.heap.size + 1, 1, none⟩ = some (.string ih) ∧ OkS w1 w')
    ((refine HS.out _ ?_; (repeat (first | (with_reducible exact Ok.refl _) | (with_reducible assumption) | (with_reducible refine Ok.drew ?_) | (with_reducible refine Ok.alloc ?_ _) | (with_reducible refine Ok.trans' ?_ (by assumption))))))
    (first
      | (refine step_appTs (by rfl) _ _ (by rfl) w1.drew.heap.size _ [il, ih] ks _ w.heap.size (by rfl) (by rfl) HOW.out HKD.out (by simp) (by simp) ?_; intro A2 n2 c2 w2 hown2 hb2; have o12 : Ok w1 w2 := (Below.trans (Ok.alloc (Ok.drew (Ok.refl w1)) (.cells #[.string il, .string ih] 9)) hb2))
      | (go_at_call 37; (with_reducible refine (HG.out _ o12 _ _ _ hown2.strs).mono ?_); rintro e w3 ⟨⟨r, rfl, hr1⟩, o3⟩))
  have o13 : Ok w1 w3 := Ok.trans' o12 o3
  have ok3 := Lib.hid (Ok.call ok1.out o13)
  clear hown2 hb2 HOW HKD HG HS o12 o3
  cases r with
  | true =>
    go_wp2
    go_ret
    exact ⟨rfl, ok3.out⟩
  | false =>
    obtain ⟨hn60, hm60⟩ := hr1 rfl
    have hnk : nk ≤ 60 := by have := HNK.out; simp only [List.length_append, List.length_cons, List.length_nil] at hm60; omega
    clear hr1 hm60
    have B0 := Ok.cell o13 B0
    have B1 := Ok.cell o13 B1
    have I0 := Ok.cell o13 I0
    have I1 := Ok.cell o13 I1
    have hres : (∃ e : Int, e ≠ 0 ∧ R = (e, [])) ∨ ∃ k : Nat, k < xs.length ∧ withinB ⟨il, ih⟩ (at2 xs k).sp = true ∧ sharesB ep xs = true ∧ groupB g = true ∧ (at2 xs k).g ≠ g ∧ ep + 1 ≤ 1073741824 ∧
        (xs.take k ++ (cutShM (at2 xs k) ⟨il, ih⟩ g (ep + 1) ++ xs.drop (k + 1))).length ≤ 40 ∧ R = (0, xs.take k ++ (cutShM (at2 xs k) ⟨il, ih⟩ g (ep + 1) ++ xs.drop (k + 1))) := by
      rcases HWAYS.out with ⟨_, e⟩ | ⟨_, _, e⟩ | ⟨_, _, _, e⟩ | ⟨_, _, _, _, e⟩ | ⟨k, hk, hw, h1, _, h3, _, ⟨_, e⟩ | ⟨_, _, e⟩ | ⟨h4, h5, h6, e⟩⟩
      · exact .inl ⟨2, by decide, e⟩
      · exact .inl ⟨2, by decide, e⟩
      · exact .inl ⟨2, by decide, e⟩
      · exact .inl ⟨6, by decide, e⟩
      · exact .inl ⟨7, by decide, e⟩
      · exact .inl ⟨8, by decide, e⟩
      · exact .inr ⟨k, hk, hw, h1, h3, h4, h5, h6, e⟩
    have hturn := HTURN.out (by omega) w3 (HI.out.ok ok3.out)
    clear HWAYS HTURN o13
    rcases hres with ⟨e, he, rfl⟩ | ⟨k, hk, hw, h1, h3, h4, h5, h6, rfl⟩
    · go_wp2_with fail
      refine hturn.mono ?_
      rintro _ w4 ⟨A4, c4, rfl, hown4, o4⟩
      have d1 : decide (e = 0) = false := decide_eq_false he
      have d2 : (e == 0) = false := beq_eq_false_iff_ne.2 he
      simp only [if_neg he, List.length_nil]
      go_wp2
      go_ret
      exact ⟨rfl, Ok.alloc (Ok.call ok3.out o4) _⟩
    · obtain ⟨hS, hfind⟩ := HMATH.out k hk h1 hw h3 h4 h5 h6
      have hep := (shares_parts h1).2.1
      have hca := shares_count h1
      have hcb := shares_count hS
      have hsa := shares_some h1
      have hsb := shares_some hS
      clear HMATH h3 h4 hk hw
      generalize xs.take k ++ (cutShM (at2 xs k) ⟨il, ih⟩ g (ep + 1) ++ xs.drop (k + 1)) = ys at *
      obtain ⟨N, hN⟩ : ∃ N, ys.length = N := ⟨_, rfl⟩
      have HFIND := Lib.hid hfind
      have HCB := Lib.hid hcb
      have HSA := Lib.hid hsa
      have HSB := Lib.hid hsb
      have HS1 := Lib.hid h1
      have HS2 := Lib.hid hS
      have HYN := Lib.hid hN
      rw [hN] at h6
      clear hfind hca hcb hsa hsb h1 hS
      go_wp2_with fail
      refine hturn.mono ?_
      rintro _ w4 ⟨A4, c4, rfl, hown4, o4⟩
      simp only [if_true, HYN.out]
      have hat4 := hown4.at
      have oa := Ok.alloc o4 (.cells #[.int .i64 (ep + 1), .slice A4 N c4] 48)
      have T0 : (w4.alloc (.cells #[.int .i64 (ep + 1), .slice A4 N c4] 48)).cell? ⟨w4.heap.size, 0, none⟩ = some (.int .i64 (ep + 1)) := by go_cell
      have T1 : (w4.alloc (.cells #[.int .i64 (ep + 1), .slice A4 N c4] 48)).cell? ⟨w4.heap.size, 1, none⟩ = some (.slice A4 N c4) := by go_cell
      have HY4 := Lib.hid (hat4.ok (Ok.alloc (Ok.refl w4) (.cells #[.int .i64 (ep + 1), .slice A4 N c4] 48)))
      have B0 := Ok.cell oa B0
      have B1 := Ok.cell oa B1
      have I0 := Ok.cell oa I0
      have I1 := Ok.cell oa I1
      have ok5 := Lib.hid (Ok.call ok3.out oa)
      clear hN hown4 o4 oa hat4 hturn ok3
      go_wp2_with fail
      have hra := sharesRight_w ep A n c xs HN.out (by omega)
      rw [HS1.out] at hra
      have hrb := sharesRight_w (ep + 1) A4 N c4 ys HYN.out (by omega)
      rw [HS2.out] at hrb
      generalize w4.alloc (.cells #[.int .i64 (ep + 1), .slice A4 N c4] 48) = w5 at *
      obtain ⟨t, ht⟩ : ∃ t, w4.heap.size = t := ⟨_, rfl⟩
      rw [ht] at T0 T1 ⊢
      clear ht
      refine (hra _ (HI.out.ok ok5.out)).mono ?_
      rintro _ w6 ⟨rfl, o6⟩
      have B0 := Ok.cell o6 B0
      have B1 := Ok.cell o6 B1
      have I0 := Ok.cell o6 I0
      have I1 := Ok.cell o6 I1
      have T0 := Ok.cell o6 T0
      have T1 := Ok.cell o6 T1
      have HY6 := Lib.hid (HY4.out.ok o6)
      have ok6 := Lib.hid (Ok.call ok5.out o6)
      clear o6 ok5 HY4
      go_wp2_with fail
      refine (hrb _ HY6.out).mono ?_
      rintro _ w7 ⟨rfl, o7⟩
      have B0 := Ok.cell o7 B0
      have B1 := Ok.cell o7 B1
      have I0 := Ok.cell o7 I0
      have I1 := Ok.cell o7 I1
      have T0 := Ok.cell o7 T0
      have T1 := Ok.cell o7 T1
      have HY7 := Lib.hid (HY6.out.ok o7)
      have ok7 := Lib.hid (Ok.call ok6.out o7)
      clear o7 ok6 HY6 hra hrb
      have HKC : Hid (∀ j, j < nk → ∃ b off, Ak = some ⟨b, off, none⟩ ∧ w7.cell? ⟨b, off + j, none⟩ = some (.string (at0 ks j))) := Lib.hid fun j hj => by
        rcases (HK.out.below ok7.out).strs with ⟨h, A', c', e⟩ | ⟨b, off, cap, e, _, hc⟩
        · rw [← HNK.out, h] at hj; exact absurd hj (Nat.not_lt_zero _)
        · simp only [Value.slice.injEq] at e
          exact ⟨b, off, e.1, hc j (by rw [HNK.out]; exact hj)⟩
      go_wp2_with fail
      go_loopw [11] (fun i wr => ∃ q : Nat, q ≤ nk ∧ i = .int .i64 q ∧ Ok w7 wr) (fun i _ => nk - (intOf i).toNat)
      case atStart => exact ⟨0, Nat.zero_le _, rfl, Ok.refl _⟩
      case round =>
        obtain ⟨q, hq, rfl, okr⟩ := hrel
        have HOKR := Lib.hid (Ok.call ok7.out okr)
        have OKR := Lib.hid okr
        have B0 := Ok.cell okr B0
        have B1 := Ok.cell okr B1
        have I0 := Ok.cell okr I0
        have I1 := Ok.cell okr I1
        have T0 := Ok.cell okr T0
        have T1 := Ok.cell okr T1
        have HYR := Lib.hid (HY7.out.ok okr)
        by_cases hlt : q < nk
        · have d3 : decide ((q : Int) < (nk : Int)) = true := decide_eq_true (by omega)
          obtain ⟨kb, ko, rfl, K0⟩ := HKC.out q hlt
          have K0 := Ok.cell okr K0
          clear okr
          generalize at0 ks q = kk at K0
          have hi0 : (0 : Int) ≤ (q : Int) := Int.natCast_nonneg _
          have hi1 : (q : Int) < (nk : Int) := by omega
          have hoa := fun w' (k' : Ok wr w') => of_w kk ep A n c xs HN.out (by omega) w' (HI.out.ok (Ok.call HOKR.out k'))
          have hob := fun w' (k' : Ok wr w') => of_w kk (ep + 1) A4 N c4 ys HYN.out (by omega) w' (HYR.out.ok k')
          rw [first_some HS1.out] at hoa
          rw [first_some HS2.out] at hob
          have hza := HSA.out kk
          have hzb := HSB.out kk
          have hcnt := HCB.out kk
          have hfk := HFIND.out kk
          have hky := key_w kk
          have hhi := HHAS.out kk
          generalize keyB kk = z at hza hzb hcnt hky
          generalize hb kk = u at hfk hhi
          obtain ⟨ra, hra⟩ : ∃ r, xs.find? (fun y => hasB y.sp kk) = r := ⟨_, rfl⟩
          obtain ⟨rb, hrb⟩ : ∃ r, ys.find? (fun y => hasB y.sp kk) = r := ⟨_, rfl⟩
          rw [hra] at hoa hza hfk
          rw [hrb] at hob hzb hfk
          clear hra hrb
          obtain ⟨al, ah, ag, ae, hva⟩ : ∃ al ah ag ae, shV (ra.getD sh0) = .agg #[.string al, .string ah, .int .i64 ag, .int .i64 ae] ∧ (ra.getD sh0).g = ag ∧ (ra.getD sh0).e = ae := ⟨_, _, _, _, rfl, rfl, rfl⟩
          obtain ⟨bl, bh, bg, be, hvb⟩ : ∃ al ah ag ae, shV (rb.getD sh0) = .agg #[.string al, .string ah, .int .i64 ag, .int .i64 ae] ∧ (rb.getD sh0).g = ag ∧ (rb.getD sh0).e = ae := ⟨_, _, _, _, rfl, rfl, rfl⟩
          have hfin : z = true → (u = true → bg = g ∧ be = ep + 1 ∧ ag ≠ g) ∧ (u = false → ag = bg ∧ ae = be) := fun hz => by
            rw [hz] at hza hzb
            obtain ⟨xa, rfl⟩ := Option.isSome_iff_exists.1 hza
            obtain ⟨xb, rfl⟩ := Option.isSome_iff_exists.1 hzb
            have := hfk xa xb rfl rfl
            simp only [Option.getD_some] at hva hvb
            rw [← hva.2.1, ← hva.2.2, ← hvb.2.1, ← hvb.2.2]
            exact this
          unfold shareV at hoa hob
          rw [hva.1, hza] at hoa
          rw [hvb.1, hzb] at hob
          clear hva hvb hza hzb hfk
          have HOA := Lib.hid hoa
          have HOB := Lib.hid hob
          have HFIN := Lib.hid hfin
          have HCNT := Lib.hid hcnt
          have HKY := Lib.hid hky
          have HHI := Lib.hid hhi
          have HSA1 := Lib.hid fun w' (k' : Ok wr w') => show w'.cell? ⟨w.heap.size, 0, none⟩ = some (.int .i64 ep) ∧ w'.cell? ⟨w.heap.size, 1, none⟩ = some (.slice A n c) ∧ w'.cell? ⟨kb, ko + q, none⟩ = some (.string kk) ∧ OkS wr w' from ⟨Ok.cell k' B0, Ok.cell k' B1, Ok.cell k' K0, k'⟩
          clear hoa hob hfin hcnt hky hhi
          go_upto_region 13 with fail
          go_cut [12, 13] from 69 to 77 (fun p v wx => ∃ b', p = .pointer (some ⟨b', 0, none⟩) ∧ v = .bool z ∧ wx.cell? ⟨b', 0, none⟩ = some (.string al) ∧ wx.cell? ⟨b', 1, none⟩ = some (.string ah) ∧ wx.cell? ⟨b', 2, none⟩ = some (.int .i64 ag) ∧ wx.cell? ⟨b', 3, none⟩ = some (.int .i64 ae) ∧ Ok wr wx)
          case first =>
            go_region_held3 (fun w' => w'.cell? ⟨w.heap.size, 0, none⟩ = some (.int .i64 ep) ∧ w'.cell? ⟨w.heap.size, 1, none⟩ = some (.slice A n c) ∧ w'.cell? ⟨kb, ko + q, none⟩ = some (.string kk) ∧ OkS wr w')
              ((refine HSA1.out _ ?_; (repeat (first | (with_reducible exact Ok.refl _) | (with_reducible assumption) | (with_reducible refine Ok.set4 ?_ (Nat.le_refl _) _ _ _ _) | (with_reducible refine Ok.drew ?_) | (with_reducible refine Ok.alloc ?_ _) | (with_reducible refine Ok.trans' ?_ (by assumption))))))
              (first
                | (go_at_call 39; (with_reducible refine (HOA.out _ ?_).mono ?_); (repeat (first | (with_reducible exact Ok.refl _) | (with_reducible assumption) | (with_reducible refine Ok.set4 ?_ (Nat.le_refl _) _ _ _ _) | (with_reducible refine Ok.drew ?_) | (with_reducible refine Ok.alloc ?_ _) | (with_reducible refine Ok.trans' ?_ (by assumption)))); rintro e w8 ⟨rfl, o8⟩; (with_reducible refine made4 (w := wr) o8 ?_); intro Z0 Z1 Z2 Z3 G0 G1 G2 G3)
                | (go_at_call 39; (with_reducible refine (HOA.out _ ?_).mono ?_); (repeat (first | (with_reducible exact Ok.refl _) | (with_reducible assumption) | (with_reducible refine Ok.set4 ?_ (Nat.le_refl _) _ _ _ _) | (with_reducible refine Ok.drew ?_) | (with_reducible refine Ok.alloc ?_ _) | (with_reducible refine Ok.trans' ?_ (by assumption)))); rintro e w8 ⟨rfl, o8⟩))
            · go_wp2
              go_meet
              exact ⟨w8.heap.size, rfl, rfl, by go_cell, by go_cell, by go_cell, by go_cell, Ok.alloc (Ok.call (Ok.drew (Ok.refl _)) o8) _⟩
            · go_wp2
              go_meet
              have st := store4 w8 wr.heap.size _ _ _ _ (.string al) (.string ah) (.int .i64 ag) (.int .i64 ae) Z0 Z1 Z2 Z3
              exact ⟨wr.heap.size, rfl, rfl, st.1, st.2.1, st.2.2.1, st.2.2.2, Ok.set4 (Ok.call (Ok.drew (Ok.alloc (Ok.refl _) _)) o8) (Nat.le_refl _) _ _ _ _⟩
          case rest =>
            obtain ⟨pa, rfl, rfl, P0, P1, P2, P3, o8⟩ := hcut
            have B0 := Ok.cell o8 B0
            have B1 := Ok.cell o8 B1
            have I0 := Ok.cell o8 I0
            have I1 := Ok.cell o8 I1
            have T0 := Ok.cell o8 T0
            have T1 := Ok.cell o8 T1
            have K0 := Ok.cell o8 K0
            have HOB2 := Lib.hid fun w' (k' : Ok wc w') => HOB.out w' (Ok.call o8 k')
            have HSB1 := Lib.hid fun w' (k' : Ok wc w') => show w'.cell? ⟨t, 0, none⟩ = some (.int .i64 (ep + 1)) ∧ w'.cell? ⟨t, 1, none⟩ = some (.slice A4 N c4) ∧ w'.cell? ⟨kb, ko + q, none⟩ = some (.string kk) ∧ OkS wc w' from ⟨Ok.cell k' T0, Ok.cell k' T1, Ok.cell k' K0, k'⟩
            have OKC := Lib.hid (Ok.call OKR.out o8)
            have HOKC := Lib.hid (Ok.call HOKR.out o8)
            have HYC := Lib.hid (HYR.out.ok o8)
            clear HOA HOB HSA1 o8
            go_upto_region 14 with fail
            go_cut [14, 15] from 78 to 86 (fun p v wx => ∃ b', p = .pointer (some ⟨b', 0, none⟩) ∧ v = .bool z ∧ wx.cell? ⟨b', 0, none⟩ = some (.string bl) ∧ wx.cell? ⟨b', 1, none⟩ = some (.string bh) ∧ wx.cell? ⟨b', 2, none⟩ = some (.int .i64 bg) ∧ wx.cell? ⟨b', 3, none⟩ = some (.int .i64 be) ∧ Ok wc wx)
            case first =>
              go_region_held3 (fun w' => w'.cell? ⟨t, 0, none⟩ = some (.int .i64 (ep + 1)) ∧ w'.cell? ⟨t, 1, none⟩ = some (.slice A4 N c4) ∧ w'.cell? ⟨kb, ko + q, none⟩ = some (.string kk) ∧ OkS wc w')
                ((refine HSB1.out _ ?_; (repeat (first | (with_reducible exact Ok.refl _) | (with_reducible assumption) | (with_reducible refine Ok.set4 ?_ (Nat.le_refl _) _ _ _ _) | (with_reducible refine Ok.drew ?_) | (with_reducible refine Ok.alloc ?_ _) | (with_reducible refine Ok.trans' ?_ (by assumption))))))
                (first
                  | (go_at_call 39; (with_reducible refine (HOB2.out _ ?_).mono ?_); (repeat (first | (with_reducible exact Ok.refl _) | (with_reducible assumption) | (with_reducible refine Ok.set4 ?_ (Nat.le_refl _) _ _ _ _) | (with_reducible refine Ok.drew ?_) | (with_reducible refine Ok.alloc ?_ _) | (with_reducible refine Ok.trans' ?_ (by assumption)))); rintro e w8 ⟨rfl, o8⟩; (with_reducible refine made4 (w := wc) o8 ?_); intro Z0 Z1 Z2 Z3 G0 G1 G2 G3)
                  | (go_at_call 39; (with_reducible refine (HOB2.out _ ?_).mono ?_); (repeat (first | (with_reducible exact Ok.refl _) | (with_reducible assumption) | (with_reducible refine Ok.set4 ?_ (Nat.le_refl _) _ _ _ _) | (with_reducible refine Ok.drew ?_) | (with_reducible refine Ok.alloc ?_ _) | (with_reducible refine Ok.trans' ?_ (by assumption)))); rintro e w8 ⟨rfl, o8⟩))
              · go_wp2
                go_meet
                exact ⟨w8.heap.size, rfl, rfl, by go_cell, by go_cell, by go_cell, by go_cell, Ok.alloc (Ok.call (Ok.drew (Ok.refl _)) o8) _⟩
              · go_wp2
                go_meet
                have st := store4 w8 wc.heap.size _ _ _ _ (.string bl) (.string bh) (.int .i64 bg) (.int .i64 be) Z0 Z1 Z2 Z3
                exact ⟨wc.heap.size, rfl, rfl, st.1, st.2.1, st.2.2.1, st.2.2.2, Ok.set4 (Ok.call (Ok.drew (Ok.alloc (Ok.refl _) _)) o8) (Nat.le_refl _) _ _ _ _⟩
            case rest =>
              obtain ⟨pb, rfl, rfl, Q0, Q1, Q2, Q3, o9⟩ := hcut
              obtain ⟨v9, rfl⟩ : ∃ v9, v9 = wc := ⟨_, rfl⟩
              have HY9 := Lib.hid (HYC.out.ok o9)
              have OK9 := Lib.hid (Ok.call OKC.out o9)
              have B0 := Ok.cell o9 B0
              have B1 := Ok.cell o9 B1
              have I0 := Ok.cell o9 I0
              have I1 := Ok.cell o9 I1
              have T0 := Ok.cell o9 T0
              have T1 := Ok.cell o9 T1
              have K0 := Ok.cell o9 K0
              have P0 := Ok.cell o9 P0
              have P1 := Ok.cell o9 P1
              have P2 := Ok.cell o9 P2
              have P3 := Ok.cell o9 P3

              clear HOB2 HSB1 OKC HOKC HYC o9
              go_wp2_with fail
              go_loopw [16, 17] (fun cn j wx => ∃ r : Nat, r ≤ N ∧ j = .int .i64 r ∧ cn = .int .i64 ((ys.take r).countP (fun y => hasB y.sp kk) : Nat) ∧ Ok v9 wx) (fun _ j _ => N - (intOf j).toNat)
              case atStart => exact ⟨0, Nat.zero_le _, rfl, rfl, Ok.refl _⟩
              case round =>
                obtain ⟨r, hr, rfl, rfl, okx⟩ := hrel
                have HY := Lib.hid (HY9.out.ok okx)
                have OKX := Lib.hid okx
                have OKW := Lib.hid (Ok.call OK9.out okx)
                have B0 := Ok.cell okx B0
                have B1 := Ok.cell okx B1
                have I0 := Ok.cell okx I0
                have I1 := Ok.cell okx I1
                have T0 := Ok.cell okx T0
                have T1 := Ok.cell okx T1
                have K0 := Ok.cell okx K0
                have P0 := Ok.cell okx P0
                have P1 := Ok.cell okx P1
                have P2 := Ok.cell okx P2
                have P3 := Ok.cell okx P3
                have Q0 := Ok.cell okx Q0
                have Q1 := Ok.cell okx Q1
                have Q2 := Ok.cell okx Q2
                have Q3 := Ok.cell okx Q3
                clear okx
                obtain ⟨cn, hcn⟩ : ∃ cn, (ys.take r).countP (fun y => hasB y.sp kk) = cn := ⟨_, rfl⟩
                have hcn60 : (cn : Int) ≤ 1000 := by
                  have h1 := List.countP_le_length (p := fun y => hasB y.sp kk) (l := ys.take r)
                  have h2 := List.length_take_le r ys
                  omega
                rw [hcn]
                by_cases hrn : r < N
                · have d4 : decide ((r : Int) < (N : Int)) = true := decide_eq_true (by omega)
                  obtain ⟨yb, yo, rfl, Y0, Y1, _, _⟩ := HY.out r (by rw [HYN.out]; exact hrn)
                  have HTK : Hid ((ys.take (r + 1)).countP (fun y => hasB y.sp kk) = cn + if hasB (at2 ys r).sp kk = true then 1 else 0) := Lib.hid (by
                    have hrl : r < ys.length := by rw [HYN.out]; exact hrn
                    rw [List.take_succ_eq_append_getElem hrl, List.countP_append, hcn, List.countP_singleton, at2_get ys r hrl])
                  have hys := has_w (at2 ys r).sp kk
                  generalize at2 ys r = y at Y0 Y1 HTK hys
                  obtain ⟨⟨yl, yh⟩, yg, ye⟩ := y
                  unfold spV at hys
                  simp only at Y0 Y1 HTK hys
                  clear hcn
                  have hj0 : (0 : Int) ≤ (r : Int) := Int.natCast_nonneg _
                  have hj1 : (r : Int) < (N : Int) := by omega
                  have kY0 := cell_regrown Y0
                  have kY1 := cell_regrown Y1
                  have kT1 := cell_regrown T1
                  have kK0 := cell_regrown K0
                  have hcn1 : (cn : Int) + 1 ≤ 1001 := by omega
                  cases h9 : hasB ⟨yl, yh⟩ kk with
                  | true =>
                    rw [h9] at hys HTK
                    have q1 : ∀ d os, Calls Try.prog 21 #[.agg #[.string yl, .string yh], .string kk] (Go.Sort.grow (redrawn wr d) os) fun e w'' => e = .returned (.bool true) ∧ ∃ p : Regrown, w'' = Go.Sort.grow (redrawn wr p.d) p.os := fun d os => Calls.regrown_of (hys _)
                    go_wp2_with fail
                    refine wp_region_quiet_below (by kernel_rfl) (by kernel_rfl) ?_
                    refine HeldU.out ?_
                    repeat (
                      refine hqU_step (fun K hK => ?_)
                      go_simp
                      first
                        | (refine hK _ ?_; clear hK K)
                        | (apply Exists.intro
                           refine ⟨fun _ => ?_, hK _ ?_⟩
                           (with_reducible exact q1 _ _)
                           clear hK K))
                    refine HeldU.mk (wpQuiet_nil ?_)
                    intro _ hw'
                    obtain ⟨⟨dq, osq⟩, hw''⟩ := hw'
                    subst hw''
                    go_wp2
                    refine ⟨⟨r + 1, hrn, rfl, by rw [HTK.out]; rfl, Ok.call OKX.out (below_regrown wr dq osq)⟩, ?_⟩
                    show N - ((r : Int) + 1).toNat < N - (r : Int).toNat
                    omega
                  | false =>
                    rw [h9] at hys HTK
                    have q1 : ∀ d os, Calls Try.prog 21 #[.agg #[.string yl, .string yh], .string kk] (Go.Sort.grow (redrawn wr d) os) fun e w'' => e = .returned (.bool false) ∧ ∃ p : Regrown, w'' = Go.Sort.grow (redrawn wr p.d) p.os := fun d os => Calls.regrown_of (hys _)
                    go_wp2_with fail
                    refine wp_region_quiet_below (by kernel_rfl) (by kernel_rfl) ?_
                    refine HeldU.out ?_
                    repeat (
                      refine hqU_step (fun K hK => ?_)
                      go_simp
                      first
                        | (refine hK _ ?_; clear hK K)
                        | (apply Exists.intro
                           refine ⟨fun _ => ?_, hK _ ?_⟩
                           (with_reducible exact q1 _ _)
                           clear hK K))
                    refine HeldU.mk (wpQuiet_nil ?_)
                    intro _ hw'
                    obtain ⟨⟨dq, osq⟩, hw''⟩ := hw'
                    subst hw''
                    go_wp2
                    refine ⟨⟨r + 1, hrn, rfl, by rw [HTK.out]; rfl, Ok.call OKX.out (below_regrown wr dq osq)⟩, ?_⟩
                    show N - ((r : Int) + 1).toNat < N - (r : Int).toNat
                    omega
                · have d4 : decide ((r : Int) < (N : Int)) = false := decide_eq_false (by omega)
                  have hfull := HCNT.out
                  rw [← List.take_of_length_le (show ys.length ≤ r by rw [HYN.out]; omega), hcn] at hfull
                  have hky := HKY.out
                  have hfin := HFIN.out
                  cases z with
                  | false =>
                    rw [if_neg (by simp)] at hfull
                    subst hfull
                    clear hcn hcn60 hfin
                    go_wp2_with fail
                    refine (hky _).mono ?_
                    rintro _ w10 ⟨rfl, o10⟩
                    go_wp2
                    refine ⟨⟨q + 1, hlt, rfl, Ok.call OKW.out o10⟩, ?_⟩
                    show nk - ((q : Int) + 1).toNat < nk - (q : Int).toNat
                    omega
                  | true =>
                    rw [if_pos rfl] at hfull
                    subst hfull
                    clear hcn hcn60
                    go_wp2_with fail
                    refine (hky _).mono ?_
                    rintro _ w10 ⟨rfl, o10⟩
                    have B0 := Ok.cell o10 B0
                    have B1 := Ok.cell o10 B1
                    have I0 := Ok.cell o10 I0
                    have I1 := Ok.cell o10 I1
                    have T0 := Ok.cell o10 T0
                    have T1 := Ok.cell o10 T1
                    have K0 := Ok.cell o10 K0
                    have P0 := Ok.cell o10 P0
                    have P1 := Ok.cell o10 P1
                    have P2 := Ok.cell o10 P2
                    have P3 := Ok.cell o10 P3
                    have Q0 := Ok.cell o10 Q0
                    have Q1 := Ok.cell o10 Q1
                    have Q2 := Ok.cell o10 Q2
                    have Q3 := Ok.cell o10 Q3
                    have OK10 := Lib.hid (Ok.call OKW.out o10)
                    clear o10
                    have hhi := HHI.out
                    have kI0 := cell_regrown I0
                    have kI1 := cell_regrown I1
                    have kK0 := cell_regrown K0
                    have q1 : ∀ d os, Calls Try.prog 21 #[.agg #[.string il, .string ih], .string kk] (Go.Sort.grow (redrawn w10 d) os) fun e w'' => e = .returned (.bool u) ∧ ∃ p : Regrown, w'' = Go.Sort.grow (redrawn w10 p.d) p.os := fun d os => Calls.regrown_of (hhi _)
                    have hfin := hfin (by trivial)
                    go_wp2_with fail
                    refine wp_region_quiet_below (by kernel_rfl) (by kernel_rfl) ?_
                    refine HeldU.out ?_
                    repeat (
                      refine hqU_step (fun K hK => ?_)
                      go_simp
                      first
                        | (refine hK _ ?_; clear hK K)
                        | (apply Exists.intro
                           refine ⟨fun _ => ?_, hK _ ?_⟩
                           (with_reducible exact q1 _ _)
                           clear hK K))
                    refine HeldU.mk (wpQuiet_nil ?_)
                    intro _ hw'
                    obtain ⟨⟨dq, osq⟩, hw''⟩ := hw'
                    subst hw''
                    have oq : Ok w10 (Go.Sort.grow (redrawn w10 dq) osq) := below_regrown w10 dq osq
                    generalize Go.Sort.grow (redrawn w10 dq) osq = w11 at oq ⊢
                    clear q1 kI0 kI1 kK0
                    have B0 := Ok.cell oq B0
                    have B1 := Ok.cell oq B1
                    have I0 := Ok.cell oq I0
                    have I1 := Ok.cell oq I1
                    have T0 := Ok.cell oq T0
                    have T1 := Ok.cell oq T1
                    have K0 := Ok.cell oq K0
                    have P0 := Ok.cell oq P0
                    have P1 := Ok.cell oq P1
                    have P2 := Ok.cell oq P2
                    have P3 := Ok.cell oq P3
                    have Q0 := Ok.cell oq Q0
                    have Q1 := Ok.cell oq Q1
                    have Q2 := Ok.cell oq Q2
                    have Q3 := Ok.cell oq Q3
                    have OK11 := Lib.hid (Ok.call OK10.out oq)
                    clear oq
                    cases u with
                    | true =>
                      obtain ⟨e1, e2, e3⟩ := hfin.1 (by trivial)
                      subst e1 e2
                      have d6 : decide (ag = bg) = false := decide_eq_false e3
                      have d7 : (ag == bg) = false := beq_eq_false_iff_ne.2 e3
                      go_wp2
                      refine ⟨⟨q + 1, hlt, rfl, OK11.out⟩, ?_⟩
                      show nk - ((q : Int) + 1).toNat < nk - (q : Int).toNat
                      omega
                    | false =>
                      obtain ⟨e1, e2⟩ := hfin.2 (by trivial)
                      subst e1 e2
                      go_wp2
                      refine ⟨⟨q + 1, hlt, rfl, OK11.out⟩, ?_⟩
                      show nk - ((q : Int) + 1).toNat < nk - (q : Int).toNat
                      omega
        · have d3 : decide ((q : Int) < (nk : Int)) = false := decide_eq_false (by omega)
          go_wp2
          go_ret
          exact ⟨rfl, HOKR.out⟩
end Go.Proofs.Ytneipmgkphdfkaa
