/- The law FrameBehind, walked. -/
import Derived.Test.YtpebnlddmjfomaaDoorFn
namespace Go.Proofs.YtpebnlddmjfomaaDoor
open Go.RowKit
theorem OwnF.nilcap {w : World} {B : Nat} {A : Option Addr} {n c : Nat} {xs : List Fr} (h : OwnF w B A n c xs) (e : A = none) : c = 0 := by
  obtain ⟨_, cs, h1, _⟩ := h
  rcases h1.2 with ⟨e2, _⟩ | ⟨g, cap, cur, e2, _⟩
  · simp only [Value.slice.injEq] at e2; exact e2.2.2
  · simp only [Value.slice.injEq] at e2; rw [e2.1] at e; cases e
theorem row_empty (w : World) : (w.alloc (.cells #[] 28)).ownsRow w.heap.size 28 2 (.slice (some ⟨w.heap.size, 0, none⟩) 0 0) 0 [] :=
  ⟨rfl, .inr ⟨w.heap.size, 0, #[], rfl, Nat.le_refl _, heap_alloc_new w _, Nat.le_refl _, Nat.zero_le _, rfl, rfl⟩⟩
set_option maxRecDepth 100000 in
set_option maxHeartbeats 8000000 in
theorem behind_w (w : World) (ht : Tab w) (A : Option Addr) (n c : Nat) (l : List Fr) (hn : l.length = n) (hA0 : A = none → c = 0) (B : Option Addr) (m d : Nat) (bs : List B8) (hm : bs.length = m) (hB : BytesIn w (.slice B m d) bs) (hI : FramesAt w A l) :
    Calls Tryd.prog 6 #[.slice A n c, .slice B m d] w (Ret w (.bool true)) := by
  have HAW := Lib.hid (awake_w w ht)
  have HI := Lib.hid hI
  have HN := Lib.hid hn
  have HM := Lib.hid hm
  have HT := Lib.hid ht
  have HB := Lib.hid hB
  have HA0 := Lib.hid hA0
  have hcap := hB.cap.2
  have HG := Lib.hid (fun V (k : Ok w V) => great_w A n c l hn V (hI.ok k))
  clear hI hn hm ht hB hA0
  go_enter Tryd.func6, Tryd.ntmps6
  go_wp2_with fail
  (with_reducible refine HAW.out.mono ?_)
  rintro _ w1 ⟨rfl, o1⟩
  have HO1 := Lib.hid o1
  clear o1 HAW
  go_wp2_with fail
  (with_reducible refine (HG.out _ HO1.out).mono ?_)
  rintro _ w2 ⟨⟨r, rfl, hr⟩, o2⟩
  have HO2 := Lib.hid (Ok.trans HO1.out o2)
  clear o2 HG HO1
  cases r with
  | true =>
    go_wp2_with fail
    go_ret
    exact ⟨rfl, HO2.out⟩
  | false =>
    obtain ⟨h8, h80⟩ := hr rfl
    rw [HN.out] at h8
    clear hr
    by_cases hm8 : 8000 < m
    · have d1 : decide ((8000 : Int) < (m : Int)) = true := decide_eq_true (by omega)
      go_wp2_with fail
      go_ret
      exact ⟨rfl, HO2.out⟩
    · have d1 : decide ((8000 : Int) < (m : Int)) = false := decide_eq_false (by omega)
      have HGT := Lib.hid (fun V (k : Ok w V) => get_w B m d bs HM.out (by omega) V (HT.out.ok k) (k.bytes HB.out))
      go_wp2_with fail
      (with_reducible refine (HGT.out _ HO2.out).mono ?_)
      rintro _ w3 ⟨Ax, nx, cx, xs, r, rfl, hG, hF, o3⟩
      have HO3 := Lib.hid (Ok.trans HO2.out o3)
      have HF3 := Lib.hid hF
      have HGX := Lib.hid hG
      have hxl : (putL xs).length + r.length = m := by rw [← HM.out, hG.2.1, List.length_append]
      have hxc := putL_count xs
      have hnx := hF.1
      have HPE : Hid (putErr xs = 0) := Lib.hid ((putErr_all xs).2 hG.1)
      have HPM : Hid (putM xs = putL xs) := Lib.hid (by unfold putM; rw [if_pos HPE.out])
      have HTK : Hid (bs.take (putL xs).length = putL xs) := Lib.hid (by rw [hG.2.1]; exact List.take_left)
      have HPX := Lib.hid (put_w Ax nx cx xs hF.1.symm (by omega) (by omega) w3 (HT.out.ok (Ok.trans HO2.out o3)) hF.at)
      clear hG hF o3 HGT HO2
      generalize hq : (putL xs).length = q at *
      have HQ := Lib.hid hq
      have HXC : Hid (9 * xs.length ≤ 8000) := Lib.hid (by omega)
      clear hq hxc hnx
      unfold PutP at HPX
      rw [HPE.out, HPM.out, HQ.out] at HPX
      go_wp2_with fail
      (with_reducible refine HPX.out.mono ?_)
      rintro _ w4 ⟨A4, c4, rfl, hO4, o4⟩
      have HO4 := Lib.hid (Ok.trans HO3.out o4)
      have HO34 := Lib.hid o4
      have hqm : q ≤ m := by omega
      have hb4 := hO4.bytes (by rw [HQ.out]; omega)
      have hbt := bytes_take (N := q) (HO4.out.bytes HB.out) (by rw [HM.out]; exact hqm)
      rw [HTK.out] at hbt
      have HSB := Lib.hid (sameBytes_v _ _ (putL xs) w4 hb4 hbt)
      have s1 := low23 B m d q (by omega)
      clear hO4 o4 hb4 hbt HPX
      have d2 : decide ((q : Int) < 0) = false := decide_eq_false (by omega)
      have d3 : decide (m < q) = false := decide_eq_false (by omega)
      have d3i : decide ((m : Int) < (q : Int)) = false := decide_eq_false (by omega)
      go_wp2_with fail
      (with_reducible refine HSB.out.mono ?_)
      rintro _ w5 ⟨rfl, o5⟩
      have HO5 := Lib.hid (Ok.trans HO4.out o5)
      have HO35 := Lib.hid (Ok.trans HO34.out o5)
      clear o5 HSB HO4 HO34 s1 d2 d3 d3i HTK
      have HPL := Lib.hid (fun V (k : Ok w V) => put_w A n c l HN.out (by omega) (by omega) V (HT.out.ok k) (HI.out.ok k))
      go_wp2_with fail
      (with_reducible refine (HPL.out _ HO5.out).mono ?_)
      rintro _ w6 ⟨A6, c6, rfl, hO6, o6⟩
      have HO6 := Lib.hid (Ok.trans HO5.out o6)
      have HO36 := Lib.hid (Ok.trans HO35.out o6)
      by_cases he : putErr l = 0
      · have hpm : putM l = putL l := by unfold putM; rw [if_pos he]
        have HALL := Lib.hid ((putErr_all l).1 he)
        rw [hpm] at hO6 ⊢
        rw [he]
        have HO6N := Lib.hid hO6
        have HPL80 : Hid ((putL l).length ≤ 80000) := Lib.hid h80
        have HBL : Hid ((putL l).length + bs.length ≤ 140737488351232) := Lib.hid (by have := HM.out; omega)
        have HBI := Lib.hid (HO6.out.bytes HB.out)
        have HBB : Hid (w5.heap.size ≤ w6.heap.size) := Lib.hid o6.size
        clear hO6 o6 he hpm HPL h80
        generalize hL : (putL l).length = L at *
        have HL := Lib.hid hL
        clear hL
        go_wp2_with (at_builtin; go_must (refine wpList_appG rfl (.tmp 60) (.tmp 61) rfl w5.heap.size _ (putL l) bs _ rfl rfl HO6N.out HBI.out (by rw [HL.out]; exact HBL.out) HBB.out ?_; intro A7 n7 c7 w7 ho7 hb7 hg7; have HO7N := Lib.hid ho7; have HB7 := Lib.hid hb7; clear ho7 hb7 hg7))
        have hn7 := HO7N.out.len
        have HO7 : Hid (Ok w w7) := Lib.hid (Below.trans HO6.out (HB7.out.mono HO5.out.size))
        have HO37 : Hid (Ok w3 w7) := Lib.hid (Below.trans HO36.out (HB7.out.mono HO35.out.size))
        have HG7 := Lib.hid (get_w A7 n7 c7 (putL l ++ bs) hn7.symm (by rw [hn7, List.length_append]; have := HPL80.out; have := HL.out; have := HM.out; omega) w7 (HT.out.ok HO7.out) (HO7N.out.bytes (by rw [List.length_append, HL.out]; exact HBL.out)))
        clear hn7 HO7N HB7 HO6N HBI HBB HBL HO6 HO36
        (with_reducible refine HG7.out.mono ?_)
        rintro _ w8 ⟨Ay, ny, cy, ys, r8, rfl, hG8, hF8, o8⟩
        obtain ⟨rfl, -⟩ := got_uniq (got_behind HGX.out HALL.out) hG8
        have HO8 := Lib.hid (Ok.trans HO7.out o8)
        have HO38 := Lib.hid (Ok.trans HO37.out o8)
        have HF8 := Lib.hid hF8.at
        have hny := hF8.1
        have HLY : Hid ((putL (l ++ xs)).length = L + q) := Lib.hid (by rw [putL_append, List.length_append, HL.out, HQ.out])
        clear hG8 hF8 o8 HG7 HO7 HO37
        generalize (putL (l ++ xs)).length = M8 at *
        obtain ⟨cl, hcl, hkl⟩ := frames_cells (HI.out.ok HO8.out)
        obtain ⟨cx2, hcx, hkx⟩ := frames_cells (HF3.out.at.ok HO38.out)
        have HCL := Lib.hid hcl
        have HCX := Lib.hid hcx
        have HKL := Lib.hid hkl
        have HKX := Lib.hid hkx
        have HNX := Lib.hid HF3.out.1
        have HNY : Hid (ny = n + nx) := Lib.hid (by rw [hny, List.length_append, HN.out, HNX.out])
        have hn18 : n ≤ 8000 := h8
        have hx18 : nx ≤ 1000 := by have := HNX.out; have := HXC.out; omega
        clear hcl hcx hkl hkx hny
        have hcast : ((M8 : Int) == (L : Int) + (q : Int)) = true := by have := HLY.out; simp; omega
        have hL0 : (0 : Int) ≤ (L : Int) := Int.natCast_nonneg _
        have hq0 : (0 : Int) ≤ (q : Int) := Int.natCast_nonneg _
        have hL1 : (L : Int) ≤ 80000 := by have := HPL80.out; omega
        have hq1 : (q : Int) ≤ 8000 := by omega
        have HE0 := Lib.hid (row_empty w8)
        have l1 : cl.length = n * 2 := by rw [HCL.out.1, HN.out]
        have l2 : cx2.length = nx * 2 := by rw [HCX.out.1, HNX.out]
        have HL1 := Lib.hid l1
        have HL2 := Lib.hid l2
        clear l1 l2
        have HKL2 : Hid (∀ j u, cl[j]? = some u → ∃ b off, A = some ⟨b, off, none⟩ ∧ (w8.alloc (.cells #[] 28)).cell? ⟨b, off + j, none⟩ = some u) := Lib.hid (fun j u hu => by obtain ⟨b, off, e, h⟩ := HKL.out j u hu; exact ⟨b, off, e, Ok.cell ((Ok.refl _).alloc _) h⟩)
        have HB1 : Hid (0 + n ≤ 1000000) := Lib.hid (by omega)
        have HB2 : Hid (0 + n + nx ≤ 1000000) := Lib.hid (by omega)
        have HNC := Lib.hid HF3.out.nilcap
        have HAS : Hid (w8.heap.size ≤ (w8.alloc (.cells #[] 28)).heap.size) := Lib.hid ((Ok.refl w8).alloc _).size
        clear HKL
        go_wp2_with (at_builtin; first | (refine wpList_appC (by rfl) (.tmp 76) (.tmp 77) rfl w8.heap.size _ N9 ([] ++ cl) rfl HR9.out Ax nx cx cx2 rfl HL2.out HNC.out HK9.out HCX.out.2.1 HN9.out HS9.out ?_; intro A10 N10 c10 w10 hN10 hr10 hb10; have HR10 := Lib.hid hr10; have HB10 : Hid (Ok w8 w10) := Lib.hid (Below.trans HB9.out hb10); have HN10 := Lib.hid hN10; clear hr10 hb10 hN10) | (go_must (refine wpList_appC (by rfl) (.tmp 74) (.tmp 75) rfl w8.heap.size _ 0 [] rfl HE0.out A n c cl rfl HL1.out HA0.out HKL2.out HCL.out.2.1 HB1.out HAS.out ?_; intro A9 N9 c9 w9 hN9 hr9 hb9; have HN9 : Hid (N9 + nx ≤ 1000000) := Lib.hid (by rw [hN9]; exact HB2.out); have HM9 := Lib.hid hN9; have HR9 := Lib.hid hr9; have HB9 : Hid (Ok w8 w9) := Lib.hid (Below.trans ((Ok.refl w8).alloc _) hb9); have HS9 : Hid (w8.heap.size ≤ w9.heap.size) := Lib.hid HB9.out.size; have HK9 : Hid (∀ j u, cx2[j]? = some u → ∃ b off, Ax = some ⟨b, off, none⟩ ∧ w9.cell? ⟨b, off + j, none⟩ = some u) := Lib.hid (fun j u hu => by obtain ⟨b, off, e, h⟩ := HKX.out j u hu; exact ⟨b, off, e, Ok.cell HB9.out h⟩); clear hN9 hr9 hb9)))
        have hr10 := HR10.out
        rw [List.nil_append] at hr10
        obtain rfl : N10 = ny := by have h1 := HN10.out; have h2 := HM9.out; have h3 := HNY.out; omega
        have hf10 : FramesAt w10 A10 (l ++ xs) := ((HCL.out.append HCX.out).ok HB10.out).at hr10
        have hly : (l ++ xs).length = N10 := by rw [List.length_append, HN.out, HNX.out.symm]; exact HNY.out.symm
        have HEQ := Lib.hid (equal_w Ay A10 N10 cy c10 (l ++ xs) hly (by rw [HNY.out]; omega) w10 (HF8.out.ok HB10.out) hf10)
        have HOF := Lib.hid (Ok.trans HO8.out HB10.out)
        clear hr10 hf10 hly
        (with_reducible refine HEQ.out.mono ?_)
        rintro _ w11 ⟨rfl, o11⟩
        have HO11 := Lib.hid (Ok.trans HOF.out o11)
        clear o11 HEQ
        go_wp2_with fail
        go_ret
        exact ⟨rfl, HO11.out⟩
      · have hpm : putM l = [] := by unfold putM; rw [if_neg he]
        have d5 : (putErr l != 0) = true := by simp [he]
        rw [hpm] at hO6 ⊢
        clear hO6 o6 hpm he
        generalize putErr l = ec at *
        go_wp2_with fail
        go_ret
        exact ⟨rfl, HO6.out⟩
end Go.Proofs.YtpebnlddmjfomaaDoor
