/- The law SharesTells, walked. -/
import Derived.Test.YtdabdkedgigjdaaGreatWa
import Derived.Test.YtdabdkedgigjdaaGreatSl
import Derived.Test.YtdabdkedgigjdaaGreatSw
import Derived.Deep.CutRange
import Derived.Test.YtdabdkedgigjdaaGreatSy
namespace Go.Proofs.YtdabdkedgigjdaaGreat
open Go.RowKit
theorem keys_at {b : Nat} {w : World} {Ak : Option Addr} {nk ck : Nat} {ks : List Str} (h : StrsN b w (.slice Ak nk ck) ks) (hn : ks.length = nk) : ∀ j, j < nk → ∃ b off, Ak = some ⟨b, off, none⟩ ∧ w.cell? ⟨b, off + j, none⟩ = some (.string (at0 ks j)) := fun j hj => by
  rcases h with ⟨rfl, A, c, e, hA⟩ | ⟨b, off, c, e, _, hm, hc⟩
  · simp at hn; omega
  · simp only [Value.slice.injEq] at e
    exact ⟨b, off, e.1, hc j (by omega)⟩
theorem made4z {w w8 : World} (k' : Ok (w.alloc (.cells #[.string ⟨#[]⟩, .string ⟨#[]⟩, .int .i64 0, .int .i64 0] 35)).drew w8) :
    (w8.cell? ⟨w.heap.size, 0, none⟩ = some (.string ⟨#[]⟩) ∧ w8.cell? ⟨w.heap.size, 1, none⟩ = some (.string ⟨#[]⟩) ∧ w8.cell? ⟨w.heap.size, 2, none⟩ = some (.int .i64 0) ∧ w8.cell? ⟨w.heap.size, 3, none⟩ = some (.int .i64 0)) ∧ (w8.frozen? ⟨w.heap.size, 0, none⟩ = false ∧ w8.frozen? ⟨w.heap.size, 1, none⟩ = false ∧ w8.frozen? ⟨w.heap.size, 2, none⟩ = false ∧ w8.frozen? ⟨w.heap.size, 3, none⟩ = false) := by
  generalize hV : (w.alloc (.cells #[.string ⟨#[]⟩, .string ⟨#[]⟩, .int .i64 0, .int .i64 0] 35)).drew = V at k'
  have Z0 : V.cell? ⟨w.heap.size, 0, none⟩ = some (.string ⟨#[]⟩) := by subst hV; go_cell
  have Z1 : V.cell? ⟨w.heap.size, 1, none⟩ = some (.string ⟨#[]⟩) := by subst hV; go_cell
  have Z2 : V.cell? ⟨w.heap.size, 2, none⟩ = some (.int .i64 0) := by subst hV; go_cell
  have Z3 : V.cell? ⟨w.heap.size, 3, none⟩ = some (.int .i64 0) := by subst hV; go_cell
  have F0 : V.frozen? ⟨w.heap.size, 0, none⟩ = false := by subst hV; go_cell
  have F1 : V.frozen? ⟨w.heap.size, 1, none⟩ = false := by subst hV; go_cell
  have F2 : V.frozen? ⟨w.heap.size, 2, none⟩ = false := by subst hV; go_cell
  have F3 : V.frozen? ⟨w.heap.size, 3, none⟩ = false := by subst hV; go_cell
  exact ⟨⟨Ok.cell k' Z0, Ok.cell k' Z1, Ok.cell k' Z2, Ok.cell k' Z3⟩, (Below.frozen k' (World.block_lt_of_cell? _ _ Z0)).trans F0, (Below.frozen k' (World.block_lt_of_cell? _ _ Z1)).trans F1, (Below.frozen k' (World.block_lt_of_cell? _ _ Z2)).trans F2, (Below.frozen k' (World.block_lt_of_cell? _ _ Z3)).trans F3⟩
theorem turn_len (ep : Int) (xs : List Sh) (i : Sp) (g : Int) : (turnM ep xs i g).2.length ≤ 90000 := by
  unfold turnM
  split
  · split
    · simp
    · split
      · simp
      · split
        · simp
        · rename_i h1 h2
          simp only at *
          omega
  · simp
theorem groups_len (ep : Int) (xs : List Sh) (ks : List Str) (h : ks.length ≤ 1000) : (groupsM ep xs ks).1.length ≤ 90000 := by
  unfold groupsM
  split
  · have := Lib.compact_length_le (sortI (ks.map (groupOf xs)))
    rw [sortI_len, List.length_map] at this
    simp only
    omega
  · simp
theorem shares_front {w : World} {A : Option Addr} {xs zs : List Sh} (h : SharesAt w A (xs ++ zs)) : SharesAt w A xs := fun j hj => by
  have := h j (by rw [List.length_append]; omega)
  rwa [at2, List.getElem?_append_left hj] at this
/-- Two blocks with a slice of shares each; one with a share. -/
def Two (w : World) (p : Nat) (ep : Int) (A : Option Addr) (n c : Nat) : Prop := w.cell? ⟨p, 0, none⟩ = some (.int .i64 ep) ∧ w.cell? ⟨p, 1, none⟩ = some (.slice A n c)
def Four (w : World) (p : Nat) (x : Sh) : Prop := w.cell? ⟨p, 0, none⟩ = some (.string x.sp.lo) ∧ w.cell? ⟨p, 1, none⟩ = some (.string x.sp.hi) ∧ w.cell? ⟨p, 2, none⟩ = some (.int .i64 x.g) ∧ w.cell? ⟨p, 3, none⟩ = some (.int .i64 x.e)
def FourAt (wq : World) (x : Sh) (b : Bool) (vp vo : Value) (wx : World) : Prop := ∃ p, vp = .pointer (some ⟨p, 0, none⟩) ∧ vo = .bool b ∧ Four wx p x ∧ Ok wq wx
theorem Two.ok {w w' : World} {p : Nat} {ep : Int} {A : Option Addr} {n c : Nat} (h : Two w p ep A n c) (k : Ok w w') : Two w' p ep A n c := ⟨Ok.cell k h.1, Ok.cell k h.2⟩
theorem Four.ok {w w' : World} {p : Nat} {x : Sh} (h : Four w p x) (k : Ok w w') : Four w' p x := ⟨Ok.cell k h.1, Ok.cell k h.2.1, Ok.cell k h.2.2.1, Ok.cell k h.2.2.2⟩
theorem Two.new (w : World) (ep : Int) (A : Option Addr) (n c : Nat) : Two (w.alloc (.cells #[.int .i64 ep, .slice A n c] 24)) w.heap.size ep A n c := ⟨by go_cell, by go_cell⟩
theorem Four.new (w : World) (x : Sh) : Four (w.alloc (.cells #[.string x.sp.lo, .string x.sp.hi, .int .i64 x.g, .int .i64 x.e] 35)) w.heap.size x := ⟨by go_cell, by go_cell, by go_cell, by go_cell⟩

set_option maxRecDepth 100000 in
set_option maxHeartbeats 4000000 in
theorem tells_w (ep : Int) (A : Option Addr) (n c : Nat) (xs : List Sh) (i : Sp) (g : Int) (vk : Value) (ks : List Str) (hn : xs.length = n) (hA0 : A = none → c = 0) (w : World) (hI : SharesAt w A xs) (hk : StrsN w.heap.size w vk ks) :
    Calls Tryz.prog 3 #[.agg #[.int .i64 ep, .slice A n c], spV i, .int .i64 g, vk] w (Ret w (.bool true)) := by
  obtain ⟨Ak, ck, rfl⟩ := hk.form
  have HI := Lib.hid hI
  have HN := Lib.hid hn
  have HK := Lib.hid hk
  clear hI hn hk
  obtain ⟨nk, hnk⟩ : ∃ n, ks.length = n := ⟨_, rfl⟩
  rw [hnk] at HK ⊢
  have HNK := Lib.hid hnk
  clear hnk
  obtain ⟨il, ih⟩ := i
  unfold spV
  simp only
  obtain ⟨p, hp⟩ : ∃ p, w.heap.size = p := ⟨_, rfl⟩
  go_enter Tryz.func3, Tryz.ntmps3
  go_wp2_with fail
  generalize hW : (w.alloc (.cells #[.int .i64 ep, .slice A n c] 24)).alloc (.cells #[.string il, .string ih] 26) = W
  have B0 : W.cell? ⟨p, 0, none⟩ = some (.int .i64 ep) := by subst hW; subst hp; go_cell
  have B1 : W.cell? ⟨p, 1, none⟩ = some (.slice A n c) := by subst hW; subst hp; go_cell
  have I0 : W.cell? ⟨p + 1, 0, none⟩ = some (.string il) := by subst hW; subst hp; go_cell
  have I1 : W.cell? ⟨p + 1, 1, none⟩ = some (.string ih) := by subst hW; subst hp; go_cell
  have oW : Ok w W := by subst hW; exact Ok.alloc (Ok.alloc (Ok.refl w) _) _
  clear hW
  (with_reducible refine (awake2_w W).mono ?_)
  rintro _ w1 ⟨rfl, o1⟩
  replace B0 := Ok.cell o1 B0; replace B1 := Ok.cell o1 B1; replace I0 := Ok.cell o1 I0; replace I1 := Ok.cell o1 I1
  have ok1 := Lib.hid (Ok.call oW o1)
  clear o1 oW
  have HS := Lib.hid fun w' (k' : Ok w1 w') => show w'.cell? ⟨p, 0, none⟩ = some (.int .i64 ep) ∧ w'.cell? ⟨p, 1, none⟩ = some (.slice A n c) ∧ w'.cell? ⟨p + 1, 0, none⟩ = some (.string il) ∧ w'.cell? ⟨p + 1, 1, none⟩ = some (.string ih) ∧ OkS w1 w' from ⟨Ok.cell k' B0, Ok.cell k' B1, Ok.cell k' I0, Ok.cell k' I1, k'⟩
  have HOW := Lib.hid (two_own w1.drew il ih)
  have HKD : Hid (StrsN w.heap.size (w1.drew.alloc (.cells #[.string il, .string ih] 9)) (.slice Ak nk ck) ks) := Lib.hid (HK.out.below (Ok.alloc (Ok.drew ok1.out) _))
  have HG := Lib.hid fun w' (k' : Ok w1 w') v zs b hz => great_w ep A n c xs v zs b HN.out w' (HI.out.ok (Ok.call ok1.out k')) hz
  go_wp2_with fail
  go_region_held3 (fun w' => w'.cell? ⟨p, 0, none⟩ = some (.int .i64 ep) ∧ w'.cell? ⟨p, 1, none⟩ = some (.slice A n c) ∧ w'.cell? ⟨p + 1, 0, none⟩ = some (.string il) ∧ w'.cell? ⟨p + 1, 1, none⟩ = some (.string ih) ∧ OkS w1 w')
    ((refine HS.out _ ?_; (repeat (first | (with_reducible exact Ok.refl _) | (with_reducible assumption) | (with_reducible refine Ok.drew ?_) | (with_reducible refine Ok.alloc ?_ _) | (with_reducible refine Ok.trans' ?_ (by assumption))))))
    (first
      | (refine step_appTs (by rfl) _ _ (by rfl) w1.drew.heap.size _ [il, ih] ks _ w.heap.size (by rfl) (by rfl) HOW.out HKD.out (by simp) (by simp) ?_; intro A2 n2 c2 w2 hown2 hb2; have o12 : Ok w1 w2 := (Below.trans (Ok.alloc (Ok.drew (Ok.refl w1)) (.cells #[.string il, .string ih] 9)) hb2))
      | (go_at_call 9; (with_reducible refine (HG.out _ o12 _ _ _ hown2.strs).mono ?_); rintro e w3 ⟨⟨r, rfl, hr1⟩, o3⟩))
  have o13 : Ok w1 w3 := Ok.trans' o12 o3
  have ok3 := Lib.hid (Ok.call ok1.out o13)
  have HR1 := Lib.hid hr1
  replace B0 := Ok.cell o13 B0; replace B1 := Ok.cell o13 B1; replace I0 := Ok.cell o13 I0; replace I1 := Ok.cell o13 I1
  clear hown2 hb2 HOW HKD HG HS o12 o3 hr1 o13 ok1
  cases r with
  | true =>
    go_wp2
    go_ret
    exact ⟨rfl, ok3.out⟩
  | false =>
  obtain ⟨hn60, hm60⟩ := HR1.out rfl
  have hnk : nk ≤ 60 := by have := HNK.out; simp only [List.length_append, List.length_cons, List.length_nil] at hm60; omega
  clear hm60 HR1
  have hlt := lentShares_w ep A n c xs HN.out (by omega) w3 (HI.out.ok ok3.out) hA0
  unfold LentP at hlt
  rw [HN.out] at hlt
  have HLT := Lib.hid hlt
  clear hlt
  go_wp2_with fail
  (with_reducible refine HLT.out.mono ?_)
  rintro _ w4 ⟨gx, cx, rfl, hcx, hgx, hgx4, o4, hatx⟩
  have HAX := Lib.hid hatx
  have HGX := Lib.hid (And.intro hgx (And.intro hgx4 hcx))
  replace B0 := Ok.cell o4 B0; replace B1 := Ok.cell o4 B1; replace I0 := Ok.cell o4 I0; replace I1 := Ok.cell o4 I1
  have ok4 := Lib.hid (Ok.call ok3.out o4)
  clear hatx hgx hgx4 hcx o4 HLT ok3
  go_upto_region 6 with fail
  obtain ⟨px, hpx⟩ : ∃ q, w4.heap.size = q := ⟨_, rfl⟩
  have HX := Lib.hid (Two.new w4 ep (some ⟨gx, 0, none⟩) n cx)
  rw [hpx] at HX ⊢
  have oa := Ok.alloc (Ok.refl w4) (.cells #[.int .i64 ep, .slice (some ⟨gx, 0, none⟩) n cx] 24)
  generalize w4.alloc (.cells #[.int .i64 ep, .slice (some ⟨gx, 0, none⟩) n cx] 24) = V4 at HX oa ⊢
  replace B0 := Ok.cell oa B0; replace B1 := Ok.cell oa B1; replace I0 := Ok.cell oa I0; replace I1 := Ok.cell oa I1
  have okV4 := Lib.hid (Ok.call ok4.out oa)
  have HAXV := Lib.hid (HAX.out.ok oa)
  clear oa ok4 HAX
  -- x, s, in, of all: what the calls tell
  have HXS : Hid (∀ w', Ok V4 w' → SharesAt w' (some ⟨gx, 0, none⟩) xs ∧ SharesAt w' A xs) := Lib.hid fun w' k => ⟨(shares_front HAXV.out).ok k, HI.out.ok (Ok.call okV4.out k)⟩
  have HTA := Lib.hid (fun w' (k : Ok V4 w') => turn_w ep (some ⟨gx, 0, none⟩) n cx xs ⟨il, ih⟩ g HN.out (by omega) (by have := HGX.out; omega) w' (HXS.out w' k).1)
  have HTB := Lib.hid (fun w' (k : Ok V4 w') => rturn_w ep A n c xs ⟨il, ih⟩ g HN.out (by omega) w' (HXS.out w' k).2)
  have HIA := Lib.hid (fun w' (k : Ok V4 w') => in_w2 ⟨il, ih⟩ ep (some ⟨gx, 0, none⟩) n cx xs HN.out (by omega) w' (HXS.out w' k).1)
  have HIB := Lib.hid (fun w' (k : Ok V4 w') => rin_w ⟨il, ih⟩ ep A n c xs HN.out (by omega) w' (HXS.out w' k).2)
  have HGA := Lib.hid (fun w' (k : Ok V4 w') => groups_w ep (some ⟨gx, 0, none⟩) n cx xs (.slice Ak nk ck) ks w.heap.size HN.out (by omega) (by have := HNK.out; omega) w' (HXS.out w' k).1 (HK.out.below (Ok.call okV4.out k)).strs)
  have HGB := Lib.hid (fun w' (k : Ok V4 w') => rgroups_w ep A n c xs Ak nk ck ks HN.out (by omega) HNK.out (by omega) w' (HXS.out w' k).2 (keys_at (HK.out.below (Ok.call okV4.out k)) HNK.out))
  rw [rturn_eq] at HTB
  generalize hRR : turnM ep xs ⟨il, ih⟩ g = R at HTA HTB
  generalize firstM ep xs (fun x => withinB ⟨il, ih⟩ x.sp) = F at HIA HIB
  generalize hGG : groupsM ep xs ks = G at HGA HGB
  have HMB : Hid (R.2.length ≤ 90000) := Lib.hid (by rw [← hRR]; exact turn_len _ _ _ _)
  have HGB1 : Hid (G.1.length ≤ 90000) := Lib.hid (by rw [← hGG]; exact groups_len _ _ _ (by have := HNK.out; omega))
  clear hRR hGG
  obtain ⟨rk, rys⟩ := R
  obtain ⟨gl, gb⟩ := G
  unfold TurnPost at HTA HTB
  unfold GroupsPost at HGA HGB
  unfold shareV at HIA HIB
  generalize F.getD sh0 = y at HIA HIB
  generalize F.isSome = yb at HIA HIB
  obtain ⟨⟨yl, yh⟩, yg, ye⟩ := y
  unfold shV at HIA HIB
  unfold spV at HTA HTB HIA HIB
  simp only at HTA HTB HIA HIB HGA HGB
  generalize (if rk = 0 then ep + 1 else 0) = E at HTA HTB
  obtain ⟨m, hm⟩ : ∃ m, rys.length = m := ⟨_, rfl⟩
  obtain ⟨gn, hgn⟩ : ∃ m, gl.length = m := ⟨_, rfl⟩
  simp only at HMB HGB1
  rw [hm] at HTA HTB HMB
  rw [hgn] at HGA HGB HGB1
  have HM := Lib.hid hm
  have HGN := Lib.hid hgn
  clear hm hgn
  obtain ⟨X0, X1⟩ := HX.out
  have HP4 := Lib.hid (And.intro (And.intro B0 B1) (And.intro X0 X1))
  -- a
  go_wp2_with fail
  (with_reducible refine (HTA.out V4 (Ok.refl _)).mono ?_)
  rintro _ w5 ⟨A5, c5, rfl, hown5, o5⟩
  obtain ⟨pv, hpv⟩ : ∃ q, V4.heap.size = q := ⟨_, rfl⟩
  have HO5 := Lib.hid hown5
  replace B0 := Ok.cell o5 B0; replace B1 := Ok.cell o5 B1; replace I0 := Ok.cell o5 I0; replace I1 := Ok.cell o5 I1; replace X0 := Ok.cell o5 X0; replace X1 := Ok.cell o5 X1
  clear hown5 HTA
  go_upto_region 7 with fail
  obtain ⟨pa, hpa⟩ : ∃ q, w5.heap.size = q := ⟨_, rfl⟩
  have HA := Lib.hid (Two.new w5 E A5 m c5)
  rw [hpa] at HA ⊢
  have oa := Ok.alloc (Ok.refl w5) (.cells #[.int .i64 E, .slice A5 m c5] 24)
  generalize w5.alloc (.cells #[.int .i64 E, .slice A5 m c5] 24) = V5 at HA oa ⊢
  replace B0 := Ok.cell oa B0; replace B1 := Ok.cell oa B1; replace I0 := Ok.cell oa I0; replace I1 := Ok.cell oa I1; replace X0 := Ok.cell oa X0; replace X1 := Ok.cell oa X1
  have okV5 := Lib.hid (Ok.call o5 oa)
  have HO5 := Lib.hid (HO5.out.ok oa)
  clear oa o5
  -- b
  go_wp2_with fail
  (with_reducible refine (HTB.out V5 okV5.out).mono ?_)
  rintro _ w6 ⟨A6, c6, rfl, hown6, o6⟩
  have HO6 := Lib.hid hown6.at
  replace B0 := Ok.cell o6 B0; replace B1 := Ok.cell o6 B1; replace I0 := Ok.cell o6 I0; replace I1 := Ok.cell o6 I1; replace X0 := Ok.cell o6 X0; replace X1 := Ok.cell o6 X1
  clear hown6 HTB
  go_upto_region 8 with fail
  obtain ⟨pb, hpb⟩ : ∃ q, w6.heap.size = q := ⟨_, rfl⟩
  have HB := Lib.hid (Two.new w6 E A6 m c6)
  rw [hpb] at HB ⊢
  have oa := Ok.alloc (Ok.refl w6) (.cells #[.int .i64 E, .slice A6 m c6] 24)
  generalize w6.alloc (.cells #[.int .i64 E, .slice A6 m c6] 24) = V6 at HB oa ⊢
  replace B0 := Ok.cell oa B0; replace B1 := Ok.cell oa B1; replace I0 := Ok.cell oa I0; replace I1 := Ok.cell oa I1; replace X0 := Ok.cell oa X0; replace X1 := Ok.cell oa X1
  have okV6 := Lib.hid (Ok.call okV5.out (Ok.call o6 oa))
  have HO6 := Lib.hid (HO6.out.ok oa)
  have HO5 := Lib.hid (HO5.out.ok (Ok.call o6 oa))
  have HA := Lib.hid (HA.out.ok (Ok.call o6 oa))
  clear oa o6 okV5
  -- c
  go_wp2_with fail
  (with_reducible refine (HIA.out V6 okV6.out).mono ?_)
  rintro _ w7 ⟨rfl, o7⟩
  replace B0 := Ok.cell o7 B0; replace B1 := Ok.cell o7 B1; replace I0 := Ok.cell o7 I0; replace I1 := Ok.cell o7 I1; replace X0 := Ok.cell o7 X0; replace X1 := Ok.cell o7 X1
  clear HIA
  go_upto_region 9 with fail
  obtain ⟨pc, hpc⟩ : ∃ q, w7.heap.size = q := ⟨_, rfl⟩
  have HC := Lib.hid (Four.new w7 ⟨⟨yl, yh⟩, yg, ye⟩)
  simp only at HC
  rw [hpc] at HC ⊢
  have oa := Ok.alloc (Ok.refl w7) (.cells #[.string yl, .string yh, .int .i64 yg, .int .i64 ye] 35)
  generalize w7.alloc (.cells #[.string yl, .string yh, .int .i64 yg, .int .i64 ye] 35) = V7 at HC oa ⊢
  replace B0 := Ok.cell oa B0; replace B1 := Ok.cell oa B1; replace I0 := Ok.cell oa I0; replace I1 := Ok.cell oa I1; replace X0 := Ok.cell oa X0; replace X1 := Ok.cell oa X1
  have o67 := Ok.call o7 oa
  have okV7 := Lib.hid (Ok.call okV6.out o67)
  have HO6 := Lib.hid (HO6.out.ok o67)
  have HO5 := Lib.hid (HO5.out.ok o67)
  have HA := Lib.hid (HA.out.ok o67)
  have HB := Lib.hid (HB.out.ok o67)
  clear oa o7 o67 okV6
  -- d
  go_wp2_with fail
  (with_reducible refine (HIB.out V7 okV7.out).mono ?_)
  rintro _ w8 ⟨rfl, o8⟩
  replace B0 := Ok.cell o8 B0; replace B1 := Ok.cell o8 B1; replace I0 := Ok.cell o8 I0; replace I1 := Ok.cell o8 I1; replace X0 := Ok.cell o8 X0; replace X1 := Ok.cell o8 X1
  clear HIB
  go_upto_region 10 with fail
  obtain ⟨pd, hpd⟩ : ∃ q, w8.heap.size = q := ⟨_, rfl⟩
  have HD := Lib.hid (Four.new w8 ⟨⟨yl, yh⟩, yg, ye⟩)
  simp only at HD
  rw [hpd] at HD ⊢
  have oa := Ok.alloc (Ok.refl w8) (.cells #[.string yl, .string yh, .int .i64 yg, .int .i64 ye] 35)
  generalize w8.alloc (.cells #[.string yl, .string yh, .int .i64 yg, .int .i64 ye] 35) = V8 at HD oa ⊢
  replace B0 := Ok.cell oa B0; replace B1 := Ok.cell oa B1; replace I0 := Ok.cell oa I0; replace I1 := Ok.cell oa I1; replace X0 := Ok.cell oa X0; replace X1 := Ok.cell oa X1
  have o78 := Ok.call o8 oa
  have okV8 := Lib.hid (Ok.call okV7.out o78)
  have HO6 := Lib.hid (HO6.out.ok o78)
  have HO5 := Lib.hid (HO5.out.ok o78)
  have HA := Lib.hid (HA.out.ok o78)
  have HB := Lib.hid (HB.out.ok o78)
  have HC := Lib.hid (HC.out.ok o78)
  clear oa o8 o78 okV7
  -- groups
  go_wp2_with fail
  (with_reducible refine (HGA.out V8 okV8.out).mono ?_)
  rintro _ w9 ⟨A9, c9, rfl, hown9, o9⟩
  replace B0 := Ok.cell o9 B0; replace B1 := Ok.cell o9 B1; replace I0 := Ok.cell o9 I0; replace I1 := Ok.cell o9 I1; replace X0 := Ok.cell o9 X0; replace X1 := Ok.cell o9 X1
  have HI9 := Lib.hid hown9.rd
  have okV9 := Lib.hid (Ok.call okV8.out o9)
  clear hown9 HGA
  go_wp2_with fail
  (with_reducible refine (HGB.out w9 okV9.out).mono ?_)
  rintro _ w10 ⟨A10, c10, rfl, hown10, o10⟩
  replace B0 := Ok.cell o10 B0; replace B1 := Ok.cell o10 B1; replace I0 := Ok.cell o10 I0; replace I1 := Ok.cell o10 I1; replace X0 := Ok.cell o10 X0; replace X1 := Ok.cell o10 X1
  have HI10 := Lib.hid hown10.rd
  have HI9 := Lib.hid (HI9.out.ok o10)
  have o810 := Ok.call o9 o10
  have HO6 := Lib.hid (HO6.out.ok o810)
  have HO5 := Lib.hid (HO5.out.ok o810)
  have HA := Lib.hid (HA.out.ok o810)
  have HB := Lib.hid (HB.out.ok o810)
  have HC := Lib.hid (HC.out.ok o810)
  have HD := Lib.hid (HD.out.ok o810)
  have okX := Lib.hid (Ok.call okV9.out o10)
  clear hown10 HGB o9 o10 o810 okV9 okV8
  have hl40 : m ≤ 90000 := by have := HMB.out; omega
  have HSA := Lib.hid (fun w' (k : Ok w10 w') => sameShares_w E A5 A6 m c5 c6 rys HM.out (by omega) w' (HO5.out.at.ok k) (HO6.out.ok k))
  have HSI := Lib.hid (fun w' (k : Ok w10 w') => sameInts_w A9 A10 gn c9 c10 gl HGN.out (by have := HGB1.out; omega) w' (HI9.out.ok k) (HI10.out.ok k))
  have HRA := Lib.hid (fun w' (k : Ok w10 w') => sharesRight_w ep (some ⟨gx, 0, none⟩) n cx xs HN.out (by omega) w' (HXS.out w' (Ok.call okX.out k)).1)
  have HRB := Lib.hid (fun w' (k : Ok w10 w') => rsharesRight_w ep A n c xs HN.out (by omega) w' (HXS.out w' (Ok.call okX.out k)).2)
  generalize sharesB ep xs = sb at HRA HRB
  have HFA := Lib.hid (fun w' => first_w g w')
  have HFB := Lib.hid (fun w' => rfirst_w g w')
  unfold FirstPost at HFA HFB
  obtain ⟨A0, A1⟩ := HA.out
  obtain ⟨Bb0, Bb1⟩ := HB.out
  obtain ⟨C0, C1, C2, C3⟩ := HC.out
  obtain ⟨D0, D1, D2, D3⟩ := HD.out
  simp only at C0 C1 C2 C3 D0 D1 D2 D3
  have HSQ := Lib.hid fun w' (k' : Ok w10 w') => show w'.cell? ⟨p, 0, none⟩ = some (.int .i64 ep) ∧ w'.cell? ⟨p, 1, none⟩ = some (.slice A n c) ∧ w'.cell? ⟨px, 0, none⟩ = some (.int .i64 ep) ∧ w'.cell? ⟨px, 1, none⟩ = some (.slice (some ⟨gx, 0, none⟩) n cx) ∧ w'.cell? ⟨pa, 0, none⟩ = some (.int .i64 E) ∧ w'.cell? ⟨pa, 1, none⟩ = some (.slice A5 m c5) ∧ w'.cell? ⟨pb, 0, none⟩ = some (.int .i64 E) ∧ w'.cell? ⟨pb, 1, none⟩ = some (.slice A6 m c6) ∧ w'.cell? ⟨pc, 0, none⟩ = some (.string yl) ∧ w'.cell? ⟨pc, 1, none⟩ = some (.string yh) ∧ w'.cell? ⟨pc, 2, none⟩ = some (.int .i64 yg) ∧ w'.cell? ⟨pc, 3, none⟩ = some (.int .i64 ye) ∧ w'.cell? ⟨pd, 0, none⟩ = some (.string yl) ∧ w'.cell? ⟨pd, 1, none⟩ = some (.string yh) ∧ w'.cell? ⟨pd, 2, none⟩ = some (.int .i64 yg) ∧ w'.cell? ⟨pd, 3, none⟩ = some (.int .i64 ye) ∧ OkS w10 w' from ⟨Ok.cell k' B0, Ok.cell k' B1, Ok.cell k' X0, Ok.cell k' X1, Ok.cell k' A0, Ok.cell k' A1, Ok.cell k' Bb0, Ok.cell k' Bb1, Ok.cell k' C0, Ok.cell k' C1, Ok.cell k' C2, Ok.cell k' C3, Ok.cell k' D0, Ok.cell k' D1, Ok.cell k' D2, Ok.cell k' D3, k'⟩
  go_upto_region 12 with fail
  go_cut [122] from 78 to 122 (fun v wx => v = .bool false ∧ Ok w10 wx)
  case first =>
    go_region_held3 (fun w' => w'.cell? ⟨p, 0, none⟩ = some (.int .i64 ep) ∧ w'.cell? ⟨p, 1, none⟩ = some (.slice A n c) ∧ w'.cell? ⟨px, 0, none⟩ = some (.int .i64 ep) ∧ w'.cell? ⟨px, 1, none⟩ = some (.slice (some ⟨gx, 0, none⟩) n cx) ∧ w'.cell? ⟨pa, 0, none⟩ = some (.int .i64 E) ∧ w'.cell? ⟨pa, 1, none⟩ = some (.slice A5 m c5) ∧ w'.cell? ⟨pb, 0, none⟩ = some (.int .i64 E) ∧ w'.cell? ⟨pb, 1, none⟩ = some (.slice A6 m c6) ∧ w'.cell? ⟨pc, 0, none⟩ = some (.string yl) ∧ w'.cell? ⟨pc, 1, none⟩ = some (.string yh) ∧ w'.cell? ⟨pc, 2, none⟩ = some (.int .i64 yg) ∧ w'.cell? ⟨pc, 3, none⟩ = some (.int .i64 ye) ∧ w'.cell? ⟨pd, 0, none⟩ = some (.string yl) ∧ w'.cell? ⟨pd, 1, none⟩ = some (.string yh) ∧ w'.cell? ⟨pd, 2, none⟩ = some (.int .i64 yg) ∧ w'.cell? ⟨pd, 3, none⟩ = some (.int .i64 ye) ∧ OkS w10 w')
      ((refine HSQ.out _ ?_; (repeat (first | (with_reducible exact Ok.refl _) | (with_reducible assumption) | (with_reducible refine Ok.drew ?_) | (with_reducible refine Ok.alloc ?_ _) | (with_reducible refine Ok.trans' ?_ (by assumption))))))
      (first
        | (go_at_call 17; (with_reducible refine (HSA.out _ (by (repeat (first | (with_reducible exact Ok.refl _) | (with_reducible assumption) | (with_reducible refine Ok.drew ?_) | (with_reducible refine Ok.alloc ?_ _) | (with_reducible refine Ok.trans' ?_ (by assumption)))))).mono ?_); rintro e wa ⟨rfl, oa⟩)
        | (go_at_call 18; (with_reducible refine (HSI.out _ (by (repeat (first | (with_reducible exact Ok.refl _) | (with_reducible assumption) | (with_reducible refine Ok.drew ?_) | (with_reducible refine Ok.alloc ?_ _) | (with_reducible refine Ok.trans' ?_ (by assumption)))))).mono ?_); rintro e wb ⟨rfl, ob⟩)
        | (go_at_call 19; (with_reducible refine (HRA.out _ (by (repeat (first | (with_reducible exact Ok.refl _) | (with_reducible assumption) | (with_reducible refine Ok.drew ?_) | (with_reducible refine Ok.alloc ?_ _) | (with_reducible refine Ok.trans' ?_ (by assumption)))))).mono ?_); rintro e wc ⟨rfl, oc⟩)
        | (go_at_call 20; (with_reducible refine (HRB.out _ (by (repeat (first | (with_reducible exact Ok.refl _) | (with_reducible assumption) | (with_reducible refine Ok.drew ?_) | (with_reducible refine Ok.alloc ?_ _) | (with_reducible refine Ok.trans' ?_ (by assumption)))))).mono ?_); rintro e wd ⟨rfl, od⟩)
        | (go_at_call 21; (with_reducible refine (HFA.out _).mono ?_); rintro e we ⟨h1, rfl, hownE, oe⟩)
        | (go_at_call 22; (with_reducible refine (HFB.out _).mono ?_); rintro e wf ⟨h2, rfl, hownF, off⟩)
        | (go_at_call 17; (with_reducible refine (sameShares_w 1 (some ⟨h1, 0, none⟩) (some ⟨h2, 0, none⟩) 1 1 1 [⟨allS, firstG g, 1⟩] rfl (by decide) _ ((hownE.ok off).at) hownF.at).mono ?_); rintro e wg ⟨rfl, og⟩))
    all_goals (go_wp2_with fail; go_meet)
    exact ⟨by first | rfl | simp, by (repeat (first | (with_reducible exact Ok.refl _) | (with_reducible assumption) | (with_reducible refine Ok.drew ?_) | (with_reducible refine Ok.alloc ?_ _) | (with_reducible refine Ok.trans' ?_ (by assumption))))⟩
  case rest =>
    obtain ⟨rfl, ocut⟩ := hcut
    obtain ⟨wy, hwy⟩ : ∃ v, v = wc := ⟨_, rfl⟩
    subst hwy
    have HO5 := Lib.hid (HO5.out.ok ocut)
    have okX := Lib.hid (Ok.call okX.out ocut)
    replace B0 := Ok.cell ocut B0; replace B1 := Ok.cell ocut B1; replace X0 := Ok.cell ocut X0; replace X1 := Ok.cell ocut X1; replace A0 := Ok.cell ocut A0; replace A1 := Ok.cell ocut A1
    clear ocut HSQ HSA HSI HRA HRB HFA HFB HO6 HI9 HI10 HA HB HC HD Bb0 Bb1 C0 C1 C2 C3 D0 D1 D2 D3 HX I0 I1
    have HOA := Lib.hid (fun kk w' (k : Ok V4 w') => of_w kk ep (some ⟨gx, 0, none⟩) n cx xs HN.out (by omega) w' (HXS.out w' k).1)
    have HOB := Lib.hid (fun kk w' (k : Ok V4 w') => rof_w kk ep A n c xs HN.out (by omega) w' (HXS.out w' k).2)
    have HKC := Lib.hid (fun w' (k : Ok V4 w') => keys_at (HK.out.below (Ok.call okV4.out k)) HNK.out)
    have HP01 := Lib.hid (And.intro (And.intro B0 B1) (And.intro (And.intro X0 X1) (And.intro A0 A1)))
    clear B0 B1 X0 X1 A0 A1
    go_upto_region 15 with fail
    go_loopw [22] (fun i wr => ∃ k : Nat, k ≤ nk ∧ i = .int .i64 k ∧ Ok wy wr) (fun i _ => nk - (intOf i).toNat)
    case atStart => exact ⟨0, Nat.zero_le _, rfl, Ok.refl _⟩
    case round =>
      obtain ⟨k, hk, rfl, okr⟩ := hrel
      have OKR := Lib.hid okr
      obtain ⟨⟨B0, B1⟩, ⟨X0, X1⟩, A0, A1⟩ := HP01.out
      replace B0 := Ok.cell okr B0; replace B1 := Ok.cell okr B1; replace X0 := Ok.cell okr X0; replace X1 := Ok.cell okr X1; replace A0 := Ok.cell okr A0; replace A1 := Ok.cell okr A1
      clear okr
      by_cases hlt : k < nk
      · have d1 : decide ((k : Int) < (nk : Int)) = true := decide_eq_true (by omega)
        have hj0 : (0 : Int) ≤ (k : Int) := Int.natCast_nonneg _
        have hj1 : (k : Int) < (nk : Int) := by omega
        have hj2 : (k : Int) < 60 := by omega
        have HJ := Lib.hid (And.intro hj0 (And.intro hj1 hj2))
        obtain ⟨bl, off, rfl, hc⟩ := HKC.out wr (Ok.call okX.out OKR.out) k hlt
        generalize at0 ks k = key at hc
        have HOFA := Lib.hid (fun w' (k' : Ok wr w') => HOA.out key w' (Ok.call okX.out (Ok.call OKR.out k')))
        have HOFB0 := Lib.hid (fun w' (k' : Ok wr w') => HOB.out key w' (Ok.call okX.out (Ok.call OKR.out k')))
        unfold shareV at HOFA HOFB0
        generalize firstM ep xs (fun x => hasB x.sp key) = F at HOFA HOFB0
        generalize F.getD sh0 = y at HOFA HOFB0
        generalize F.isSome = ob at HOFA HOFB0
        obtain ⟨⟨ol, oh⟩, og, oe⟩ := y
        unfold shV at HOFA HOFB0
        simp only at HOFA HOFB0
        clear A0 A1
        have HSQ := Lib.hid fun w' (k' : Ok wr w') => show w'.cell? ⟨px, 0, none⟩ = some (.int .i64 ep) ∧ w'.cell? ⟨px, 1, none⟩ = some (.slice (some ⟨gx, 0, none⟩) n cx) ∧ w'.cell? ⟨bl, off + k, none⟩ = some (.string key) ∧ OkS wr w' from ⟨Ok.cell k' X0, Ok.cell k' X1, Ok.cell k' hc, k'⟩
        have HD0 : Hid (Ok wr wr.drew) := Lib.hid (Ok.drew (Ok.refl _))
        have HDA : Hid (Ok wr (wr.alloc (.cells #[.string ⟨#[]⟩, .string ⟨#[]⟩, .int .i64 0, .int .i64 0] 35)).drew) := Lib.hid (Ok.drew (Ok.alloc (Ok.refl _) _))
        have HZW : Hid (∀ w', Ok (wr.alloc (.cells #[.string ⟨#[]⟩, .string ⟨#[]⟩, .int .i64 0, .int .i64 0] 35)).drew w' → (w'.cell? ⟨wr.heap.size, 0, none⟩ = some (.string ⟨#[]⟩) ∧ w'.cell? ⟨wr.heap.size, 1, none⟩ = some (.string ⟨#[]⟩) ∧ w'.cell? ⟨wr.heap.size, 2, none⟩ = some (.int .i64 0) ∧ w'.cell? ⟨wr.heap.size, 3, none⟩ = some (.int .i64 0)) ∧ (w'.frozen? ⟨wr.heap.size, 0, none⟩ = false ∧ w'.frozen? ⟨wr.heap.size, 1, none⟩ = false ∧ w'.frozen? ⟨wr.heap.size, 2, none⟩ = false ∧ w'.frozen? ⟨wr.heap.size, 3, none⟩ = false)) := Lib.hid fun w' k' => made4z k'
        go_upto_region 17 with fail
        go_cut [23, 24] from 123 to 154 (fun vp vo wx => FourAt wr ⟨⟨ol, oh⟩, og, oe⟩ ob vp vo wx)
        case first =>
          go_region_held3 (fun w' => w'.cell? ⟨px, 0, none⟩ = some (.int .i64 ep) ∧ w'.cell? ⟨px, 1, none⟩ = some (.slice (some ⟨gx, 0, none⟩) n cx) ∧ w'.cell? ⟨bl, off + k, none⟩ = some (.string key) ∧ OkS wr w')
            ((refine HSQ.out _ ?_; (repeat (first | (with_reducible exact Ok.refl _) | (with_reducible assumption) | (with_reducible refine Ok.drew ?_) | (with_reducible refine Ok.alloc ?_ _) | (with_reducible refine Ok.trans' ?_ (by assumption)) | (refine Ok.set ?_ (by first | (simp; done) | (have h9 := o5.size; simp at h9; simp; omega)) _)))))
            (first
              | (go_at_call 23; (with_reducible refine (HOFA.out wr.drew HD0.out).mono ?_); rintro e w5 ⟨rfl, o5⟩)
              | (go_at_call 23; (with_reducible refine (HOFA.out (wr.alloc (.cells #[.string ⟨#[]⟩, .string ⟨#[]⟩, .int .i64 0, .int .i64 0] 35)).drew HDA.out).mono ?_); rintro e w5 ⟨rfl, o5⟩; obtain ⟨⟨Z0, Z1, Z2, Z3⟩, F0, F1, F2, F3⟩ := HZW.out _ o5))
          all_goals (go_wp2_with fail; go_meet)
          · exact ⟨_, rfl, rfl, Four.new w5 ⟨⟨ol, oh⟩, og, oe⟩, Ok.alloc (Ok.trans' HD0.out o5) _⟩
          · have st := store4 w5 wr.heap.size _ _ _ _ (.string ol) (.string oh) (.int .i64 og) (.int .i64 oe) Z0 Z1 Z2 Z3
            exact ⟨_, rfl, rfl, st, Ok.set4 (Ok.trans' HDA.out o5) (Nat.le_refl _) _ _ _ _⟩
        case rest =>
          obtain ⟨q1, rfl, rfl, hF1, oc⟩ := hcut
          obtain ⟨wv, hwv⟩ : ∃ v, v = wc := ⟨_, rfl⟩
          subst hwv
          have HF1 := Lib.hid hF1
          have OKV := Lib.hid oc
          replace B0 := Ok.cell oc B0; replace B1 := Ok.cell oc B1; replace hc := Ok.cell oc hc
          clear hF1 oc HSQ HD0 HDA HZW X0 X1
          have HOFB := Lib.hid (fun w' (k' : Ok wv w') => HOFB0.out w' (Ok.call OKV.out k'))
          clear HOFB0 HOFA
          have HSQ := Lib.hid fun w' (k' : Ok wv w') => show w'.cell? ⟨p, 0, none⟩ = some (.int .i64 ep) ∧ w'.cell? ⟨p, 1, none⟩ = some (.slice A n c) ∧ w'.cell? ⟨bl, off + k, none⟩ = some (.string key) ∧ OkS wv w' from ⟨Ok.cell k' B0, Ok.cell k' B1, Ok.cell k' hc, k'⟩
          have HD0 : Hid (Ok wv wv.drew) := Lib.hid (Ok.drew (Ok.refl _))
          have HDA : Hid (Ok wv (wv.alloc (.cells #[.string ⟨#[]⟩, .string ⟨#[]⟩, .int .i64 0, .int .i64 0] 35)).drew) := Lib.hid (Ok.drew (Ok.alloc (Ok.refl _) _))
          have HZW : Hid (∀ w', Ok (wv.alloc (.cells #[.string ⟨#[]⟩, .string ⟨#[]⟩, .int .i64 0, .int .i64 0] 35)).drew w' → (w'.cell? ⟨wv.heap.size, 0, none⟩ = some (.string ⟨#[]⟩) ∧ w'.cell? ⟨wv.heap.size, 1, none⟩ = some (.string ⟨#[]⟩) ∧ w'.cell? ⟨wv.heap.size, 2, none⟩ = some (.int .i64 0) ∧ w'.cell? ⟨wv.heap.size, 3, none⟩ = some (.int .i64 0)) ∧ (w'.frozen? ⟨wv.heap.size, 0, none⟩ = false ∧ w'.frozen? ⟨wv.heap.size, 1, none⟩ = false ∧ w'.frozen? ⟨wv.heap.size, 2, none⟩ = false ∧ w'.frozen? ⟨wv.heap.size, 3, none⟩ = false)) := Lib.hid fun w' k' => made4z k'
          go_upto_region 18 with fail
          go_cut [25, 26] from 123 to 154 (fun vp vo wx => FourAt wv ⟨⟨ol, oh⟩, og, oe⟩ ob vp vo wx)
          case first =>
            go_region_held3 (fun w' => w'.cell? ⟨p, 0, none⟩ = some (.int .i64 ep) ∧ w'.cell? ⟨p, 1, none⟩ = some (.slice A n c) ∧ w'.cell? ⟨bl, off + k, none⟩ = some (.string key) ∧ OkS wv w')
              ((refine HSQ.out _ ?_; (repeat (first | (with_reducible exact Ok.refl _) | (with_reducible assumption) | (with_reducible refine Ok.drew ?_) | (with_reducible refine Ok.alloc ?_ _) | (with_reducible refine Ok.trans' ?_ (by assumption)) | (refine Ok.set ?_ (by first | (simp; done) | (have h9 := o5.size; simp at h9; simp; omega)) _)))))
              (first
                | (go_at_call 24; (with_reducible refine (HOFB.out wv.drew HD0.out).mono ?_); rintro e w5 ⟨rfl, o5⟩)
                | (go_at_call 24; (with_reducible refine (HOFB.out (wv.alloc (.cells #[.string ⟨#[]⟩, .string ⟨#[]⟩, .int .i64 0, .int .i64 0] 35)).drew HDA.out).mono ?_); rintro e w5 ⟨rfl, o5⟩; obtain ⟨⟨Z0, Z1, Z2, Z3⟩, F0, F1, F2, F3⟩ := HZW.out _ o5))
            all_goals (go_wp2_with fail; go_meet)
            · exact ⟨_, rfl, rfl, Four.new w5 ⟨⟨ol, oh⟩, og, oe⟩, Ok.alloc (Ok.trans' HD0.out o5) _⟩
            · have st := store4 w5 wv.heap.size _ _ _ _ (.string ol) (.string oh) (.int .i64 og) (.int .i64 oe) Z0 Z1 Z2 Z3
              exact ⟨_, rfl, rfl, st, Ok.set4 (Ok.trans' HDA.out o5) (Nat.le_refl _) _ _ _ _⟩
          case rest =>
            obtain ⟨q2, rfl, rfl, hF2, oc⟩ := hcut
            obtain ⟨wu, hwu⟩ : ∃ v, v = wc := ⟨_, rfl⟩
            subst hwu
            obtain ⟨Y0, Y1, Y2, Y3⟩ := HF1.out.ok oc
            obtain ⟨T0, T1, T2, T3⟩ := hF2
            simp only at Y0 Y1 Y2 Y3 T0 T1 T2 T3
            have OKU := Lib.hid (Ok.call OKR.out (Ok.call OKV.out oc))
            obtain ⟨hj0, hj1, hj2⟩ := HJ.out
            clear oc HSQ HD0 HDA HZW B0 B1 HF1 HOFB
            go_wp2
            refine ⟨⟨k + 1, hlt, by go_num, OKU.out⟩, ?_⟩
            show nk - ((k : Int) + 1).toNat < nk - (k : Int).toNat
            omega
      · have d1 : decide ((k : Int) < (nk : Int)) = false := decide_eq_false (by omega)
        have hrow : RowV wr pv A5 m c5 := by
          rw [← hpv]
          exact (HO5.out.row (by have := HMB.out; omega)).ok OKR.out
        have HROW := Lib.hid hrow
        have OVR := Lib.hid (Ok.call okX.out OKR.out)
        have hpz : pv ≤ wr.heap.size := by rw [← hpv]; exact OVR.out.size
        have HPV := Lib.hid hpv
        clear hrow B0 B1 X0 X1
        go_wp2_with fail
        (with_reducible refine (overShares_w E A5 m c5 pv wr hpz HROW.out).mono ?_)
        rintro _ wo ⟨rfl, hbel⟩
        have oVo : Ok V4 wo := Below.trans OVR.out (by rw [HPV.out]; exact hbel)
        obtain ⟨⟨B0, B1⟩, X0, X1⟩ := HP4.out
        replace B0 := Ok.cell oVo B0; replace B1 := Ok.cell oVo B1; replace X0 := Ok.cell oVo X0; replace X1 := Ok.cell oVo X1
        have HKP := Lib.hid (keptShares_w ep gx cx A n c xs HN.out (by omega) wo HGX.out.2.2 (HAXV.out.ok oVo) (HXS.out wo oVo).2)
        have OVO := Lib.hid (Ok.call okV4.out oVo)
        clear hbel oVo
        go_wp2_with fail
        (with_reducible refine HKP.out.mono ?_)
        rintro _ wl ⟨rfl, ol⟩
        go_wp2
        go_ret
        exact ⟨rfl, Ok.call OVO.out ol⟩
end Go.Proofs.YtdabdkedgigjdaaGreat
