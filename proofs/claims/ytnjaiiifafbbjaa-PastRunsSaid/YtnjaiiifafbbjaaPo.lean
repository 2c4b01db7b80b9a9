/- The law PastGrows, where there are too many names, or one is not right. -/
import Derived.Test.YtnjaiiifafbbjaaPn
namespace Go.Proofs.Ytnjaiiifafbbjaa
open Go.RowKit

set_option maxRecDepth 100000 in
set_option maxHeartbeats 4000000 in
theorem pg_big (A B : Option Addr) (na nb ca cb : Nat) (x : Int) (w : World) (hla : na ≤ 140737488351232) (hlb : nb ≤ 140737488351232) (hbig : 1000 < na + nb) :
    Calls Try.prog 9 #[.slice A na ca, .slice B nb cb, .int .i64 x] w (Ret w (.bool true)) := by
  have d1 : decide ((1000 : Int) < (na : Int) + (nb : Int)) = true := decide_eq_true (by omega)
  go_enter Try.func9, Try.ntmps9
  go_wp2_with fail
  refine (awake_w _).mono ?_
  rintro _ w1 ⟨rfl, o1⟩
  go_wp2
  go_ret
  exact ⟨rfl, o1⟩

set_option maxRecDepth 100000 in
set_option maxHeartbeats 8000000 in
theorem pg_bad (A B : Option Addr) (na nb ca cb : Nat) (xs ys : List Nm) (x : Int) (w : World) (hna : xs.length = na) (hnb : ys.length = nb) (hA0 : A = none → ca = 0) (hB0 : B = none → cb = 0) (hIA : NamesAt w A xs) (hIB : NamesAt w B ys) (hle : na + nb ≤ 1000) (hbad : (allB xs && allB ys) = false) :
    Calls Try.prog 9 #[.slice A na ca, .slice B nb cb, .int .i64 x] w (Ret w (.bool true)) := by
  have d1 : decide ((1000 : Int) < (na : Int) + (nb : Int)) = false := decide_eq_false (by omega)
  have HNA := Lib.hid hna
  have HNB := Lib.hid hnb
  have HA0 := Lib.hid hA0
  have HB0 := Lib.hid hB0
  have HIA := Lib.hid hIA
  have HIB := Lib.hid hIB
  have HBAD : Hid (allB (xs ++ ys) = false) := Lib.hid (by rw [allB_append]; exact hbad)
  have HRA : Hid (∀ w', Ok w w' → Calls Try.prog 46 #[.slice A na ca] w' (Ret w' (.bool (allB xs)))) := Lib.hid fun w' o => Right_w A na ca xs hna (by omega) w' (hIA.ok o)
  have HRB : Hid (∀ w', Ok w w' → Calls Try.prog 46 #[.slice B nb cb] w' (Ret w' (.bool (allB ys)))) := Lib.hid fun w' o => Right_w B nb cb ys hnb (by omega) w' (hIB.ok o)
  clear hna hnb hA0 hB0 hIA hIB
  cases hx : allB xs with
  | false =>
    rw [hx] at HRA
    clear hbad hx HRB
    go_enter Try.func9, Try.ntmps9
    go_wp2_with fail
    refine (awake_w _).mono ?_
    rintro _ w1 ⟨rfl, o1⟩
    go_wp2_with fail
    refine (HRA.out _ o1).mono ?_
    rintro _ w2 ⟨rfl, o2⟩
    have O2 := Lib.hid (Ok.trans o1 o2)
    clear o1 o2
    go_wp2_with fail
    refine (new_p _).mono ?_
    rintro _ w3 ⟨rfl, hp3, o3, hs3⟩
    obtain ⟨p, hp⟩ : ∃ p, w2.heap.size = p := ⟨_, rfl⟩
    rw [hp] at hp3 ⊢
    have HP3 := Lib.hid hp3
    have O3 := Lib.hid (Ok.trans O2.out o3)
    have hps : p < w3.heap.size := by omega
    have hwp : w.heap.size ≤ p := by have := O2.out.size; omega
    clear hp3 o3 hs3 hp O2
    have HM := Lib.hid (OwnNm.made w3)
    have OM : Hid (Ok w3 (w3.alloc (.cells #[] 115))) := Lib.hid (Ok.alloc (Ok.refl _) _)
    go_wp2_with (at_builtin; go_must (first
      | (refine wpList_appN rfl (.tmp 38) (.tmp 39) rfl w3.heap.size _ _ _ [] rfl HM.out A na ca xs rfl HNA.out HA0.out (HIA.out.ok (Ok.trans O3.out OM.out)) (by simp; omega) (by simp) ?_; intro A4 c4 w4 hown4 hbel4; simp only [List.nil_append, Nat.zero_add] at hown4 ⊢; have HOWN4 := Lib.hid hown4; have O4 : Hid (Ok w3 w4) := Lib.hid (Below.trans OM.out hbel4); clear hown4 hbel4)
      | (refine wpList_appN rfl (.tmp 40) (.tmp 41) rfl w3.heap.size _ _ _ xs rfl HOWN4.out B nb cb ys rfl HNB.out HB0.out (HIB.out.ok (Ok.trans O3.out O4.out)) (by rw [HNA.out]; omega) O4.out.size ?_; intro A5 c5 w5 hown5 hbel5; have HOWN5 := Lib.hid hown5; have O5 : Hid (Ok w3 w5) := Lib.hid (Below.trans O4.out hbel5); clear hown5 hbel5)))
    obtain ⟨hat, hab⟩ := HOWN5.out.at
    have HP5 := Lib.hid (HP3.out.ok O5.out)
    have hl5 : (xs ++ ys).length = na + nb := by rw [List.length_append, HNA.out, HNB.out]
    refine (Raise_w p fz _ _ _ _ hl5 (by omega) _ HP5.out hat (fun b off e => by have := hab b off e; omega)).mono ?_
    rintro _ w6 ⟨hm6, hc6⟩
    rcases hc6 with ⟨-, rfl, hp6⟩ | ⟨hall, -⟩
    · have HP6 := Lib.hid hp6
      have O6 : Hid (Ok w w6) := Lib.hid (Below.trans (Ok.trans O3.out O5.out) (hm6.below hwp (by have := O5.out.size; omega)))
      clear hp6 hm6 hat hab hl5 HOWN5 HOWN4 O4 O5 OM HM HP3 HP5
      go_wp2_with fail
      refine (new_p _).mono ?_
      rintro _ w7 ⟨rfl, hp7, o7, hs7⟩
      have HE := Lib.hid (equal_w p w6.heap.size fz w7 (HP6.out.ok o7) hp7)
      clear hp7 hs7
      go_wp2_with fail
      refine HE.out.mono ?_
      rintro _ w8 ⟨rfl, rfl⟩
      go_wp2
      go_ret
      exact ⟨rfl, Ok.trans O6.out o7⟩
    · rw [HBAD.out] at hall; cases hall
  | true =>
    rw [hx] at HRA
    have hy : allB ys = false := by rw [hx] at hbad; simpa using hbad
    rw [hy] at HRB
    clear hbad hx hy
    go_enter Try.func9, Try.ntmps9
    go_wp2_with fail
    refine (awake_w _).mono ?_
    rintro _ w1 ⟨rfl, o1⟩
    go_wp2_with fail
    refine (HRA.out _ o1).mono ?_
    rintro _ w2 ⟨rfl, o2⟩
    have OA := Lib.hid (Ok.trans o1 o2)
    clear o1 o2
    go_wp2_with fail
    refine (HRB.out _ OA.out).mono ?_
    rintro _ w2 ⟨rfl, o2⟩
    have O2 := Lib.hid (Ok.trans OA.out o2)
    clear OA o2
    go_wp2_with fail
    refine (new_p _).mono ?_
    rintro _ w3 ⟨rfl, hp3, o3, hs3⟩
    obtain ⟨p, hp⟩ : ∃ p, w2.heap.size = p := ⟨_, rfl⟩
    rw [hp] at hp3 ⊢
    have HP3 := Lib.hid hp3
    have O3 := Lib.hid (Ok.trans O2.out o3)
    have hps : p < w3.heap.size := by omega
    have hwp : w.heap.size ≤ p := by have := O2.out.size; omega
    clear hp3 o3 hs3 hp O2
    have HM := Lib.hid (OwnNm.made w3)
    have OM : Hid (Ok w3 (w3.alloc (.cells #[] 115))) := Lib.hid (Ok.alloc (Ok.refl _) _)
    go_wp2_with (at_builtin; go_must (first
      | (refine wpList_appN rfl (.tmp 38) (.tmp 39) rfl w3.heap.size _ _ _ [] rfl HM.out A na ca xs rfl HNA.out HA0.out (HIA.out.ok (Ok.trans O3.out OM.out)) (by simp; omega) (by simp) ?_; intro A4 c4 w4 hown4 hbel4; simp only [List.nil_append, Nat.zero_add] at hown4 ⊢; have HOWN4 := Lib.hid hown4; have O4 : Hid (Ok w3 w4) := Lib.hid (Below.trans OM.out hbel4); clear hown4 hbel4)
      | (refine wpList_appN rfl (.tmp 40) (.tmp 41) rfl w3.heap.size _ _ _ xs rfl HOWN4.out B nb cb ys rfl HNB.out HB0.out (HIB.out.ok (Ok.trans O3.out O4.out)) (by rw [HNA.out]; omega) O4.out.size ?_; intro A5 c5 w5 hown5 hbel5; have HOWN5 := Lib.hid hown5; have O5 : Hid (Ok w3 w5) := Lib.hid (Below.trans O4.out hbel5); clear hown5 hbel5)))
    obtain ⟨hat, hab⟩ := HOWN5.out.at
    have HP5 := Lib.hid (HP3.out.ok O5.out)
    have hl5 : (xs ++ ys).length = na + nb := by rw [List.length_append, HNA.out, HNB.out]
    refine (Raise_w p fz _ _ _ _ hl5 (by omega) _ HP5.out hat (fun b off e => by have := hab b off e; omega)).mono ?_
    rintro _ w6 ⟨hm6, hc6⟩
    rcases hc6 with ⟨-, rfl, hp6⟩ | ⟨hall, -⟩
    · have HP6 := Lib.hid hp6
      have O6 : Hid (Ok w w6) := Lib.hid (Below.trans (Ok.trans O3.out O5.out) (hm6.below hwp (by have := O5.out.size; omega)))
      clear hp6 hm6 hat hab hl5 HOWN5 HOWN4 O4 O5 OM HM HP3 HP5
      go_wp2_with fail
      refine (new_p _).mono ?_
      rintro _ w7 ⟨rfl, hp7, o7, hs7⟩
      have HE := Lib.hid (equal_w p w6.heap.size fz w7 (HP6.out.ok o7) hp7)
      clear hp7 hs7
      go_wp2_with fail
      refine HE.out.mono ?_
      rintro _ w8 ⟨rfl, rfl⟩
      go_wp2
      go_ret
      exact ⟨rfl, Ok.trans O6.out o7⟩
    · rw [HBAD.out] at hall; cases hall
end Go.Proofs.Ytnjaiiifafbbjaa
