/- Rows: the example. -/
import Derived.Test.YtebhcadolnjplaaSn
namespace Go.Proofs.Ytebhcadolnjplaa
open Go.RowKit

theorem rowsIn_two (w : World) (b : Nat) (r0 r1 : Rw) (h : w.heap[b]? = some (.cells #[.string r0.key, .string r0.val, .string r1.key, .string r1.val] 105 (0, 0))) : RowsIn w (some ⟨b, 0, none⟩) [r0, r1] := fun j hj => by
  have hj2 : j < 2 := hj
  have : j = 0 ∨ j = 1 := by omega
  rcases this with rfl | rfl <;> exact ⟨b, 0, rfl, by simp [World.cell?, h, rwA], by simp [World.cell?, h, rwA]⟩
theorem rowsIn_three (w : World) (b : Nat) (r0 r1 r2 : Rw) (h : w.heap[b]? = some (.cells #[.string r0.key, .string r0.val, .string r1.key, .string r1.val, .string r2.key, .string r2.val] 105 (0, 0))) : RowsIn w (some ⟨b, 0, none⟩) [r0, r1, r2] := fun j hj => by
  have hj2 : j < 3 := hj
  have : j = 0 ∨ j = 1 ∨ j = 2 := by omega
  rcases this with rfl | rfl | rfl <;> exact ⟨b, 0, rfl, by simp [World.cell?, h, rwA], by simp [World.cell?, h, rwA]⟩
theorem put_ex {p : Nat} {W : World} {e : Ending} {w' : World} (h : PutP p [] [rb1, ra2, rb3] W e w') : e = .returned (.int .i64 0) ∧ (∃ A' c', TabAt p A' 2 c' [ra2, rb3] w' ∧ ∀ a, A' = some a → W.heap.size ≤ a.block) ∧ W.grownBy w' (some p) := by
  rcases h with ⟨e, _⟩ | ⟨_, l', hl, ⟨hbig, _⟩ | ⟨_, e, ⟨A', c', ht, ha⟩, hg⟩⟩
  · rw [ex_right] at e; cases e
  · rw [ex_laid hl] at hbig
    exact absurd hbig (by decide)
  · rw [ex_laid hl] at ht
    exact ⟨e, ⟨A', c', ht, ha⟩, hg⟩
set_option maxRecDepth 100000 in
set_option maxHeartbeats 4000000 in
theorem awake_r (W : World) : Calls Try.prog 30 #[] W (Ret W (.bool true)) := by
  have hnew := new44 W
  go_enter Try.func30, Try.ntmps30
  go_wp2_with fail
  refine hnew.mono ?_
  clear hnew
  rintro _ w1 ⟨p, rfl, hp, hT, o1⟩
  have HT := Lib.hid hT
  have HP := Lib.hid hp
  have HO := Lib.hid o1
  clear hT hp o1
  have HOA : Hid (Ok w1 (w1.alloc (.cells #[.string ⟨#[98]⟩, .string ⟨#[49]⟩, .string ⟨#[97]⟩, .string ⟨#[50]⟩, .string ⟨#[98]⟩, .string ⟨#[51]⟩] 105))) := Lib.hid ((Ok.refl w1).alloc _)
  have hput := put_fR p none 0 0 [] (some ⟨w1.heap.size, 0, none⟩) 3 3 [rb1, ra2, rb3] (w1.alloc (.cells #[.string ⟨#[98]⟩, .string ⟨#[49]⟩, .string ⟨#[97]⟩, .string ⟨#[50]⟩, .string ⟨#[98]⟩, .string ⟨#[51]⟩] 105)) (HT.out.ok HOA.out) (by decide) rises_nil rfl (by decide) (rowsIn_three _ _ _ _ _ (heap_alloc_new w1 _))
  go_wp2_with fail
  refine hput.mono ?_
  clear hput
  rintro _ w2 hpp
  obtain ⟨rfl, ⟨A2, c2, hT2, hA2⟩, hb2⟩ := put_ex hpp
  have HT2 := Lib.hid hT2
  have HA2 : Hid (∀ a, A2 = some a → W.heap.size ≤ a.block) := Lib.hid (fun a e => Nat.le_trans (HO.out.trans HOA.out).size (hA2 a e))
  have HO2 : Hid (Ok W w2) := Lib.hid (Below.grown (HO.out.trans HOA.out) hb2 (HO.out.trans HOA.out).size (fun j e => by cases e; exact HP.out))
  clear hT2 hA2 hb2 hpp HOA HO HT
  have hin := inR_f p A2 2 c2 [ra2, rb3] allS w2 HT2.out (by decide)
  rw [ex_all] at hin
  unfold spV allS at hin
  go_wp2_with fail
  refine hin.mono ?_
  clear hin
  rintro _ w3 ⟨A3, n3, c3, rfl, hown3, o3⟩
  obtain rfl : n3 = 2 := hown3.1.symm
  have HOW3 := Lib.hid hown3
  have HO3 : Hid (Ok w2 w3) := Lib.hid o3
  clear hown3 o3
  have htk := takeR_f p A2 2 c2 [ra2, rb3] sAB w3 (HT2.out.ok HO3.out) (by decide)
  unfold spV sAB at htk
  go_wp2_with fail
  refine htk.mono ?_
  clear htk
  rintro _ w4 ⟨A4, n4, c4, rfl, hown4, hT4, hk4⟩
  rw [show ({ lo := { data := #[97] }, hi := { data := #[98] } } : Sp) = sAB from rfl, ex_ab.1] at hown4
  rw [show ({ lo := { data := #[97] }, hi := { data := #[98] } } : Sp) = sAB from rfl, ex_ab.2] at hT4
  obtain rfl : n4 = 1 := hown4.1.symm
  have HT4 : Hid (TabAt p A2 1 c2 [rb3] w4) := Lib.hid hT4
  have HOW4 := Lib.hid hown4
  have HO4 : Hid (Ok W w4) := Lib.hid (by
    have b := HO2.out.trans HO3.out
    exact ⟨hk4.os.trans b.os, hk4.tape.trans b.tape, hk4.output.trans b.output, Nat.le_trans b.size hk4.size, fun j hj => (hk4.block j (Nat.lt_of_lt_of_le hj b.size) (fun e => by have := HP.out; omega) (fun e => by
      cases A2 with
      | none => cases e
      | some a => simp only [Value.ownBlock, Option.some.injEq] at e; have := HA2.out a rfl; omega)).trans (b.block j hj)⟩)
  have HR3 : Hid (RowsIn w4 A3 [ra2, rb3]) := Lib.hid (OwnR.rows (HOW3.out.k2 hk4 (fun a e => by
    have h1 := (HOW3.out.2.lt a.block (by rw [e]; rfl)).1
    have h2 := HT2.out.lt
    refine ⟨by omega, fun q => ?_⟩
    have := (HT2.out.own.2.lt a.block q.symm).2
    omega)))
  have HR4 : Hid (RowsIn w4 A4 [ra2]) := Lib.hid hown4.rows
  clear hown4 hT4 hk4
  have HX2 : Hid (RowsIn (w4.alloc (.cells #[.string ⟨#[97]⟩, .string ⟨#[50]⟩, .string ⟨#[98]⟩, .string ⟨#[51]⟩] 105)) (some ⟨w4.heap.size, 0, none⟩) [ra2, rb3]) := Lib.hid (rowsIn_two _ _ _ _ (heap_alloc_new w4 _))
  have HOX : Hid (Ok w4 (w4.alloc (.cells #[.string ⟨#[97]⟩, .string ⟨#[50]⟩, .string ⟨#[98]⟩, .string ⟨#[51]⟩] 105))) := Lib.hid ((Ok.refl w4).alloc _)
  have hs1 := same_f A3 (some ⟨w4.heap.size, 0, none⟩) 2 c3 2 [ra2, rb3] rfl (by decide) (w4.alloc (.cells #[.string ⟨#[97]⟩, .string ⟨#[50]⟩, .string ⟨#[98]⟩, .string ⟨#[51]⟩] 105)) (HR3.out.ok HOX.out) HX2.out
  go_wp2_with fail
  refine hs1.mono ?_
  clear hs1
  rintro _ w5 ⟨rfl, o5⟩
  have HO5 : Hid (Ok w4 w5) := Lib.hid (HOX.out.trans o5)
  clear o5 HOX HX2
  have HX1 : Hid (RowsIn (w5.alloc (.cells #[.string ⟨#[97]⟩, .string ⟨#[50]⟩] 105)) (some ⟨w5.heap.size, 0, none⟩) [ra2]) := Lib.hid (RowsIn.one _ _ ra2 (heap_alloc_new w5 _))
  have HOX : Hid (Ok w5 (w5.alloc (.cells #[.string ⟨#[97]⟩, .string ⟨#[50]⟩] 105))) := Lib.hid ((Ok.refl w5).alloc _)
  have hs2 := same_f A4 (some ⟨w5.heap.size, 0, none⟩) 1 c4 1 [ra2] rfl (by decide) (w5.alloc (.cells #[.string ⟨#[97]⟩, .string ⟨#[50]⟩] 105)) (HR4.out.ok (HO5.out.trans HOX.out)) HX1.out
  go_wp2_with fail
  refine hs2.mono ?_
  clear hs2
  rintro _ w6 ⟨rfl, o6⟩
  have HO6 : Hid (Ok w4 w6) := Lib.hid (HO5.out.trans (HOX.out.trans o6))
  clear o6 HOX HX1
  have hmy := many50 p A2 1 c2 [rb3] w6 (HT4.out.ok HO6.out)
  go_wp2_with fail
  refine hmy.mono ?_
  clear hmy
  rintro _ w7 ⟨rfl, o7⟩
  have HO7 : Hid (Ok W w7) := Lib.hid (HO4.out.trans (HO6.out.trans o7))
  clear o7
  go_wp2_with fail
  go_ret
  exact ⟨rfl, HO7.out⟩
end Go.Proofs.Ytebhcadolnjplaa
