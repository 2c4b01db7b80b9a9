/- The step that turns the shares. -/
import Derived.Test.YtdabdkedgigjdaaGreatYe
namespace Go.Proofs.YtdabdkedgigjdaaGreat
open Go.RowKit

/-- What a step tells: the error, the handoff, the shares then. -/
def StepP (w : World) (k : Int) (y : Sc) (ep : Int) (ys : List Sh) : Ending → World → Prop := fun e w' => ∃ A c, e = .returned (.tuple #[scV y, .agg #[.int .i64 ep, .slice A ys.length c], .int .i64 k]) ∧ OwnSh w' w.heap.size A ys.length c ys ∧ Ok w w'
theorem StepP.err {w w' : World} {k : Int} {e : Ending} (he : e = .returned (.tuple #[scV sc0, .agg #[.int .i64 0, .slice none 0 0], .int .i64 k])) (ho : Ok w w') : StepP w k sc0 0 [] e w' := ⟨none, 0, he, OwnSh.nil _ _, ho⟩
def inM (ep : Int) (xs : List Sh) (i : Sp) : Sh := (firstM ep xs (fun y => withinB i y.sp)).getD sh0
/-- What the step that turns tells. -/
def turnK (ep : Int) (xs : List Sh) (x : Sc) : Int := if (turnM ep xs x.sp x.to).1 = 0 then (if (inM ep xs x.sp).g = x.fr ∧ (inM ep xs x.sp).e = x.ep then 0 else 26) else (turnM ep xs x.sp x.to).1
def TurnP (w : World) (ep : Int) (xs : List Sh) (x : Sc) : Ending → World → Prop := if turnK ep xs x = 0 then StepP w 0 { x with st := 4, un := ep + 1 } (ep + 1) (turnM ep xs x.sp x.to).2 else StepP w (turnK ep xs x) sc0 0 []
theorem cell_set (W : World) (p i j : Nat) (u v : Value) (h : W.cell? ⟨p, j, none⟩ = some u) : (W.setCell ⟨p, i, none⟩ v).cell? ⟨p, j, none⟩ = some (if i = j then v else u) := by
  by_cases e : i = j
  · subst e; rw [if_pos rfl]; exact World.cell?_setCell_same _ _ _ h
  · rw [if_neg e]; exact (World.cell?_setCell_other _ _ _ _ (by intro h; cases h; exact e rfl)).trans h
/-- A handoff at a block. -/
structure Sc8 (w : World) (p : Nat) (x : Sc) : Prop where
  c0 : w.cell? ⟨p, 0, none⟩ = some (.int .i64 x.num)
  c1 : w.cell? ⟨p, 1, none⟩ = some (.string x.sp.lo)
  c2 : w.cell? ⟨p, 2, none⟩ = some (.string x.sp.hi)
  c3 : w.cell? ⟨p, 3, none⟩ = some (.int .i64 x.fr)
  c4 : w.cell? ⟨p, 4, none⟩ = some (.int .i64 x.to)
  c5 : w.cell? ⟨p, 5, none⟩ = some (.int .i64 x.ep)
  c6 : w.cell? ⟨p, 6, none⟩ = some (.int .i64 x.un)
  c7 : w.cell? ⟨p, 7, none⟩ = some (.int .u8 x.st)
theorem Sc8.ok {w w' : World} {p : Nat} {x : Sc} (h : Sc8 w p x) (k : Ok w w') : Sc8 w' p x :=
  ⟨Ok.cell k h.c0, Ok.cell k h.c1, Ok.cell k h.c2, Ok.cell k h.c3, Ok.cell k h.c4, Ok.cell k h.c5, Ok.cell k h.c6, Ok.cell k h.c7⟩
def put8 (W : World) (p : Nat) (x : Sc) : World := (((((((W.setCell ⟨p, 0, none⟩ (.int .i64 x.num)).setCell ⟨p, 1, none⟩ (.string x.sp.lo)).setCell ⟨p, 2, none⟩ (.string x.sp.hi)).setCell ⟨p, 3, none⟩ (.int .i64 x.fr)).setCell ⟨p, 4, none⟩ (.int .i64 x.to)).setCell ⟨p, 5, none⟩ (.int .i64 x.ep)).setCell ⟨p, 6, none⟩ (.int .i64 x.un)).setCell ⟨p, 7, none⟩ (.int .u8 x.st)
def put2 (W : World) (p : Nat) (a b : Value) : World := (W.setCell ⟨p, 0, none⟩ a).setCell ⟨p, 1, none⟩ b
theorem Sc8.put8 {W : World} {p : Nat} {u : Sc} (h : Sc8 W p u) (x : Sc) : Sc8 (put8 W p x) p x := by
  unfold YtdabdkedgigjdaaGreat.put8
  constructor
  · exact cell_set _ p 7 0 _ _ (cell_set _ p 6 0 _ _ (cell_set _ p 5 0 _ _ (cell_set _ p 4 0 _ _ (cell_set _ p 3 0 _ _ (cell_set _ p 2 0 _ _ (cell_set _ p 1 0 _ _ (cell_set _ p 0 0 _ _ h.c0)))))))
  · exact cell_set _ p 7 1 _ _ (cell_set _ p 6 1 _ _ (cell_set _ p 5 1 _ _ (cell_set _ p 4 1 _ _ (cell_set _ p 3 1 _ _ (cell_set _ p 2 1 _ _ (cell_set _ p 1 1 _ _ (cell_set _ p 0 1 _ _ h.c1)))))))
  · exact cell_set _ p 7 2 _ _ (cell_set _ p 6 2 _ _ (cell_set _ p 5 2 _ _ (cell_set _ p 4 2 _ _ (cell_set _ p 3 2 _ _ (cell_set _ p 2 2 _ _ (cell_set _ p 1 2 _ _ (cell_set _ p 0 2 _ _ h.c2)))))))
  · exact cell_set _ p 7 3 _ _ (cell_set _ p 6 3 _ _ (cell_set _ p 5 3 _ _ (cell_set _ p 4 3 _ _ (cell_set _ p 3 3 _ _ (cell_set _ p 2 3 _ _ (cell_set _ p 1 3 _ _ (cell_set _ p 0 3 _ _ h.c3)))))))
  · exact cell_set _ p 7 4 _ _ (cell_set _ p 6 4 _ _ (cell_set _ p 5 4 _ _ (cell_set _ p 4 4 _ _ (cell_set _ p 3 4 _ _ (cell_set _ p 2 4 _ _ (cell_set _ p 1 4 _ _ (cell_set _ p 0 4 _ _ h.c4)))))))
  · exact cell_set _ p 7 5 _ _ (cell_set _ p 6 5 _ _ (cell_set _ p 5 5 _ _ (cell_set _ p 4 5 _ _ (cell_set _ p 3 5 _ _ (cell_set _ p 2 5 _ _ (cell_set _ p 1 5 _ _ (cell_set _ p 0 5 _ _ h.c5)))))))
  · exact cell_set _ p 7 6 _ _ (cell_set _ p 6 6 _ _ (cell_set _ p 5 6 _ _ (cell_set _ p 4 6 _ _ (cell_set _ p 3 6 _ _ (cell_set _ p 2 6 _ _ (cell_set _ p 1 6 _ _ (cell_set _ p 0 6 _ _ h.c6)))))))
  · exact cell_set _ p 7 7 _ _ (cell_set _ p 6 7 _ _ (cell_set _ p 5 7 _ _ (cell_set _ p 4 7 _ _ (cell_set _ p 3 7 _ _ (cell_set _ p 2 7 _ _ (cell_set _ p 1 7 _ _ (cell_set _ p 0 7 _ _ h.c7)))))))
theorem other {W : World} {p q i j : Nat} {v u : Value} (hne : q ≠ p) (h : W.cell? ⟨q, j, none⟩ = some u) : (W.setCell ⟨p, i, none⟩ v).cell? ⟨q, j, none⟩ = some u :=
  (World.cell?_setCell_other _ _ _ _ (by intro h; cases h; exact hne rfl)).trans h
theorem other2 {W : World} {p q j : Nat} {a b u : Value} (hne : q ≠ p) (h : W.cell? ⟨q, j, none⟩ = some u) : (put2 W p a b).cell? ⟨q, j, none⟩ = some u := other hne (other hne h)
theorem other8 {W : World} {p q j : Nat} {x : Sc} {u : Value} (hne : q ≠ p) (h : W.cell? ⟨q, j, none⟩ = some u) : (put8 W p x).cell? ⟨q, j, none⟩ = some u :=
  other hne (other hne (other hne (other hne (other hne (other hne (other hne (other hne h)))))))
theorem Sc8.put2 {W : World} {p q : Nat} {x : Sc} {a b : Value} (h : Sc8 W q x) (hne : q ≠ p) : Sc8 (put2 W p a b) q x :=
  ⟨other2 hne h.c0, other2 hne h.c1, other2 hne h.c2, other2 hne h.c3, other2 hne h.c4, other2 hne h.c5, other2 hne h.c6, other2 hne h.c7⟩
theorem Sc8.put8' {W : World} {p q : Nat} {x y : Sc} (h : Sc8 W q x) (hne : q ≠ p) : Sc8 (YtdabdkedgigjdaaGreat.put8 W p y) q x :=
  ⟨other8 hne h.c0, other8 hne h.c1, other8 hne h.c2, other8 hne h.c3, other8 hne h.c4, other8 hne h.c5, other8 hne h.c6, other8 hne h.c7⟩
theorem two_put2 {W : World} {p : Nat} {u v a b : Value} (h0 : W.cell? ⟨p, 0, none⟩ = some u) (h1 : W.cell? ⟨p, 1, none⟩ = some v) : (put2 W p a b).cell? ⟨p, 0, none⟩ = some a ∧ (put2 W p a b).cell? ⟨p, 1, none⟩ = some b := store2 W p u v a b h0 h1
theorem Ok.put2 {w W : World} {p : Nat} {a b : Value} (h : Ok w W) (hp : w.heap.size ≤ p) : Ok w (YtdabdkedgigjdaaGreat.put2 W p a b) := Ok.set (Ok.set h hp _) hp _
theorem Ok.put8 {w W : World} {p : Nat} {x : Sc} (h : Ok w W) (hp : w.heap.size ≤ p) : Ok w (YtdabdkedgigjdaaGreat.put8 W p x) :=
  Ok.set (Ok.set (Ok.set (Ok.set (Ok.set (Ok.set (Ok.set (Ok.set h hp _) hp _) hp _) hp _) hp _) hp _) hp _) hp _
theorem OwnSh.put2 {w : World} {B p : Nat} {A : Option Addr} {n c : Nat} {xs : List Sh} {a b : Value} (h : OwnSh w B A n c xs) (hp : p < B) : OwnSh (YtdabdkedgigjdaaGreat.put2 w p a b) B A n c xs := (h.set (p := ⟨p, 0, none⟩) hp _).set (p := ⟨p, 1, none⟩) hp _
theorem OwnSh.put8 {w : World} {B p : Nat} {A : Option Addr} {n c : Nat} {xs : List Sh} {x : Sc} (h : OwnSh w B A n c xs) (hp : p < B) : OwnSh (YtdabdkedgigjdaaGreat.put8 w p x) B A n c xs :=
  (((((((h.set (p := ⟨p, 0, none⟩) hp _).set (p := ⟨p, 1, none⟩) hp _).set (p := ⟨p, 2, none⟩) hp _).set (p := ⟨p, 3, none⟩) hp _).set (p := ⟨p, 4, none⟩) hp _).set (p := ⟨p, 5, none⟩) hp _).set (p := ⟨p, 6, none⟩) hp _).set (p := ⟨p, 7, none⟩) hp _
/-- The cells of a block that may be written. -/
def Fz (w : World) (p n : Nat) : Prop := ∀ j, j < n → w.frozen? ⟨p, j, none⟩ = false
theorem Fz.ok {w w' : World} {p n : Nat} {u : Value} (h : Fz w p n) (hc : w.cell? ⟨p, 0, none⟩ = some u) (k : Ok w w') : Fz w' p n := fun j hj => (Below.frozen k (p := ⟨p, j, none⟩) (World.block_lt_of_cell? w ⟨p, 0, none⟩ hc)).trans (h j hj)
theorem shV_first (ep : Int) (xs : List Sh) (i : Sp) : ∃ b, shareV (firstM ep xs (fun y => withinB i y.sp)) = .tuple #[shV (inM ep xs i), .bool b] := ⟨_, rfl⟩

set_option maxRecDepth 100000 in
set_option maxHeartbeats 4000000 in
theorem turnS_w (x : Sc) (ep : Int) (A : Option Addr) (c : Nat) (xs : List Sh) (hn6 : xs.length ≤ 1000) (hnc : xs.length ≤ c) (w : World) (hI : SharesAt w A xs) :
    Calls Tryz.prog 78 #[scV x, .agg #[.int .i64 ep, .slice A xs.length c]] w (TurnP w ep xs x) := by
  have HT := Lib.hid (fun w' (k : Ok w w') => turn_w ep A xs.length c xs x.sp x.to rfl hn6 hnc w' (hI.ok k))
  have HIN := Lib.hid (fun w' (k : Ok w w') => in_w2 x.sp ep A xs.length c xs rfl hn6 w' (hI.ok k))
  obtain ⟨ib, hib⟩ := shV_first ep xs x.sp
  rw [hib] at HIN
  unfold TurnP turnK
  generalize inM ep xs x.sp = y at HIN ⊢
  obtain ⟨num, ⟨lo, hi⟩, fr, to, xe, un, st⟩ := x
  obtain ⟨⟨yl, yh⟩, yg, ye⟩ := y
  unfold spV at HT HIN
  unfold shV at HIN
  simp only at HT HIN ⊢
  obtain ⟨K, hK⟩ : ∃ K, turnM ep xs ⟨lo, hi⟩ to = K := ⟨_, rfl⟩
  rw [hK] at HT ⊢
  clear hK hib hI
  obtain ⟨k, ys⟩ := K
  unfold TurnPost at HT
  simp only at HT ⊢
  obtain ⟨E, hE⟩ : ∃ E, (if k = 0 then ep + 1 else 0) = E := ⟨_, rfl⟩
  rw [hE] at HT
  have HE := Lib.hid hE
  obtain ⟨n, hn⟩ : ∃ n, xs.length = n := ⟨_, rfl⟩
  rw [hn] at HT HIN hn6 hnc ⊢
  obtain ⟨m, hm⟩ : ∃ m, ys.length = m := ⟨_, rfl⟩
  rw [hm] at HT
  have HM := Lib.hid hm
  obtain ⟨p, hp⟩ : ∃ p, w.heap.size = p := ⟨_, rfl⟩
  obtain ⟨Q, hQ⟩ : ∃ Q : Ending → World → Prop, (if (if k = 0 then (if yg = fr ∧ ye = xe then 0 else 26) else k) = 0 then StepP w 0 ⟨num, ⟨lo, hi⟩, fr, to, xe, ep + 1, 4⟩ (ep + 1) ys else StepP w (if k = 0 then (if yg = fr ∧ ye = xe then 0 else 26) else k) sc0 0 []) = Q := ⟨_, rfl⟩
  rw [hQ]
  have HQ := Lib.hid hQ
  clear hE hm hn hQ
  unfold scV
  simp only
  go_enter Tryz.func78, Tryz.ntmps78
  go_wp2_with fail
  generalize hW : (((w.alloc (.cells #[.int .i64 num, .string lo, .string hi, .int .i64 fr, .int .i64 to, .int .i64 xe, .int .i64 un, .int .u8 st] 52)).alloc (.cells #[.int .i64 ep, .slice A n c] 24)).alloc (.cells #[.int .i64 0, .string ⟨#[]⟩, .string ⟨#[]⟩, .int .i64 0, .int .i64 0, .int .i64 0, .int .i64 0, .int .u8 0] 52)).alloc (.cells #[.int .i64 0, .slice none 0 0] 24) = W
  have oW : Ok w W := by subst hW; exact Ok.alloc (Ok.alloc (Ok.alloc (Ok.alloc (Ok.refl w) _) _) _) _
  have X : Sc8 W p ⟨num, ⟨lo, hi⟩, fr, to, xe, un, st⟩ := by subst hW; subst hp; constructor <;> go_cell
  have R : Sc8 W (p + 1 + 1) sc0 := by subst hW; subst hp; unfold sc0 allS; constructor <;> go_cell
  have S0 : W.cell? ⟨p + 1, 0, none⟩ = some (.int .i64 ep) := by subst hW; subst hp; go_cell
  have S1 : W.cell? ⟨p + 1, 1, none⟩ = some (.slice A n c) := by subst hW; subst hp; go_cell
  have T0 : W.cell? ⟨p + 1 + 1 + 1, 0, none⟩ = some (.int .i64 0) := by subst hW; subst hp; go_cell
  have T1 : W.cell? ⟨p + 1 + 1 + 1, 1, none⟩ = some (.slice none 0 0) := by subst hW; subst hp; go_cell
  have FX : Fz W p 8 := by
    subst hW; subst hp; intro j hj
    obtain rfl | rfl | rfl | rfl | rfl | rfl | rfl | rfl : j = 0 ∨ j = 1 ∨ j = 2 ∨ j = 3 ∨ j = 4 ∨ j = 5 ∨ j = 6 ∨ j = 7 := by omega
    all_goals go_cell
  have FR : Fz W (p + 1 + 1) 8 := by
    subst hW; subst hp; intro j hj
    obtain rfl | rfl | rfl | rfl | rfl | rfl | rfl | rfl : j = 0 ∨ j = 1 ∨ j = 2 ∨ j = 3 ∨ j = 4 ∨ j = 5 ∨ j = 6 ∨ j = 7 := by omega
    all_goals go_cell
  have FT : Fz W (p + 1 + 1 + 1) 2 := by
    subst hW; subst hp; intro j hj
    obtain rfl | rfl : j = 0 ∨ j = 1 := by omega
    all_goals go_cell
  clear hW
  have HPW : Hid (p + 1 + 1 + 1 < W.heap.size) := Lib.hid (World.block_lt_of_cell? _ _ T0)
  refine (HT.out W oW).mono ?_
  rintro _ w1 ⟨A1, c1, rfl, hown, o1⟩
  replace FX := FX.ok X.c0 o1
  replace FR := FR.ok R.c0 o1
  replace FT := FT.ok T0 o1
  replace X := X.ok o1
  replace R := R.ok o1
  replace S0 := Ok.cell o1 S0
  replace S1 := Ok.cell o1 S1
  replace T0 := Ok.cell o1 T0
  replace T1 := Ok.cell o1 T1
  have OK1 : Hid (Ok w w1) := Lib.hid (Ok.call oW o1)
  have HOWN := Lib.hid hown
  clear o1 oW hown HT
  have hpw : w.heap.size ≤ p := by omega
  obtain ⟨q, hq⟩ : ∃ q, w1.heap.size = q := ⟨_, rfl⟩
  have hq3 : p + 1 + 1 + 1 < q := by have := World.block_lt_of_cell? _ _ T0; rw [hq] at this; exact this
  obtain ⟨V, hV⟩ : ∃ V, w1.alloc (.cells #[.int .i64 E, .slice A1 m c1] 24) = V := ⟨_, rfl⟩
  have oV : Ok w1 V := by rw [← hV]; exact Ok.alloc (Ok.refl w1) _
  have V0 : V.cell? ⟨q, 0, none⟩ = some (.int .i64 E) := by subst hV; subst hq; go_cell
  have V1 : V.cell? ⟨q, 1, none⟩ = some (.slice A1 m c1) := by subst hV; subst hq; go_cell
  replace FX := FX.ok X.c0 oV
  replace FR := FR.ok R.c0 oV
  replace FT := FT.ok T0 oV
  replace X := X.ok oV
  replace R := R.ok oV
  replace S0 := Ok.cell oV S0
  replace S1 := Ok.cell oV S1
  replace T0 := Ok.cell oV T0
  replace T1 := Ok.cell oV T1
  replace OK1 : Hid (Ok w V) := Lib.hid (Ok.call OK1.out oV)
  replace HOWN : Hid (OwnSh V W.heap.size A1 m c1 ys) := Lib.hid (HOWN.out.ok oV)
  clear oV
  have hqV : q < V.heap.size := World.block_lt_of_cell? _ _ V0
  have HX := Lib.hid X
  have HR := Lib.hid R
  have HT := Lib.hid (And.intro T0 T1)
  have HFX := Lib.hid FX
  have HFR := Lib.hid FR
  have HFT := Lib.hid FT
  clear FX FR FT
  by_cases hk : k = 0
  · subst hk
    have hE : ep + 1 = E := by simpa using HE.out
    have X1 := X.c1
    have X2 := X.c2
    simp only at X1 X2
    clear X R T0 T1
    go_wp2_with fail
    refine (HIN.out V OK1.out).mono ?_
    rintro _ w2 ⟨rfl, o2⟩
    obtain ⟨q2, hq2⟩ : ∃ q2, w2.heap.size = q2 := ⟨_, rfl⟩
    have hqq : q < q2 := by have := o2.size; omega
    obtain ⟨V2, hV2⟩ : ∃ V2, w2.alloc (.cells #[.string yl, .string yh, .int .i64 yg, .int .i64 ye] 35) = V2 := ⟨_, rfl⟩
    have oV2 : Ok V V2 := by rw [← hV2]; exact Ok.call o2 (Ok.alloc (Ok.refl w2) _)
    have Y2 : V2.cell? ⟨q2, 2, none⟩ = some (.int .i64 yg) := by subst hV2; subst hq2; go_cell
    have Y3 : V2.cell? ⟨q2, 3, none⟩ = some (.int .i64 ye) := by subst hV2; subst hq2; go_cell
    replace HFX := Lib.hid (HFX.out.ok HX.out.c0 oV2)
    replace HFR := Lib.hid (HFR.out.ok HR.out.c0 oV2)
    replace HFT := Lib.hid (HFT.out.ok HT.out.1 oV2)
    replace HX := Lib.hid (HX.out.ok oV2)
    replace HR := Lib.hid (HR.out.ok oV2)
    replace HT := Lib.hid (And.intro (Ok.cell oV2 HT.out.1) (Ok.cell oV2 HT.out.2))
    replace V0 := Ok.cell oV2 V0
    replace V1 := Ok.cell oV2 V1
    replace OK1 : Hid (Ok w V2) := Lib.hid (Ok.call OK1.out oV2)
    replace HOWN : Hid (OwnSh V2 W.heap.size A1 m c1 ys) := Lib.hid (HOWN.out.ok oV2)
    clear o2 oV2 X1 X2 hqV S0 S1 HIN
    have X := HX.out
    obtain ⟨X0, X1, X2, X3, X4, X5, X6, X7⟩ := X
    simp only at X0 X1 X2 X3 X4 X5 X6 X7
    have bad : Hid (¬ (yg = fr ∧ ye = xe) → StepP w 26 sc0 0 [] = Q) := Lib.hid fun h => by
      have := HQ.out
      rwa [if_pos trivial, if_neg h, if_neg (by decide)] at this
    by_cases h1 : yg = fr
    · have d1 : (yg != fr) = false := by simp [h1]
      have H1 := Lib.hid h1
      clear h1
      by_cases h2 : ye = xe
      · have d2 : (ye != xe) = false := by simp [h2]
        have good : Hid (StepP w 0 ⟨num, ⟨lo, hi⟩, fr, to, xe, ep + 1, 4⟩ (ep + 1) ys = Q) := Lib.hid (by
          have := HQ.out
          rwa [if_pos trivial, if_pos (show yg = fr ∧ ye = xe from ⟨H1.out, h2⟩), if_pos rfl] at this)
        clear h2
        clear bad
        have x6 := HFX.out 6 (by decide); have x7 := HFX.out 7 (by decide)
        go_wp2_with fail
        go_region
        obtain ⟨V3, hV3⟩ : ∃ V3, (V2.setCell ⟨p, 7, none⟩ (.int .u8 4)).setCell ⟨p, 6, none⟩ (.int .i64 E) = V3 := ⟨_, rfl⟩
        rw [hV3]
        have X3 : Sc8 V3 p ⟨num, ⟨lo, hi⟩, fr, to, xe, E, 4⟩ := by
          subst hV3
          exact ⟨cell_set _ p 6 0 _ _ (cell_set _ p 7 0 _ _ X0), cell_set _ p 6 1 _ _ (cell_set _ p 7 1 _ _ X1), cell_set _ p 6 2 _ _ (cell_set _ p 7 2 _ _ X2), cell_set _ p 6 3 _ _ (cell_set _ p 7 3 _ _ X3),
            cell_set _ p 6 4 _ _ (cell_set _ p 7 4 _ _ X4), cell_set _ p 6 5 _ _ (cell_set _ p 7 5 _ _ X5), cell_set _ p 6 6 _ _ (cell_set _ p 7 6 _ _ X6), cell_set _ p 6 7 _ _ (cell_set _ p 7 7 _ _ X7)⟩
        have oth : ∀ (b j : Nat) (u : Value), b ≠ p → V2.cell? ⟨b, j, none⟩ = some u → V3.cell? ⟨b, j, none⟩ = some u := fun b j u hb hc => by subst hV3; exact other hb (other hb hc)
        have frz : ∀ (b j : Nat), V2.frozen? ⟨b, j, none⟩ = false → V3.frozen? ⟨b, j, none⟩ = false := fun b j hf => by subst hV3; rw [World.frozen?_setCell, World.frozen?_setCell]; exact hf
        have OK3 : Hid (Ok w V3) := Lib.hid (by subst hV3; exact Ok.set (Ok.set OK1.out hpw _) hpw _)
        have HOWN3 : Hid (OwnSh V3 W.heap.size A1 m c1 ys) := Lib.hid (by subst hV3; have := HPW.out; exact (HOWN.out.set (p := ⟨p, 7, none⟩) (by simp; omega) _).set (p := ⟨p, 6, none⟩) (by simp; omega) _)
        have R := HR.out
        have HR3 : Hid (Sc8 V3 (p + 1 + 1) sc0) := Lib.hid ⟨oth _ _ _ (by omega) R.c0, oth _ _ _ (by omega) R.c1, oth _ _ _ (by omega) R.c2, oth _ _ _ (by omega) R.c3, oth _ _ _ (by omega) R.c4, oth _ _ _ (by omega) R.c5, oth _ _ _ (by omega) R.c6, oth _ _ _ (by omega) R.c7⟩
        have T0 := oth _ _ _ (by omega) HT.out.1
        have T1 := oth _ _ _ (by omega) HT.out.2
        replace V0 := oth _ _ _ (by omega) V0
        replace V1 := oth _ _ _ (by omega) V1
        have f0 := frz _ _ (HFR.out 0 (by decide)); have f1 := frz _ _ (HFR.out 1 (by decide)); have f2 := frz _ _ (HFR.out 2 (by decide)); have f3 := frz _ _ (HFR.out 3 (by decide)); have f4 := frz _ _ (HFR.out 4 (by decide)); have f5 := frz _ _ (HFR.out 5 (by decide)); have f6 := frz _ _ (HFR.out 6 (by decide)); have f7 := frz _ _ (HFR.out 7 (by decide))
        have t0 := frz _ _ (HFT.out 0 (by decide)); have t1 := frz _ _ (HFT.out 1 (by decide))
        clear oth frz hV3 X0 X1 X2 X4 X5 X6 X7 R x6 x7 HOWN OK1 hV2
        have X := X3
        clear X3
        obtain ⟨X0, X1, X2, X3, X4, X5, X6, X7⟩ := X
        obtain ⟨R0, R1, R2, R3, R4, R5, R6, R7⟩ := HR3.out
        unfold sc0 allS at R0 R1 R2 R3 R4 R5 R6 R7
        simp only at R0 R1 R2 R3 R4 R5 R6 R7 X0 X1 X2 X3 X4 X5 X6 X7
        go_wp2_with fail
        go_region
        go_wp2
        have B8 := (HR3.out.put8 ⟨num, ⟨lo, hi⟩, fr, to, xe, E, 4⟩).put2 (p := p + 1 + 1 + 1) (a := .int .i64 E) (b := .slice A1 m c1) (by omega)
        have C2 := two_put2 (a := .int .i64 E) (b := .slice A1 m c1) (other8 (p := p + 1 + 1) (x := ⟨num, ⟨lo, hi⟩, fr, to, xe, E, 4⟩) (by omega) T0) (other8 (p := p + 1 + 1) (x := ⟨num, ⟨lo, hi⟩, fr, to, xe, E, 4⟩) (by omega) T1)
        (try simp only [Exit.inBlock, Exit.then])
        change bodyPost Tryz.prog _ _ Exit.ret _ (put2 (put8 V3 (p + 1 + 1) ⟨num, ⟨lo, hi⟩, fr, to, xe, E, 4⟩) (p + 1 + 1 + 1) (.int .i64 E) (.slice A1 m c1)).drew.drew
        obtain ⟨Z, hZ⟩ : ∃ Z, put2 (put8 V3 (p + 1 + 1) ⟨num, ⟨lo, hi⟩, fr, to, xe, E, 4⟩) (p + 1 + 1 + 1) (.int .i64 E) (.slice A1 m c1) = Z := ⟨_, rfl⟩
        have OKZ : Ok w Z := by rw [← hZ]; exact Ok.put2 (Ok.put8 OK3.out (by omega)) (by omega)
        have HOWNZ : OwnSh Z W.heap.size A1 m c1 ys := by have := HPW.out; rw [← hZ]; exact (HOWN3.out.put8 (by omega)).put2 (by omega)
        rw [hZ] at B8 C2 ⊢
        obtain ⟨b0, b1, b2, b3, b4, b5, b6, b7⟩ := B8
        replace b0 : Z.drew.drew.cell? _ = _ := b0
        replace b1 : Z.drew.drew.cell? _ = _ := b1
        replace b2 : Z.drew.drew.cell? _ = _ := b2
        replace b3 : Z.drew.drew.cell? _ = _ := b3
        replace b4 : Z.drew.drew.cell? _ = _ := b4
        replace b5 : Z.drew.drew.cell? _ = _ := b5
        replace b6 : Z.drew.drew.cell? _ = _ := b6
        replace b7 : Z.drew.drew.cell? _ = _ := b7
        have c0 : Z.drew.drew.cell? _ = _ := C2.1
        have c2 : Z.drew.drew.cell? _ = _ := C2.2
        refine bodyPost_ret (by simp [results, Tryz.results78, go_sem, b0, b1, b2, b3, b4, b5, b6, b7, c0, c2]; try rfl) rfl ?_
        rw [← good.out]
        have hW1 := HPW.out
        refine ⟨A1, c1, by rw [HM.out, hE]; rfl, ?_, Ok.drew (Ok.drew OKZ)⟩
        rw [HM.out]
        exact (HOWNZ.ok (Ok.drew (Ok.drew (Ok.refl _)))).base (by omega)
      · have d2 : (ye != xe) = true := by simp [h2]
        have HQK := Lib.hid (bad.out fun h => h2 h.2)
        clear bad h2
        have R := HR.out
        obtain ⟨R0, R1, R2, R3, R4, R5, R6, R7⟩ := R
        obtain ⟨T0, T1⟩ := HT.out
        have f0 := HFR.out 0 (by decide); have f1 := HFR.out 1 (by decide); have f2 := HFR.out 2 (by decide); have f3 := HFR.out 3 (by decide); have f4 := HFR.out 4 (by decide); have f5 := HFR.out 5 (by decide); have f6 := HFR.out 6 (by decide); have f7 := HFR.out 7 (by decide)
        have t0 := HFT.out 0 (by decide); have t1 := HFT.out 1 (by decide)
        unfold sc0 allS at R0 R1 R2 R3 R4 R5 R6 R7
        simp only at R0 R1 R2 R3 R4 R5 R6 R7
        go_wp2
        have A8 := HR.out.put8 sc0
        have B8 := A8.put2 (p := p + 1 + 1 + 1) (a := .int .i64 0) (b := .slice none 0 0) (by omega)
        have C2 := two_put2 (a := .int .i64 0) (b := .slice none 0 0) (other8 (p := p + 1 + 1) (x := sc0) (by omega) T0) (other8 (p := p + 1 + 1) (x := sc0) (by omega) T1)
        obtain ⟨b0, b1, b2, b3, b4, b5, b6, b7⟩ := B8
        (try simp only [Exit.inBlock, Exit.then])
        change bodyPost Tryz.prog _ _ Exit.ret _ (put2 (put8 V2 (p + 1 + 1) sc0) (p + 1 + 1 + 1) (.int .i64 0) (.slice none 0 0))
        refine bodyPost_ret (by simp [results, Tryz.results78, go_sem, b0, b1, b2, b3, b4, b5, b6, b7, C2.1, C2.2]; try rfl) rfl ?_
        rw [← HQK.out]
        exact StepP.err rfl (Ok.put2 (Ok.put8 OK1.out (by omega)) (by omega))
    · have d1 : (yg != fr) = true := by simp [h1]
      have HQK := Lib.hid (bad.out fun h => h1 h.1)
      clear bad h1
      have R := HR.out
      obtain ⟨R0, R1, R2, R3, R4, R5, R6, R7⟩ := R
      obtain ⟨T0, T1⟩ := HT.out
      have f0 := HFR.out 0 (by decide); have f1 := HFR.out 1 (by decide); have f2 := HFR.out 2 (by decide); have f3 := HFR.out 3 (by decide); have f4 := HFR.out 4 (by decide); have f5 := HFR.out 5 (by decide); have f6 := HFR.out 6 (by decide); have f7 := HFR.out 7 (by decide)
      have t0 := HFT.out 0 (by decide); have t1 := HFT.out 1 (by decide)
      unfold sc0 allS at R0 R1 R2 R3 R4 R5 R6 R7
      simp only at R0 R1 R2 R3 R4 R5 R6 R7
      go_wp2
      have A8 := HR.out.put8 sc0
      have B8 := A8.put2 (p := p + 1 + 1 + 1) (a := .int .i64 0) (b := .slice none 0 0) (by omega)
      have C2 := two_put2 (a := .int .i64 0) (b := .slice none 0 0) (other8 (p := p + 1 + 1) (x := sc0) (by omega) T0) (other8 (p := p + 1 + 1) (x := sc0) (by omega) T1)
      obtain ⟨b0, b1, b2, b3, b4, b5, b6, b7⟩ := B8
      (try simp only [Exit.inBlock, Exit.then])
      change bodyPost Tryz.prog _ _ Exit.ret _ (put2 (put8 V2 (p + 1 + 1) sc0) (p + 1 + 1 + 1) (.int .i64 0) (.slice none 0 0))
      refine bodyPost_ret (by simp [results, Tryz.results78, go_sem, b0, b1, b2, b3, b4, b5, b6, b7, C2.1, C2.2]; try rfl) rfl ?_
      rw [← HQK.out]
      exact StepP.err rfl (Ok.put2 (Ok.put8 OK1.out (by omega)) (by omega))
  · have dk : (k != 0) = true := by simp [hk]
    have HQk := HQ.out
    rw [if_neg hk, if_neg hk] at HQk
    have HQK := Lib.hid HQk
    clear HQk X HIN
    obtain ⟨R0, R1, R2, R3, R4, R5, R6, R7⟩ := R
    have f0 := HFR.out 0 (by decide); have f1 := HFR.out 1 (by decide); have f2 := HFR.out 2 (by decide); have f3 := HFR.out 3 (by decide); have f4 := HFR.out 4 (by decide); have f5 := HFR.out 5 (by decide); have f6 := HFR.out 6 (by decide); have f7 := HFR.out 7 (by decide)
    have t0 := HFT.out 0 (by decide); have t1 := HFT.out 1 (by decide)
    unfold sc0 allS at R0 R1 R2 R3 R4 R5 R6 R7
    simp only at R0 R1 R2 R3 R4 R5 R6 R7
    go_wp2
    have A8 := HR.out.put8 sc0
    have B8 := A8.put2 (p := p + 1 + 1 + 1) (a := .int .i64 0) (b := .slice none 0 0) (by omega)
    have C2 := two_put2 (a := .int .i64 0) (b := .slice none 0 0) (other8 (p := p + 1 + 1) (x := sc0) (by omega) T0) (other8 (p := p + 1 + 1) (x := sc0) (by omega) T1)
    obtain ⟨b0, b1, b2, b3, b4, b5, b6, b7⟩ := B8
    (try simp only [Exit.inBlock, Exit.then])
    change bodyPost Tryz.prog _ _ Exit.ret _ (put2 (put8 V (p + 1 + 1) sc0) (p + 1 + 1 + 1) (.int .i64 0) (.slice none 0 0))
    refine bodyPost_ret (by simp [results, Tryz.results78, go_sem, b0, b1, b2, b3, b4, b5, b6, b7, C2.1, C2.2]; try rfl) rfl ?_
    rw [← HQK.out]
    exact StepP.err rfl (Ok.put2 (Ok.put8 OK1.out (by omega)) (by omega))
end Go.Proofs.YtdabdkedgigjdaaGreat
