/- Contract: what comes next of a configuration. -/
import Derived.Test.YtolfdncmlfnbdaaQg
import Derived.Laws.ResultCell
import Derived.Deep.RegionHeld3
namespace Go.Proofs.Ytolfdncmlfnbdaa
open Go.RowKit

theorem OwnZ.set {w : World} {base : Nat} {v : Value} {xs : List Int} (h : OwnZ w base v xs) (g o : Nat) (x : Value) (hg : g < base) : OwnZ (w.setCell ⟨g, o, none⟩ x) base v xs := by
  refine ⟨h.1, ?_⟩
  rcases h.2 with h0 | ⟨b, cap, cur, rfl, hb, hh, hr⟩
  · exact .inl h0
  · refine .inr ⟨b, cap, cur, rfl, hb, ?_, hr⟩
    rw [heap_setCell_other w ⟨g, o, none⟩ b x (fun e => by simp at e; omega)]
    exact hh
/-- A result's own four cells, as they are at the beginning: none is frozen. -/
def Free (w : World) (g : Nat) : Prop := At w g (.slice none 0 0) (.slice none 0 0) (.slice none 0 0) (.slice none 0 0) ∧
  w.frozen? ⟨g, 0, none⟩ = false ∧ w.frozen? ⟨g, 1, none⟩ = false ∧ w.frozen? ⟨g, 2, none⟩ = false ∧ w.frozen? ⟨g, 3, none⟩ = false
theorem Free.ok {w w' : World} {g : Nat} (h : Free w g) (k : Ok w w') : Free w' g := by
  have hg := World.block_lt_of_cell? _ _ h.1.1
  exact ⟨h.1.ok k, by rw [Below.frozen k (p := ⟨g, 0, none⟩) hg]; exact h.2.1, by rw [Below.frozen k (p := ⟨g, 1, none⟩) hg]; exact h.2.2.1,
    by rw [Below.frozen k (p := ⟨g, 2, none⟩) hg]; exact h.2.2.2.1, by rw [Below.frozen k (p := ⟨g, 3, none⟩) hg]; exact h.2.2.2.2⟩
theorem Free.new (w : World) (t : TypeId) : Free (w.alloc (.cells #[.slice none 0 0, .slice none 0 0, .slice none 0 0, .slice none 0 0] t)) w.heap.size := by
  refine ⟨At.new _ _ _ _ _ _, ?_, ?_, ?_, ?_⟩ <;> (rw [World.frozen?, heap_alloc_new]; simp)
/-- The three blocks that a call of 'Next' lays at its beginning. -/
def N3 (W : World) (cs : Array Value) : World := ((W.alloc (.cells cs 71)).alloc (.cells #[.slice none 0 0, .slice none 0 0, .slice none 0 0, .slice none 0 0] 71)).alloc (.cells cs 157)
theorem N3.ok (W : World) (cs : Array Value) : Ok W (N3 W cs) := (((Ok.refl W).alloc _).alloc _).alloc _
theorem N3.free (W : World) (cs : Array Value) : Free (N3 W cs) (W.heap.size + 1) := by
  have := (Free.new (W.alloc (.cells cs 71)) 71).ok ((Ok.refl _).alloc (.cells cs 157))
  rwa [World.size_alloc] at this
theorem N3.at (W : World) (v0 v1 v2 v3 : Value) : At (N3 W #[v0, v1, v2, v3]) (W.heap.size + 1 + 1) v0 v1 v2 v3 := by
  have := At.new ((W.alloc (.cells #[v0, v1, v2, v3] 71)).alloc (.cells #[.slice none 0 0, .slice none 0 0, .slice none 0 0, .slice none 0 0] 71)) v0 v1 v2 v3 157
  rwa [World.size_alloc, World.size_alloc] at this
theorem N3.at0 (W : World) (v0 v1 v2 v3 : Value) : At (N3 W #[v0, v1, v2, v3]) W.heap.size v0 v1 v2 v3 :=
  (At.new W v0 v1 v2 v3 71).ok (((Ok.refl _).alloc _).alloc _)

/-- The four cells of a result are laid. -/
def set4 (w : World) (g : Nat) (x0 x1 x2 x3 : Value) : World := (((w.setCell ⟨g, 0, none⟩ x0).setCell ⟨g, 1, none⟩ x1).setCell ⟨g, 2, none⟩ x2).setCell ⟨g, 3, none⟩ x3
theorem set4.ok {W w : World} {g : Nat} (h : Ok W w) (hg : W.heap.size ≤ g) (x0 x1 x2 x3 : Value) : Ok W (set4 w g x0 x1 x2 x3) :=
  Below.setCell (Below.setCell (Below.setCell (Below.setCell h hg _) hg _) hg _) hg _
theorem late {w w' : World} {B g : Nat} {v : Value} {xs : List Int} (h : OwnZ w B v xs) (k : Ok w w') (hg : g < B) (hl : xs.length ≤ 1000) (x0 x1 x2 x3 : Value) : InI (set4 w' g x0 x1 x2 x3) v xs :=
  OwnZ.ints (((((h.ok k).set g 0 x0 hg).set g 1 x1 hg).set g 2 x2 hg).set g 3 x3 hg) (by omega)
/-- A short row of the call's own. -/
def OwnL (w : World) (B : Nat) (v : Value) (xs : List Int) : Prop := OwnZ w B v xs ∧ xs.length ≤ 1000
theorem OwnL.nil (w : World) (B : Nat) : OwnL w B (.slice none 0 0) [] := ⟨OwnZ.nil _ _, by simp⟩
theorem lateO {W w w' : World} {B : Nat} {v : Value} {xs : List Int} (h : OwnZ w B v xs) (k : Ok w w') (hg : W.heap.size + 1 < B) (hl : xs.length ≤ 1000) (x0 x1 x2 x3 : Value) : OwnL (set4 w' (W.heap.size + 1) x0 x1 x2 x3) W.heap.size v xs :=
  ⟨World.ownsRow.mono (((((h.ok k).set _ 0 x0 hg).set _ 1 x1 hg).set _ 2 x2 hg).set _ 3 x3 hg) (by omega), hl⟩
/-- A configuration of four rows of the call's own. -/
def CfgO (w : World) (B : Nat) (v : Value) (c : Cfg) : Prop := ∃ a b d e, v = .agg #[a, b, d, e] ∧ OwnL w B a c.vs ∧ OwnL w B b c.os ∧ OwnL w B d c.ls ∧ OwnL w B e c.ws
theorem CfgO.of {w : World} {B : Nat} {v0 v1 v2 v3 : Value} {c : Cfg} (h1 : OwnL w B v0 c.vs) (h2 : OwnL w B v1 c.os) (h3 : OwnL w B v2 c.ls) (h4 : OwnL w B v3 c.ws) : CfgO w B (.agg #[v0, v1, v2, v3]) c := ⟨_, _, _, _, rfl, h1, h2, h3, h4⟩
theorem CfgO.cfg {w : World} {B : Nat} {v : Value} {c : Cfg} (h : CfgO w B v c) : CfgIn w v c := by
  obtain ⟨a, b, d, e, rfl, h1, h2, h3, h4⟩ := h
  exact ⟨a, b, d, e, rfl, h1.1.ints (by have := h1.2; omega), h2.1.ints (by have := h2.2; omega), h3.1.ints (by have := h3.2; omega), h4.1.ints (by have := h4.2; omega)⟩
theorem cfgO_none (w : World) (B : Nat) : CfgO w B (.agg #[.slice none 0 0, .slice none 0 0, .slice none 0 0, .slice none 0 0]) ⟨[], [], [], []⟩ := ⟨_, _, _, _, rfl, OwnL.nil _ _, OwnL.nil _ _, OwnL.nil _ _, OwnL.nil _ _⟩
/-- What the cell holds. -/
def cellOf (w : World) (g o : Nat) : Value := (w.cell? ⟨g, o, none⟩).getD undef
theorem cellOf_some {w : World} {g o : Nat} {x : Value} (h : w.cell? ⟨g, o, none⟩ = some x) : w.cell? ⟨g, o, none⟩ = some (cellOf w g o) := by
  rw [cellOf, h]; rfl
/-- A result's own four cells, whatever they hold: none is frozen. -/
def Room (w : World) (g : Nat) : Prop :=
  w.cell? ⟨g, 0, none⟩ = some (cellOf w g 0) ∧ w.cell? ⟨g, 1, none⟩ = some (cellOf w g 1) ∧ w.cell? ⟨g, 2, none⟩ = some (cellOf w g 2) ∧ w.cell? ⟨g, 3, none⟩ = some (cellOf w g 3) ∧
  w.frozen? ⟨g, 0, none⟩ = false ∧ w.frozen? ⟨g, 1, none⟩ = false ∧ w.frozen? ⟨g, 2, none⟩ = false ∧ w.frozen? ⟨g, 3, none⟩ = false
theorem Free.room {w : World} {g : Nat} (h : Free w g) : Room w g := ⟨cellOf_some h.1.1, cellOf_some h.1.2.1, cellOf_some h.1.2.2.1, cellOf_some h.1.2.2.2, h.2.1, h.2.2.1, h.2.2.2.1, h.2.2.2.2⟩
theorem S7 {W w1 w' : World} {g : Nat} {v0 v1 v2 v3 : Value} (hO : Ok W w1) (h : At w1 (g + 1) v0 v1 v2 v3) (f : Free w1 g) (k : Ok w1 w') :
    w'.cell? ⟨g + 1, 0, none⟩ = some v0 ∧ w'.cell? ⟨g + 1, 1, none⟩ = some v1 ∧ w'.cell? ⟨g + 1, 2, none⟩ = some v2 ∧ w'.cell? ⟨g + 1, 3, none⟩ = some v3 ∧ OkS W w' ∧ Room w' g :=
  ⟨k.cell h.1, k.cell h.2.1, k.cell h.2.2.1, k.cell h.2.2.2, ⟨hO.trans k⟩, (f.ok k).room⟩
theorem cell_set {w : World} {g h o o' : Nat} {x v : Value} (hn : h ≠ g) (e : w.cell? ⟨h, o', none⟩ = some v) : (w.setCell ⟨g, o, none⟩ x).cell? ⟨h, o', none⟩ = some v := by
  rw [← e]
  unfold World.cell?
  rw [heap_setCell_other w ⟨g, o, none⟩ h x hn]
theorem cell_stays {w : World} {p q : Addr} {x v : Value} (h : w.cell? q = some v) : ∃ v', (w.setCell p x).cell? q = some v' := by
  by_cases e : p = q
  · subst e; exact ⟨_, World.cell?_setCell_same _ _ _ h⟩
  · exact ⟨_, by rw [World.cell?_setCell_other _ _ _ _ e]; exact h⟩
theorem room_set {w : World} {g o : Nat} {x : Value} (h : Room w g) : Room (w.setCell ⟨g, o, none⟩ x) g := by
  obtain ⟨h0, h1, h2, h3, f0, f1, f2, f3⟩ := h
  obtain ⟨_, e0⟩ := cell_stays (p := ⟨g, o, none⟩) (x := x) h0
  obtain ⟨_, e1⟩ := cell_stays (p := ⟨g, o, none⟩) (x := x) h1
  obtain ⟨_, e2⟩ := cell_stays (p := ⟨g, o, none⟩) (x := x) h2
  obtain ⟨_, e3⟩ := cell_stays (p := ⟨g, o, none⟩) (x := x) h3
  refine ⟨cellOf_some e0, cellOf_some e1, cellOf_some e2, cellOf_some e3, ?_, ?_, ?_, ?_⟩ <;> (rw [World.frozen?_setCell]; assumption)
theorem S7set {W w : World} {g : Nat} {v0 v1 v2 v3 : Value} (hg : W.heap.size ≤ g) (h : w.cell? ⟨g + 1, 0, none⟩ = some v0 ∧ w.cell? ⟨g + 1, 1, none⟩ = some v1 ∧ w.cell? ⟨g + 1, 2, none⟩ = some v2 ∧ w.cell? ⟨g + 1, 3, none⟩ = some v3 ∧ OkS W w ∧ Room w g) (x0 x1 x2 x3 : Value) :
    (set4 w g x0 x1 x2 x3).cell? ⟨g + 1, 0, none⟩ = some v0 ∧ (set4 w g x0 x1 x2 x3).cell? ⟨g + 1, 1, none⟩ = some v1 ∧ (set4 w g x0 x1 x2 x3).cell? ⟨g + 1, 2, none⟩ = some v2 ∧ (set4 w g x0 x1 x2 x3).cell? ⟨g + 1, 3, none⟩ = some v3 ∧ OkS W (set4 w g x0 x1 x2 x3) ∧ Room (set4 w g x0 x1 x2 x3) g := by
  obtain ⟨h0, h1, h2, h3, hk, hr⟩ := h
  have hne : g + 1 ≠ g := by omega
  exact ⟨cell_set hne (cell_set hne (cell_set hne (cell_set hne h0))), cell_set hne (cell_set hne (cell_set hne (cell_set hne h1))), cell_set hne (cell_set hne (cell_set hne (cell_set hne h2))), cell_set hne (cell_set hne (cell_set hne (cell_set hne h3))), ⟨set4.ok hk.out hg _ _ _ _⟩, room_set (room_set (room_set (room_set hr)))⟩

set_option maxHeartbeats 1000000 in
theorem ret4 {fn : Func} {p u : Tmp} (hfn : fn.results = #[.cell p 71, .tmp u]) (tmps : Array Value) (w : World) (g : Nat) (x0 x1 x2 x3 b : Value) (hr : Room w g) (hp : tmps.getD p undef = .pointer (some ⟨g, 0, none⟩)) (hu : tmps.getD u undef = b) :
    (results fn tmps).run Try.prog (set4 w g x0 x1 x2 x3) = .ok (.tuple #[.agg #[x0, x1, x2, x3], b]) (set4 w g x0 x1 x2 x3) := by
  rw [results_cell_tmp hfn, hp, hu]
  unfold set4
  obtain ⟨h0, h1, h2, h3, f0, f1, f2, f3⟩ := hr
  go_simp

def NextPost (W : World) (d : Option Cfg) (e : Ending) (w' : World) : Prop :=
  ∃ v, e = .returned (.tuple #[v, .bool d.isSome]) ∧ CfgIn w' v (d.getD ⟨[], [], [], []⟩) ∧ Ok W w'
theorem cfg_none (w : World) : CfgIn w (.agg #[.slice none 0 0, .slice none 0 0, .slice none 0 0, .slice none 0 0]) ⟨[], [], [], []⟩ := ⟨_, _, _, _, rfl, InI.nil _, InI.nil _, InI.nil _, InI.nil _⟩

def NextPostO (W : World) (d : Option Cfg) (e : Ending) (w' : World) : Prop :=
  ∃ v, e = .returned (.tuple #[v, .bool d.isSome]) ∧ CfgO w' W.heap.size v (d.getD ⟨[], [], [], []⟩) ∧ Ok W w'

set_option maxRecDepth 100000 in
set_option maxHeartbeats 4000000 in
theorem next_o (v : Value) (c : Cfg) (W : World) (h : CfgIn W v c) :
    Calls Try.prog 44 #[v] W (NextPostO W (nextC c)) := by
  obtain ⟨A0, c0, A1, c1, A2, c2, A3, c3, rfl, h1, h2, h3, h4⟩ := h.forms
  have HC := Lib.hid h
  have H1 := Lib.hid h1
  have H4 := Lib.hid h4
  clear h h1 h2 h3 h4
  have HD : Hid (nextC c = if rightB c && !noB c.ws then (if noB c.os then some ⟨c.ws, c.vs, [], c.ws⟩ else some ⟨c.vs, [], [], []⟩) else none) := Lib.hid rfl
  have hz3 := noB_int c.ws _ rfl
  have HR := Lib.hid (@right_rows c)
  have HAT0 := Lib.hid (N3.at W (.slice A0 c.vs.length c0) (.slice A1 c.os.length c1) (.slice A2 c.ls.length c2) (.slice A3 c.ws.length c3))
  have HBX0 := Lib.hid (N3.at0 W (.slice A0 c.vs.length c0) (.slice A1 c.os.length c1) (.slice A2 c.ls.length c2) (.slice A3 c.ws.length c3))
  have HFR0 := Lib.hid (N3.free W #[(.slice A0 c.vs.length c0), (.slice A1 c.os.length c1), (.slice A2 c.ls.length c2), (.slice A3 c.ws.length c3)])
  have HOK0 := Lib.hid (N3.ok W #[(.slice A0 c.vs.length c0), (.slice A1 c.os.length c1), (.slice A2 c.ls.length c2), (.slice A3 c.ws.length c3)])
  generalize hn0 : c.vs.length = n0 at *
  generalize hn1 : c.os.length = n1 at *
  generalize hn2 : c.ls.length = n2 at *
  generalize hn3 : c.ws.length = n3 at *
  have HN0 := Lib.hid hn0
  have HN3 := Lib.hid hn3
  clear hn0 hn1 hn2 hn3
  go_enter Try.func44, Try.ntmps44
  go_wp2_with fail
  change Calls _ _ _ (N3 W #[.slice A0 n0 c0, .slice A1 n1 c1, .slice A2 n2 c2, .slice A3 n3 c3]) _
  generalize hW1 : N3 W #[.slice A0 n0 c0, .slice A1 n1 c1, .slice A2 n2 c2, .slice A3 n3 c3] = W1 at *
  clear hW1
  refine (right_q _ c _ (HOK0.out.cfg HC.out)).mono ?_
  rintro e w1 ⟨rfl, hok1⟩
  have HO1 : Hid (Ok W w1) := Lib.hid (HOK0.out.trans hok1)
  have hat := HAT0.out.ok hok1
  have HAT := Lib.hid hat
  obtain ⟨hc0, hc1, hc2, hc3⟩ := hat
  have hfr := HFR0.out.ok hok1
  have HFR := Lib.hid hfr
  obtain ⟨⟨hr0, hr1, hr2, hr3⟩, hf0, hf1, hf2, hf3⟩ := hfr
  have hbx := HBX0.out.ok hok1
  have HBX := Lib.hid hbx
  clear hok1 hbx
  have HSZ : Hid (W.heap.size + 1 < w1.heap.size) := Lib.hid (World.block_lt_of_cell? _ _ hr0)
  have HG : Hid (W.heap.size ≤ W.heap.size + 1) := Lib.hid (Nat.le_succ _)
  cases hr : rightB c with
  | false =>
    rw [hr] at HD
    go_wp2_with fail
    refine bodyPost_ret (v := .tuple #[.agg #[.slice none 0 0, .slice none 0 0, .slice none 0 0, .slice none 0 0], .bool false]) (by rw [results_cell_tmp rfl]; go_simp) rfl ?_
    rw [HD.out]
    exact ⟨_, rfl, cfgO_none _ _, set4.ok HO1.out HG.out _ _ _ _⟩
  | true =>
  rw [hr] at HD
  have HL0 : Hid (c.vs.length ≤ 1000) := Lib.hid (Nat.le_trans (rowB_len _ (HR.out hr).1) (by decide))
  have HL3 : Hid (c.ws.length ≤ 1000) := Lib.hid (Nat.le_trans (rowB_len _ (HR.out hr).2.2.2) (by decide))
  clear hr HR
  cases hw : noB c.ws with
  | true =>
    rw [hw] at HD hz3
    go_wp2_with fail
    refine bodyPost_ret (v := .tuple #[.agg #[.slice none 0 0, .slice none 0 0, .slice none 0 0, .slice none 0 0], .bool false]) (by rw [results_cell_tmp rfl]; go_simp) rfl ?_
    rw [HD.out]
    exact ⟨_, rfl, cfgO_none _ _, set4.ok HO1.out HG.out _ _ _ _⟩
  | false =>
  rw [hw] at HD hz3
  clear hw
  go_wp2_with fail
  refine (joint_q _ c _ (HO1.out.cfg HC.out)).mono ?_
  rintro e w2 ⟨rfl, hok2⟩
  have HO2 : Hid (Ok W w2) := Lib.hid (HO1.out.trans hok2)
  have hat := HAT.out.ok hok2
  have HAT2 := Lib.hid hat
  obtain ⟨hd0, hd1, hd2, hd3⟩ := hat
  have hfr := HFR.out.ok hok2
  have HFR2 := Lib.hid hfr
  obtain ⟨⟨hs0, hs1, hs2, hs3⟩, hg0, hg1, hg2, hg3⟩ := hfr
  have HSZ2 : Hid (W.heap.size + 1 < w2.heap.size) := Lib.hid (World.block_lt_of_cell? _ _ hs0)
  clear hok2 hc0 hc1 hc2 hc3 hr0 hr1 hr2 hr3 hf0 hf1 hf2 hf3 HAT HFR HSZ HBX HAT0 HBX0 HFR0 HOK0
  cases ho : noB c.os with
  | false =>
    rw [ho] at HD
    clear ho
    go_wp2_with fail
    refine (clone_q _ c.vs _ (HO2.out.ints H1.out) HL0.out).mono ?_
    rw [HN0.out]
    rintro e w3 ⟨⟨A, cc, rfl, how⟩, hok3⟩
    have HOW := Lib.hid how
    have HO3 : Hid (Ok W w3) := Lib.hid (HO2.out.trans hok3)
    obtain ⟨⟨hr0, hr1, hr2, hr3⟩, hf0, hf1, hf2, hf3⟩ := HFR2.out.ok hok3
    clear how hok3 hs0 hs1 hs2 hs3 hg0 hg1 hg2 hg3 hd0 hd1 hd2 hd3
    go_wp2_with fail
    refine bodyPost_ret (v := .tuple #[.agg #[.slice A n0 cc, .slice none 0 0, .slice none 0 0, .slice none 0 0], .bool true]) (by rw [results_cell_tmp rfl]; go_simp) rfl ?_
    rw [HD.out]
    exact ⟨_, rfl, CfgO.of (lateO HOW.out (Ok.refl _) HSZ2.out HL0.out _ _ _ _) (OwnL.nil _ _) (OwnL.nil _ _) (OwnL.nil _ _), set4.ok HO3.out HG.out _ _ _ _⟩
  | true =>
    rw [ho] at HD
    clear ho
    have HCW : Hid (∀ w, Ok w2 w → Calls Try.prog 104 #[.slice A3 n3 c3] w fun e w' => (∃ A cc, e = .returned (.slice A n3 cc) ∧ OwnZ w' w2.heap.size (.slice A n3 cc) c.ws) ∧ Ok w w') := Lib.hid fun w hw => by
      have := clone_q _ c.ws w ((HO2.out.trans hw).ints H4.out) HL3.out
      rw [HN3.out] at this
      exact this.mono fun _ _ ⟨⟨A, cc, he, ho⟩, hk⟩ => ⟨⟨A, cc, he, World.ownsRow.mono ho hw.size⟩, hk⟩
    have HCV : Hid (∀ w, Ok w2 w → Calls Try.prog 104 #[.slice A0 n0 c0] w fun e w' => (∃ A cc, e = .returned (.slice A n0 cc) ∧ OwnZ w' w2.heap.size (.slice A n0 cc) c.vs) ∧ Ok w w') := Lib.hid fun w hw => by
      have := clone_q _ c.vs w ((HO2.out.trans hw).ints H1.out) HL0.out
      rw [HN0.out] at this
      exact this.mono fun _ _ ⟨⟨A, cc, he, ho⟩, hk⟩ => ⟨⟨A, cc, he, World.ownsRow.mono ho hw.size⟩, hk⟩
    clear hs0 hs1 hs2 hs3 hg0 hg1 hg2 hg3 hd0 hd1 hd2 hd3 H1 H4 HC HO1 hz3
    go_wp2_with fail
    go_region_held3 (fun w' => w'.cell? ⟨W.heap.size + 1 + 1, 0, none⟩ = some (.slice A0 n0 c0) ∧ w'.cell? ⟨W.heap.size + 1 + 1, 1, none⟩ = some (.slice A1 n1 c1) ∧ w'.cell? ⟨W.heap.size + 1 + 1, 2, none⟩ = some (.slice A2 n2 c2) ∧ w'.cell? ⟨W.heap.size + 1 + 1, 3, none⟩ = some (.slice A3 n3 c3) ∧ OkS W w' ∧ w'.cell? ⟨W.heap.size + 1, 0, none⟩ = some (cellOf w' (W.heap.size + 1) 0) ∧ w'.cell? ⟨W.heap.size + 1, 1, none⟩ = some (cellOf w' (W.heap.size + 1) 1) ∧ w'.cell? ⟨W.heap.size + 1, 2, none⟩ = some (cellOf w' (W.heap.size + 1) 2) ∧ w'.cell? ⟨W.heap.size + 1, 3, none⟩ = some (cellOf w' (W.heap.size + 1) 3) ∧ w'.frozen? ⟨W.heap.size + 1, 0, none⟩ = false ∧ w'.frozen? ⟨W.heap.size + 1, 1, none⟩ = false ∧ w'.frozen? ⟨W.heap.size + 1, 2, none⟩ = false ∧ w'.frozen? ⟨W.heap.size + 1, 3, none⟩ = false)
      ((first
        | (refine S7 HO2.out HAT2.out HFR2.out ?_; (repeat (first | (with_reducible exact Ok.refl _) | (with_reducible refine Ok.drew ?_) | (with_reducible refine Ok.trans ?_ (by assumption)))); done)
        | (exact S7set HG.out (by assumption) _ _ _ _)))
      ((first
        | (go_at_call 104; (with_reducible refine (HCW.out _ ?_).mono ?_); (repeat (first | (with_reducible exact Ok.refl _) | (with_reducible refine Ok.drew ?_) | (with_reducible refine Ok.trans ?_ (by assumption)))); rintro e wc ⟨⟨A, cc, rfl, hown⟩, hbc⟩)
        | (go_at_call 104; (with_reducible refine (HCV.out _ ?_).mono ?_); (repeat (first | (with_reducible exact Ok.refl _) | (with_reducible refine Ok.drew ?_) | (with_reducible refine Ok.trans ?_ (by assumption)))); rintro e wc ⟨⟨A, cc, rfl, hown⟩, hbc⟩)))
    all_goals go_wp2_with fail
    all_goals refine bodyPost_ret (ret4 rfl _ _ (W.heap.size + 1) _ _ _ _ _ (Free.room (HFR2.out.ok ?_)) rfl rfl) rfl ?_
    all_goals (first | (rw [HD.out]; refine ⟨_, rfl, CfgO.of (lateO (by assumption) ?_ HSZ2.out HL3.out _ _ _ _) (lateO (by assumption) ?_ HSZ2.out HL0.out _ _ _ _) (OwnL.nil _ _) (lateO (by assumption) ?_ HSZ2.out HL3.out _ _ _ _), set4.ok (Ok.trans HO2.out ?_) HG.out _ _ _ _⟩) | skip)
    all_goals (repeat (first | (with_reducible exact Ok.refl _) | (with_reducible refine Ok.drew ?_) | (with_reducible refine Ok.trans ?_ (by assumption))))
theorem next_q (v : Value) (c : Cfg) (W : World) (h : CfgIn W v c) : Calls Try.prog 44 #[v] W (NextPost W (nextC c)) :=
  (next_o v c W h).mono fun _ _ ⟨v, he, hc, hk⟩ => ⟨v, he, hc.cfg, hk⟩
end Go.Proofs.Ytolfdncmlfnbdaa
