/- Configurations lent, kept, written over. -/
import Derived.Test.YtolfdncmlfnbdaaUd
import Derived.Laws.ResultCell
namespace Go.Proofs.Ytolfdncmlfnbdaa
open Go.RowKit

/-- Four cells of a block, none frozen. -/
structure XS (w : World) (g : Nat) (v0 v1 v2 v3 : Value) : Prop where
  at4 : At w g v0 v1 v2 v3
  f0 : w.frozen? ⟨g, 0, none⟩ = false
  f1 : w.frozen? ⟨g, 1, none⟩ = false
  f2 : w.frozen? ⟨g, 2, none⟩ = false
  f3 : w.frozen? ⟨g, 3, none⟩ = false
theorem XS.ok {w w' : World} {g : Nat} {v0 v1 v2 v3 : Value} (h : XS w g v0 v1 v2 v3) (k : Ok w w') : XS w' g v0 v1 v2 v3 := by
  have hg := World.block_lt_of_cell? _ _ h.at4.1
  exact ⟨h.at4.ok k, by rw [Below.frozen k (p := ⟨g, 0, none⟩) hg]; exact h.f0, by rw [Below.frozen k (p := ⟨g, 1, none⟩) hg]; exact h.f1,
    by rw [Below.frozen k (p := ⟨g, 2, none⟩) hg]; exact h.f2, by rw [Below.frozen k (p := ⟨g, 3, none⟩) hg]; exact h.f3⟩
theorem XS.new (w : World) (v0 v1 v2 v3 : Value) (t : TypeId) : XS (w.alloc (.cells #[v0, v1, v2, v3] t)) w.heap.size v0 v1 v2 v3 := by
  refine ⟨At.new _ _ _ _ _ _, ?_, ?_, ?_, ?_⟩ <;> (rw [World.frozen?, heap_alloc_new]; simp)
theorem XS.other {w : World} {g : Nat} {v0 v1 v2 v3 : Value} (h : XS w g v0 v1 v2 v3) (p o : Nat) (x : Value) (hp : g ≠ p) : XS (w.setCell ⟨p, o, none⟩ x) g v0 v1 v2 v3 :=
  ⟨⟨cell_set hp h.at4.1, cell_set hp h.at4.2.1, cell_set hp h.at4.2.2.1, cell_set hp h.at4.2.2.2⟩, by rw [World.frozen?_setCell]; exact h.f0, by rw [World.frozen?_setCell]; exact h.f1, by rw [World.frozen?_setCell]; exact h.f2, by rw [World.frozen?_setCell]; exact h.f3⟩
theorem XS.set0 {w : World} {g : Nat} {v0 v1 v2 v3 : Value} (h : XS w g v0 v1 v2 v3) (x : Value) : XS (w.setCell ⟨g, 0, none⟩ x) g x v1 v2 v3 := by
  obtain ⟨⟨c0, c1, c2, c3⟩, f0, f1, f2, f3⟩ := h
  refine ⟨⟨?_, ?_, ?_, ?_⟩, ?_, ?_, ?_, ?_⟩ <;> go_simp
theorem XS.set1 {w : World} {g : Nat} {v0 v1 v2 v3 : Value} (h : XS w g v0 v1 v2 v3) (x : Value) : XS (w.setCell ⟨g, 1, none⟩ x) g v0 x v2 v3 := by
  obtain ⟨⟨c0, c1, c2, c3⟩, f0, f1, f2, f3⟩ := h
  refine ⟨⟨?_, ?_, ?_, ?_⟩, ?_, ?_, ?_, ?_⟩ <;> go_simp
theorem XS.set2 {w : World} {g : Nat} {v0 v1 v2 v3 : Value} (h : XS w g v0 v1 v2 v3) (x : Value) : XS (w.setCell ⟨g, 2, none⟩ x) g v0 v1 x v3 := by
  obtain ⟨⟨c0, c1, c2, c3⟩, f0, f1, f2, f3⟩ := h
  refine ⟨⟨?_, ?_, ?_, ?_⟩, ?_, ?_, ?_, ?_⟩ <;> go_simp
theorem XS.set3 {w : World} {g : Nat} {v0 v1 v2 v3 : Value} (h : XS w g v0 v1 v2 v3) (x : Value) : XS (w.setCell ⟨g, 3, none⟩ x) g v0 v1 v2 x := by
  obtain ⟨⟨c0, c1, c2, c3⟩, f0, f1, f2, f3⟩ := h
  refine ⟨⟨?_, ?_, ?_, ?_⟩, ?_, ?_, ?_, ?_⟩ <;> go_simp
theorem XS.room {w : World} {g : Nat} {v0 v1 v2 v3 : Value} (h : XS w g v0 v1 v2 v3) : Room w g :=
  ⟨cellOf_some h.at4.1, cellOf_some h.at4.2.1, cellOf_some h.at4.2.2.1, cellOf_some h.at4.2.2.2, h.f0, h.f1, h.f2, h.f3⟩

/-- A configuration that was lent. -/
def LentC (w : World) (B : Nat) (v : Value) (c : Cfg) : Prop := ∃ a b d e, v = .agg #[a, b, d, e] ∧ LentZ w B a c.vs ∧ LentZ w B b c.os ∧ LentZ w B d c.ls ∧ LentZ w B e c.ws
theorem LentC.ok {w w' : World} {B : Nat} {v : Value} {c : Cfg} (h : LentC w B v c) (k : Ok w w') : LentC w' B v c := by
  obtain ⟨a, b, d, e, rfl, h1, h2, h3, h4⟩ := h
  exact ⟨a, b, d, e, rfl, h1.ok k, h2.ok k, h3.ok k, h4.ok k⟩
theorem LentC.mono {w : World} {B B' : Nat} {v : Value} {c : Cfg} (h : LentC w B v c) (k : B' ≤ B) : LentC w B' v c := by
  obtain ⟨a, b, d, e, rfl, h1, h2, h3, h4⟩ := h
  exact ⟨a, b, d, e, rfl, h1.mono k, h2.mono k, h3.mono k, h4.mono k⟩
theorem LentC.set {w : World} {B : Nat} {v : Value} {c : Cfg} (h : LentC w B v c) (p o : Nat) (x : Value) (hp : p < B) : LentC (w.setCell ⟨p, o, none⟩ x) B v c := by
  obtain ⟨a, b, d, e, rfl, h1, h2, h3, h4⟩ := h
  exact ⟨a, b, d, e, rfl, h1.set p o x hp, h2.set p o x hp, h3.set p o x hp, h4.set p o x hp⟩
theorem LentC.cfg {w : World} {B : Nat} {v : Value} {c : Cfg} (h : LentC w B v c) : CfgIn w v c := by
  obtain ⟨a, b, d, e, rfl, h1, h2, h3, h4⟩ := h
  exact ⟨a, b, d, e, rfl, h1.ints, h2.ints, h3.ints, h4.ints⟩
def LentCP (W : World) (c : Cfg) (e : Ending) (w' : World) : Prop := ∃ v, e = .returned v ∧ LentC w' W.heap.size v c ∧ Ok W w'
def Short (c : Cfg) : Prop := c.vs.length ≤ 1000 ∧ c.os.length ≤ 1000 ∧ c.ls.length ≤ 1000 ∧ c.ws.length ≤ 1000

theorem results_cell1 {fn : Func} {p : Tmp} {ty : TypeId} (h : fn.results = #[.cell p ty]) (tmps : Array Value) (P : Program) (w : World) :
    (results fn tmps).run P w = ((asAddr (tmps.getD p undef)).run P w).andThen fun a w₁ => (loadVar ty a).run P w₁ := by
  simp only [results, h]
  simp [Sem.run_bind]
set_option maxHeartbeats 1000000 in
theorem ret4s {fn : Func} {p : Tmp} (hfn : fn.results = #[.cell p 71]) (tmps : Array Value) (w : World) (g : Nat) (x0 x1 x2 x3 : Value) (hr : Room w g) (hp : tmps.getD p undef = .pointer (some ⟨g, 0, none⟩)) :
    (results fn tmps).run Try.prog (set4 w g x0 x1 x2 x3) = .ok (.agg #[x0, x1, x2, x3]) (set4 w g x0 x1 x2 x3) := by
  rw [results_cell1 hfn, hp]
  unfold set4
  obtain ⟨h0, h1, h2, h3, f0, f1, f2, f3⟩ := hr
  go_simp

set_option maxRecDepth 100000 in
set_option maxHeartbeats 8000000 in
theorem lentConfig_w (v : Value) (c : Cfg) (W : World) (h : CfgIn W v c) (hs : Short c) : Calls Try.prog 40 #[v] W (LentCP W c) := by
  obtain ⟨A0, c0, A1, c1, A2, c2, A3, c3, rfl, h1, h2, h3, h4⟩ := h.forms
  have H1 := Lib.hid h1
  have H2 := Lib.hid h2
  have H3 := Lib.hid h3
  have H4 := Lib.hid h4
  have HSH := Lib.hid hs
  clear h h1 h2 h3 h4 hs
  have HX0 := Lib.hid ((XS.new W (.slice A0 c.vs.length c0) (.slice A1 c.os.length c1) (.slice A2 c.ls.length c2) (.slice A3 c.ws.length c3) 71).ok ((Ok.refl _).alloc (.cells #[.slice none 0 0, .slice none 0 0, .slice none 0 0, .slice none 0 0] 71)))
  have HR0 : Hid (XS ((W.alloc (.cells #[.slice A0 c.vs.length c0, .slice A1 c.os.length c1, .slice A2 c.ls.length c2, .slice A3 c.ws.length c3] 71)).alloc (.cells #[.slice none 0 0, .slice none 0 0, .slice none 0 0, .slice none 0 0] 71)) (W.heap.size + 1) (.slice none 0 0) (.slice none 0 0) (.slice none 0 0) (.slice none 0 0)) := Lib.hid (by
    have := XS.new (W.alloc (.cells #[.slice A0 c.vs.length c0, .slice A1 c.os.length c1, .slice A2 c.ls.length c2, .slice A3 c.ws.length c3] 71)) (.slice none 0 0) (.slice none 0 0) (.slice none 0 0) (.slice none 0 0) 71
    rwa [World.size_alloc] at this)
  have HOK0 : Hid (Ok W ((W.alloc (.cells #[.slice A0 c.vs.length c0, .slice A1 c.os.length c1, .slice A2 c.ls.length c2, .slice A3 c.ws.length c3] 71)).alloc (.cells #[.slice none 0 0, .slice none 0 0, .slice none 0 0, .slice none 0 0] 71))) := Lib.hid (((Ok.refl W).alloc _).alloc _)
  have HZ0 : Hid (W.heap.size + 2 ≤ ((W.alloc (.cells #[.slice A0 c.vs.length c0, .slice A1 c.os.length c1, .slice A2 c.ls.length c2, .slice A3 c.ws.length c3] 71)).alloc (.cells #[.slice none 0 0, .slice none 0 0, .slice none 0 0, .slice none 0 0] 71)).heap.size) := Lib.hid (by simp [World.size_alloc])
  generalize c.vs.length = n0 at *
  generalize c.os.length = n1 at *
  generalize c.ls.length = n2 at *
  generalize c.ws.length = n3 at *
  go_enter Try.func40, Try.ntmps40
  obtain ⟨⟨hc0, hc1, hc2, hc3⟩, hf0, hf1, hf2, hf3⟩ := HX0.out
  go_wp2_with fail
  clear hc0 hc1 hc2 hc3 hf0 hf1 hf2 hf3
  generalize ((W.alloc (.cells #[.slice A0 n0 c0, .slice A1 n1 c1, .slice A2 n2 c2, .slice A3 n3 c3] 71)).alloc (.cells #[.slice none 0 0, .slice none 0 0, .slice none 0 0, .slice none 0 0] 71)) = W1 at *
  obtain ⟨g, hg⟩ : ∃ g, W.heap.size = g := ⟨_, rfl⟩
  have HG := Lib.hid hg
  rw [hg] at HX0 HR0 HZ0 ⊢
  clear hg
  refine (lentInts_w _ c.vs W1 (HOK0.out.ints H1.out) HSH.out.1).mono ?_
  rintro e w1 ⟨a, rfl, hl, hok⟩
  obtain ⟨E0, k0, rfl⟩ := hl.form
  have HL1 := Lib.hid ((hl.set g 0 (.slice E0 c.vs.length k0) (by have := HZ0.out; omega)).mono HZ0.out)
  have HX1 := Lib.hid ((HX0.out.ok hok).set0 (.slice E0 c.vs.length k0))
  have HR1 := Lib.hid ((HR0.out.ok hok).other g 0 (.slice E0 c.vs.length k0) (by omega))
  have HK1 : Hid (Ok W (w1.setCell ⟨g, 0, none⟩ (.slice E0 c.vs.length k0))) := Lib.hid (Below.setCell (HOK0.out.trans hok) (by rw [HG.out]; exact Nat.le_refl _) _)
  have HZ1 : Hid (g + 2 ≤ (w1.setCell ⟨g, 0, none⟩ (.slice E0 c.vs.length k0)).heap.size) := Lib.hid (by simp only [World.size_setCell]; exact Nat.le_trans HZ0.out hok.size)
  obtain ⟨⟨hc0, hc1, hc2, hc3⟩, hf0, hf1, hf2, hf3⟩ := HX0.out.ok hok
  clear hl hok
  go_wp2_with fail
  clear hc0 hc1 hc2 hc3 hf0 hf1 hf2 hf3
  generalize (w1.setCell ⟨g, 0, none⟩ (.slice E0 c.vs.length k0)) = W2 at *
  refine (lentInts_w _ c.os W2 (HK1.out.ints H2.out) HSH.out.2.1).mono ?_
  rintro e w2 ⟨b, rfl, hl, hok⟩
  obtain ⟨E1, k1, rfl⟩ := hl.form
  have HM1 := Lib.hid ((HL1.out.ok hok).set g 1 (.slice E1 c.os.length k1) (by omega))
  have HL2 := Lib.hid ((hl.set g 1 (.slice E1 c.os.length k1) (by have := HZ1.out; omega)).mono HZ1.out)
  have HX2 := Lib.hid ((HX1.out.ok hok).set1 (.slice E1 c.os.length k1))
  have HR2 := Lib.hid ((HR1.out.ok hok).other g 1 (.slice E1 c.os.length k1) (by omega))
  have HK2 : Hid (Ok W (w2.setCell ⟨g, 1, none⟩ (.slice E1 c.os.length k1))) := Lib.hid (Below.setCell (HK1.out.trans hok) (by rw [HG.out]; exact Nat.le_refl _) _)
  have HZ2 : Hid (g + 2 ≤ (w2.setCell ⟨g, 1, none⟩ (.slice E1 c.os.length k1)).heap.size) := Lib.hid (by simp only [World.size_setCell]; exact Nat.le_trans HZ1.out hok.size)
  obtain ⟨⟨hc0, hc1, hc2, hc3⟩, hf0, hf1, hf2, hf3⟩ := HX1.out.ok hok
  clear hl hok
  go_wp2_with fail
  clear hc0 hc1 hc2 hc3 hf0 hf1 hf2 hf3
  generalize (w2.setCell ⟨g, 1, none⟩ (.slice E1 c.os.length k1)) = W3 at *
  refine (lentInts_w _ c.ls W3 (HK2.out.ints H3.out) HSH.out.2.2.1).mono ?_
  rintro e w3 ⟨d, rfl, hl, hok⟩
  obtain ⟨E2, k2, rfl⟩ := hl.form
  have HN1 := Lib.hid ((HM1.out.ok hok).set g 2 (.slice E2 c.ls.length k2) (by omega))
  have HN2 := Lib.hid ((HL2.out.ok hok).set g 2 (.slice E2 c.ls.length k2) (by omega))
  have HL3 := Lib.hid ((hl.set g 2 (.slice E2 c.ls.length k2) (by have := HZ2.out; omega)).mono HZ2.out)
  have HX3 := Lib.hid ((HX2.out.ok hok).set2 (.slice E2 c.ls.length k2))
  have HR3 := Lib.hid ((HR2.out.ok hok).other g 2 (.slice E2 c.ls.length k2) (by omega))
  have HK3 : Hid (Ok W (w3.setCell ⟨g, 2, none⟩ (.slice E2 c.ls.length k2))) := Lib.hid (Below.setCell (HK2.out.trans hok) (by rw [HG.out]; exact Nat.le_refl _) _)
  have HZ3 : Hid (g + 2 ≤ (w3.setCell ⟨g, 2, none⟩ (.slice E2 c.ls.length k2)).heap.size) := Lib.hid (by simp only [World.size_setCell]; exact Nat.le_trans HZ2.out hok.size)
  obtain ⟨⟨hc0, hc1, hc2, hc3⟩, hf0, hf1, hf2, hf3⟩ := HX2.out.ok hok
  clear hl hok
  go_wp2_with fail
  clear hc0 hc1 hc2 hc3 hf0 hf1 hf2 hf3
  generalize (w3.setCell ⟨g, 2, none⟩ (.slice E2 c.ls.length k2)) = W4 at *
  refine (lentInts_w _ c.ws W4 (HK3.out.ints H4.out) HSH.out.2.2.2).mono ?_
  rintro e w4 ⟨f, rfl, hl, hok⟩
  obtain ⟨E3, k3, rfl⟩ := hl.form
  have HP1 := Lib.hid ((HN1.out.ok hok).set g 3 (.slice E3 c.ws.length k3) (by omega))
  have HP2 := Lib.hid ((HN2.out.ok hok).set g 3 (.slice E3 c.ws.length k3) (by omega))
  have HP3 := Lib.hid ((HL3.out.ok hok).set g 3 (.slice E3 c.ws.length k3) (by omega))
  have HL4 := Lib.hid ((hl.set g 3 (.slice E3 c.ws.length k3) (by have := HZ3.out; omega)).mono HZ3.out)
  have HX4 := Lib.hid ((HX3.out.ok hok).set3 (.slice E3 c.ws.length k3))
  have HR4 := Lib.hid ((HR3.out.ok hok).other g 3 (.slice E3 c.ws.length k3) (by omega))
  have HK4 : Hid (Ok W (w4.setCell ⟨g, 3, none⟩ (.slice E3 c.ws.length k3))) := Lib.hid (Below.setCell (HK3.out.trans hok) (by rw [HG.out]; exact Nat.le_refl _) _)
  obtain ⟨⟨hc0, hc1, hc2, hc3⟩, hf0, hf1, hf2, hf3⟩ := HX3.out.ok hok
  clear hl hok
  obtain ⟨⟨hr0, hr1, hr2, hr3⟩, he0, he1, he2, he3⟩ := HR4.out
  go_wp2_with fail
  refine bodyPost_ret (ret4s rfl _ _ (g + 1) _ _ _ _ HR4.out.room rfl) rfl ?_
  have hlt : g + 1 < g + 2 := Nat.lt_succ_self _
  refine ⟨_, rfl, ?_, set4.ok HK4.out (by rw [HG.out]; exact Nat.le_succ _) _ _ _ _⟩
  rw [HG.out]
  exact LentC.mono ⟨_, _, _, _, rfl, ((((HP1.out.set (g + 1) 0 _ hlt).set (g + 1) 1 _ hlt).set (g + 1) 2 _ hlt).set (g + 1) 3 _ hlt), ((((HP2.out.set (g + 1) 0 _ hlt).set (g + 1) 1 _ hlt).set (g + 1) 2 _ hlt).set (g + 1) 3 _ hlt),
    ((((HP3.out.set (g + 1) 0 _ hlt).set (g + 1) 1 _ hlt).set (g + 1) 2 _ hlt).set (g + 1) 3 _ hlt), ((((HL4.out.set (g + 1) 0 _ hlt).set (g + 1) 1 _ hlt).set (g + 1) 2 _ hlt).set (g + 1) 3 _ hlt)⟩ (by omega)
end Go.Proofs.Ytolfdncmlfnbdaa
