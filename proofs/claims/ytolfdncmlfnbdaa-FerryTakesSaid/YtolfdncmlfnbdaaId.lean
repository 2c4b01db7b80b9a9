/- Entries, bases, images lent: with marks behind their rows. -/
import Derived.Test.YtolfdncmlfnbdaaIc
namespace Go.Proofs.Ytolfdncmlfnbdaa
open Go.RowKit

/-- Numbers that were lent. -/
def LentO (w : World) (B : Nat) (E : Option Addr) (n k : Nat) (zs : List Int) : Prop := ∃ g, E = some ⟨g, 0, none⟩ ∧ zs.length = n ∧ n ≤ 100000 ∧ n + 12 ≤ k ∧ B ≤ g ∧ OwnZ w B (.slice E (n + 12) k) (zs ++ marksZ 12)
theorem LentO.hi {w w' : World} {B : Nat} {E : Option Addr} {n k : Nat} {zs : List Int} (h : LentO w B E n k zs) (q : Hi B w w') : LentO w' B E n k zs := by
  obtain ⟨g, h1, h2, h3, h4, h5, h6⟩ := h
  exact ⟨g, h1, h2, h3, h4, h5, own_hi h6 q⟩
theorem LentO.mono {w : World} {B B' : Nat} {E : Option Addr} {n k : Nat} {zs : List Int} (h : LentO w B E n k zs) (q : B' ≤ B) : LentO w B' E n k zs := by
  obtain ⟨g, h1, h2, h3, h4, h5, h6⟩ := h
  exact ⟨g, h1, h2, h3, h4, Nat.le_trans q h5, own_mono h6 q⟩
theorem LentO.z {w : World} {B : Nat} {E : Option Addr} {n k : Nat} {zs : List Int} (h : LentO w B E n k zs) : LentZ w B (.slice E n k) zs := by
  obtain ⟨g, rfl, rfl, h3, h4, h5, h6⟩ := h
  have hl : (zs ++ marksZ 12).length = zs.length + 12 := by rw [List.length_append, marksZ_len]
  obtain ⟨g', cap, e, q1, q2, q3⟩ := h6.own (by omega)
  simp only [Value.slice.injEq, Option.some.injEq, Addr.mk.injEq] at e
  obtain ⟨⟨rfl, _⟩, _, rfl⟩ := e
  exact ⟨g, k, rfl, by omega, by omega, h5, fun j hj => q3 j (by omega)⟩
def LentOQ (W : World) (zs : List Int) (x : Ending) (w' : World) : Prop := ∃ E k, x = .returned (.slice E zs.length k) ∧ LentO w' W.heap.size E zs.length k zs ∧ Ok W w'
set_option maxRecDepth 100000 in
set_option maxHeartbeats 8000000 in
theorem lentIntsO_w (v : Value) (zs : List Int) (w : World) (h : InI w v zs) (hl : zs.length ≤ 100000) : Calls Try.prog 41 #[v] w (LentOQ w zs) := by
  have H := Lib.hid h
  obtain ⟨A, c, rfl, _⟩ := h.form
  generalize hn : zs.length = n at *
  have HN := Lib.hid hn
  clear h hn
  obtain ⟨i0, hi, hz0, hz1, hz2⟩ := info_parts info3z
  have HI := Lib.hid hi
  have HZ0 := Lib.hid hz0
  have HZ1 := Lib.hid hz1
  have HZ2 := Lib.hid hz2
  clear hi hz0 hz1 hz2
  go_enter Try.func41, Try.ntmps41
  go_wp2_with (first
    | (at_make; go_must (refine wpList_make_own _ rfl _ _ 22 rfl w.heap.size 3 i0 (.int .i64 0) 1 Try.underlying22 HI.out HZ0.out HZ1.out .i64 .i64 _ (n + 12) rfl rfl (by first | rfl | simp | (push_cast; omega)) (by rw [HZ2.out]; omega) (by unfold maxLen; omega) (Nat.le_refl _) ?_; intro w0 hown0 hgrow0; have HOW0 : Hid (OwnZ w0 w.heap.size (.slice (some ⟨w.heap.size, 0, none⟩) 0 (n + 12)) []) := Lib.hid hown0; have HB0 : Hid (Ok w w0) := Lib.hid ((Below.refl _ _).grown hgrow0 (Nat.le_refl _) (fun k hk => by cases hk)); clear hown0 hgrow0))
    | (at_builtin; go_must (refine wpList_appZ rfl (.tmp 9) (.tmp 10) rfl w.heap.size _ [] zs (.slice A n c) rfl rfl HOW0.out (HB0.out.ints H.out) (by rw [HN.out]; simp; omega) HB0.out.size ?_; intro A1 c1 w1 hown1 hbel1; simp only [List.nil_append, List.length_nil, Nat.zero_add] at hown1 ⊢; have HOW1 := Lib.hid hown1; have HB1 : Hid (Ok w w1) := Lib.hid (Below.trans HB0.out hbel1); clear hown1 hbel1)))
  go_loopw [3, 4] (fun o i wr => ∃ (j : Nat) (v2 : Value), j ≤ 12 ∧ i = .int .i64 j ∧ o = v2 ∧ OwnZ wr w.heap.size v2 (zs ++ marksZ j) ∧ Ok w wr) (fun _ i _ => 12 - (intOf i).toNat)
  case atStart => exact ⟨0, _, by omega, rfl, rfl, by have := HOW1.out; simpa [marksZ] using this, HB1.out⟩
  case round =>
    obtain ⟨j, v2, hj, rfl, rfl, hown, hok⟩ := hrel
    have HOW := Lib.hid hown
    have HOK := Lib.hid hok
    have HL0 : Hid ((zs ++ marksZ j).length = n + j) := Lib.hid (by rw [List.length_append, marksZ_len, HN.out])
    obtain ⟨A2, c2, hv2⟩ := hown.form
    rw [HL0.out] at hv2
    clear hok HOW1 HB1 HOW0 HB0
    by_cases hlt : j < 12
    · subst hv2
      clear hown
      have HMS := Lib.hid (marksZ_succ j)
      have hd : decide ((j : Int) < 12) = true := decide_eq_true (by omega)
      have hmk := fun w' => mark1_w j hlt w'
      generalize markI j = y at *
      go_wp2_with fail
      refine (hmk _).mono ?_
      rintro e w2 ⟨rfl, rfl⟩
      have HNEW := Lib.hid (one_int wr y)
      have HOWA : Hid (OwnZ (wr.alloc (.cells #[.int .i64 y] 3)) w.heap.size (.slice A2 (n + j) c2) (zs ++ marksZ j)) := Lib.hid (HOW.out.al _)
      go_wp2_with (at_builtin; go_must (refine wpList_appZ rfl (.tmp 16) (.tmp 19) rfl w.heap.size _ (zs ++ marksZ j) [y] (.slice (some ⟨wr.heap.size, 0, none⟩) 1 1) rfl rfl HOWA.out HNEW.out (by rw [HL0.out]; simp; omega) (Nat.le_trans HOK.out.size (by simp)) ?_; intro A3 c3 w3 hown3 hbel3; have HOW3 := Lib.hid hown3; have HB3 : Hid (Ok w w3) := Lib.hid (Below.trans (Ok.alloc HOK.out _) hbel3); clear hown3 hbel3))
      go_roundw
      case rel => exact ⟨j + 1, _, by omega, by go_num, rfl, by rw [HMS.out, ← List.append_assoc]; have := HOW3.out; simp only [List.length_append, List.length_cons, List.length_nil, Nat.zero_add] at this; exact this, HB3.out⟩
      case measure => simp [intOf]; omega
    · have hje : j = 12 := by omega
      subst hje
      obtain ⟨g, cap, hv, hcap, hg, hc⟩ := HOW.out.own (by rw [HL0.out]; omega)
      rw [HL0.out] at hv hcap hc
      subst hv
      clear hown hv2 hc
      have hi1 : (n : Int) ≤ (cap : Int) := by omega
      have hn0 : (0 : Int) ≤ (n : Int) := by omega
      have HFIN : Hid (∀ e, e = .returned (.slice (some ⟨g, 0, none⟩) n cap) → LentOQ w zs e wr) := Lib.hid fun e he => ⟨some ⟨g, 0, none⟩, cap, by rw [HN.out]; exact he, ⟨g, rfl, rfl, by rw [HN.out]; omega, by rw [HN.out]; exact hcap, hg, by rw [HN.out]; exact HOW.out⟩, HOK.out⟩
      clear hg hcap HOW
      go_wp2_with fail
      go_ret
      exact HFIN.out _ rfl
/-- A configuration that was lent, by its rows. -/
structure LentS (w : World) (B : Nat) (s : S4) (c : Cfg) : Prop where
  h0 : LentO w B s.A0 s.n0 s.c0 c.vs
  h1 : LentO w B s.A1 s.n1 s.c1 c.os
  h2 : LentO w B s.A2 s.n2 s.c2 c.ls
  h3 : LentO w B s.A3 s.n3 s.c3 c.ws
theorem LentS.hi {w w' : World} {B : Nat} {s : S4} {c : Cfg} (h : LentS w B s c) (k : Hi B w w') : LentS w' B s c := ⟨h.h0.hi k, h.h1.hi k, h.h2.hi k, h.h3.hi k⟩
theorem LentS.mono {w : World} {B B' : Nat} {s : S4} {c : Cfg} (h : LentS w B s c) (k : B' ≤ B) : LentS w B' s c := ⟨h.h0.mono k, h.h1.mono k, h.h2.mono k, h.h3.mono k⟩
theorem LentS.lent {w : World} {B : Nat} {s : S4} {c : Cfg} (h : LentS w B s c) : LentC w B s.v c := ⟨_, _, _, _, rfl, h.h0.z, h.h1.z, h.h2.z, h.h3.z⟩
theorem LentS.cfg {w : World} {B : Nat} {s : S4} {c : Cfg} (h : LentS w B s c) : CfgIn w s.v c := h.lent.cfg
def LentSP (W : World) (c : Cfg) (x : Ending) (w' : World) : Prop := ∃ s : S4, x = .returned s.v ∧ LentS w' W.heap.size s c ∧ Ok W w'
set_option maxRecDepth 100000 in
set_option maxHeartbeats 8000000 in
theorem lentCfg_w (s : S4) (c : Cfg) (W : World) (h : CfgIn W s.v c) (hs : Fine c) : Calls Try.prog 40 #[s.v] W (LentSP W c) := by
  have HCI := Lib.hid h.parts
  have HS := Lib.hid hs
  clear h hs
  unfold S4.v
  have HX0 := Lib.hid (blk2 W (.cells #[.slice s.A0 s.n0 s.c0, .slice s.A1 s.n1 s.c1, .slice s.A2 s.n2 s.c2, .slice s.A3 s.n3 s.c3] 71) (.cells #[.slice none 0 0, .slice none 0 0, .slice none 0 0, .slice none 0 0] 71)).1
  have HR0 := Lib.hid (blk2 W (.cells #[.slice s.A0 s.n0 s.c0, .slice s.A1 s.n1 s.c1, .slice s.A2 s.n2 s.c2, .slice s.A3 s.n3 s.c3] 71) (.cells #[.slice none 0 0, .slice none 0 0, .slice none 0 0, .slice none 0 0] 71)).2
  have HO0 : Hid (Ok W ((W.alloc (.cells #[.slice s.A0 s.n0 s.c0, .slice s.A1 s.n1 s.c1, .slice s.A2 s.n2 s.c2, .slice s.A3 s.n3 s.c3] 71)).alloc (.cells #[.slice none 0 0, .slice none 0 0, .slice none 0 0, .slice none 0 0] 71))) := Lib.hid (((Ok.refl W).alloc _).alloc _)
  have HZ0 : Hid (W.heap.size + 2 ≤ ((W.alloc (.cells #[.slice s.A0 s.n0 s.c0, .slice s.A1 s.n1 s.c1, .slice s.A2 s.n2 s.c2, .slice s.A3 s.n3 s.c3] 71)).alloc (.cells #[.slice none 0 0, .slice none 0 0, .slice none 0 0, .slice none 0 0] 71)).heap.size) := Lib.hid (by simp [World.size_alloc])
  go_enter Try.func40, Try.ntmps40
  go_wp2_with fail
  generalize ((W.alloc (.cells #[.slice s.A0 s.n0 s.c0, .slice s.A1 s.n1 s.c1, .slice s.A2 s.n2 s.c2, .slice s.A3 s.n3 s.c3] 71)).alloc (.cells #[.slice none 0 0, .slice none 0 0, .slice none 0 0, .slice none 0 0] 71)) = W0 at *
  obtain ⟨g, hg⟩ : ∃ g, W.heap.size = g := ⟨_, rfl⟩
  have HG := Lib.hid hg
  rw [hg] at HX0 HR0 HZ0 ⊢
  clear hg
  refine (lentIntsO_w (.slice s.A0 s.n0 s.c0) c.vs W0 (HO0.out.ints HCI.out.1) HS.out.1).mono ?_
  rintro _ w1 ⟨E0, k0, rfl, hown, hok⟩
  have HX1 : Hid ((w1.setCell ⟨g, 0, none⟩ (.slice E0 c.vs.length k0)).heap[g]? = some (.cells #[.slice E0 c.vs.length k0, .slice s.A1 s.n1 s.c1, .slice s.A2 s.n2 s.c2, .slice s.A3 s.n3 s.c3] 71 (0, 0))) := Lib.hid (set_blk (blk_ok hok HX0.out) 0 (.slice E0 c.vs.length k0))
  have HR1 : Hid ((w1.setCell ⟨g, 0, none⟩ (.slice E0 c.vs.length k0)).heap[g + 1]? = some (.cells #[.slice none 0 0, .slice none 0 0, .slice none 0 0, .slice none 0 0] 71 (0, 0))) := Lib.hid (set_far (blk_ok hok HR0.out) (by omega : g ≠ g + 1) 0 (.slice E0 c.vs.length k0))
  have HO1 : Hid (Ok W (w1.setCell ⟨g, 0, none⟩ (.slice E0 c.vs.length k0))) := Lib.hid (Below.setCell (HO0.out.trans hok) (Nat.le_of_eq HG.out) _)
  have HI1 : Hid (Hi (g + 2) w1 (w1.setCell ⟨g, 0, none⟩ (.slice E0 c.vs.length k0))) := Lib.hid (Hi.set' (Hi.refl _ _) (by omega) _ _)
  have HZ1 : Hid (g + 2 ≤ (w1.setCell ⟨g, 0, none⟩ (.slice E0 c.vs.length k0)).heap.size) := Lib.hid (Nat.le_trans (Nat.le_trans HZ0.out hok.size) HI1.out.1)
  have HP0_1 := Lib.hid ((hown.mono HZ0.out).hi HI1.out)
  have hx := blk_ok hok HX0.out
  have c0 : w1.cell? ⟨g, 0, none⟩ = some (.slice s.A0 s.n0 s.c0) := (cell_of_heap hx 0).trans rfl
  have c1 : w1.cell? ⟨g, 1, none⟩ = some (.slice s.A1 s.n1 s.c1) := (cell_of_heap hx 1).trans rfl
  have c2 : w1.cell? ⟨g, 2, none⟩ = some (.slice s.A2 s.n2 s.c2) := (cell_of_heap hx 2).trans rfl
  have c3 : w1.cell? ⟨g, 3, none⟩ = some (.slice s.A3 s.n3 s.c3) := (cell_of_heap hx 3).trans rfl
  have f0 : w1.frozen? ⟨g, 0, none⟩ = false := frz_raw hx 0
  clear hx hown hok
  go_wp2_with fail
  clear c0 c1 c2 c3 f0 HX0 HR0 HO0 HZ0 HI1
  generalize (w1.setCell ⟨g, 0, none⟩ (.slice E0 c.vs.length k0)) = W1 at *
  refine (lentIntsO_w (.slice s.A1 s.n1 s.c1) c.os W1 (HO1.out.ints HCI.out.2.1) HS.out.2.1).mono ?_
  rintro _ w2 ⟨E1, k1, rfl, hown, hok⟩
  have HX2 : Hid ((w2.setCell ⟨g, 1, none⟩ (.slice E1 c.os.length k1)).heap[g]? = some (.cells #[.slice E0 c.vs.length k0, .slice E1 c.os.length k1, .slice s.A2 s.n2 s.c2, .slice s.A3 s.n3 s.c3] 71 (0, 0))) := Lib.hid (set_blk (blk_ok hok HX1.out) 1 (.slice E1 c.os.length k1))
  have HR2 : Hid ((w2.setCell ⟨g, 1, none⟩ (.slice E1 c.os.length k1)).heap[g + 1]? = some (.cells #[.slice none 0 0, .slice none 0 0, .slice none 0 0, .slice none 0 0] 71 (0, 0))) := Lib.hid (set_far (blk_ok hok HR1.out) (by omega : g ≠ g + 1) 1 (.slice E1 c.os.length k1))
  have HO2 : Hid (Ok W (w2.setCell ⟨g, 1, none⟩ (.slice E1 c.os.length k1))) := Lib.hid (Below.setCell (HO1.out.trans hok) (Nat.le_of_eq HG.out) _)
  have HI2 : Hid (Hi (g + 2) w2 (w2.setCell ⟨g, 1, none⟩ (.slice E1 c.os.length k1))) := Lib.hid (Hi.set' (Hi.refl _ _) (by omega) _ _)
  have HZ2 : Hid (g + 2 ≤ (w2.setCell ⟨g, 1, none⟩ (.slice E1 c.os.length k1)).heap.size) := Lib.hid (Nat.le_trans (Nat.le_trans HZ1.out hok.size) HI2.out.1)
  have HP0_2 := Lib.hid ((HP0_1.out.hi (Hi.ok hok)).hi HI2.out)
  have HP1_2 := Lib.hid ((hown.mono HZ1.out).hi HI2.out)
  have hx := blk_ok hok HX1.out
  have c0 : w2.cell? ⟨g, 0, none⟩ = some (.slice E0 c.vs.length k0) := (cell_of_heap hx 0).trans rfl
  have c1 : w2.cell? ⟨g, 1, none⟩ = some (.slice s.A1 s.n1 s.c1) := (cell_of_heap hx 1).trans rfl
  have c2 : w2.cell? ⟨g, 2, none⟩ = some (.slice s.A2 s.n2 s.c2) := (cell_of_heap hx 2).trans rfl
  have c3 : w2.cell? ⟨g, 3, none⟩ = some (.slice s.A3 s.n3 s.c3) := (cell_of_heap hx 3).trans rfl
  have f1 : w2.frozen? ⟨g, 1, none⟩ = false := frz_raw hx 1
  clear hx hown hok
  go_wp2_with fail
  clear c0 c1 c2 c3 f1 HX1 HR1 HO1 HZ1 HI2 HP0_1
  generalize (w2.setCell ⟨g, 1, none⟩ (.slice E1 c.os.length k1)) = W2 at *
  refine (lentIntsO_w (.slice s.A2 s.n2 s.c2) c.ls W2 (HO2.out.ints HCI.out.2.2.1) HS.out.2.2.1).mono ?_
  rintro _ w3 ⟨E2, k2, rfl, hown, hok⟩
  have HX3 : Hid ((w3.setCell ⟨g, 2, none⟩ (.slice E2 c.ls.length k2)).heap[g]? = some (.cells #[.slice E0 c.vs.length k0, .slice E1 c.os.length k1, .slice E2 c.ls.length k2, .slice s.A3 s.n3 s.c3] 71 (0, 0))) := Lib.hid (set_blk (blk_ok hok HX2.out) 2 (.slice E2 c.ls.length k2))
  have HR3 : Hid ((w3.setCell ⟨g, 2, none⟩ (.slice E2 c.ls.length k2)).heap[g + 1]? = some (.cells #[.slice none 0 0, .slice none 0 0, .slice none 0 0, .slice none 0 0] 71 (0, 0))) := Lib.hid (set_far (blk_ok hok HR2.out) (by omega : g ≠ g + 1) 2 (.slice E2 c.ls.length k2))
  have HO3 : Hid (Ok W (w3.setCell ⟨g, 2, none⟩ (.slice E2 c.ls.length k2))) := Lib.hid (Below.setCell (HO2.out.trans hok) (Nat.le_of_eq HG.out) _)
  have HI3 : Hid (Hi (g + 2) w3 (w3.setCell ⟨g, 2, none⟩ (.slice E2 c.ls.length k2))) := Lib.hid (Hi.set' (Hi.refl _ _) (by omega) _ _)
  have HZ3 : Hid (g + 2 ≤ (w3.setCell ⟨g, 2, none⟩ (.slice E2 c.ls.length k2)).heap.size) := Lib.hid (Nat.le_trans (Nat.le_trans HZ2.out hok.size) HI3.out.1)
  have HP0_3 := Lib.hid ((HP0_2.out.hi (Hi.ok hok)).hi HI3.out)
  have HP1_3 := Lib.hid ((HP1_2.out.hi (Hi.ok hok)).hi HI3.out)
  have HP2_3 := Lib.hid ((hown.mono HZ2.out).hi HI3.out)
  have hx := blk_ok hok HX2.out
  have c0 : w3.cell? ⟨g, 0, none⟩ = some (.slice E0 c.vs.length k0) := (cell_of_heap hx 0).trans rfl
  have c1 : w3.cell? ⟨g, 1, none⟩ = some (.slice E1 c.os.length k1) := (cell_of_heap hx 1).trans rfl
  have c2 : w3.cell? ⟨g, 2, none⟩ = some (.slice s.A2 s.n2 s.c2) := (cell_of_heap hx 2).trans rfl
  have c3 : w3.cell? ⟨g, 3, none⟩ = some (.slice s.A3 s.n3 s.c3) := (cell_of_heap hx 3).trans rfl
  have f2 : w3.frozen? ⟨g, 2, none⟩ = false := frz_raw hx 2
  clear hx hown hok
  go_wp2_with fail
  clear c0 c1 c2 c3 f2 HX2 HR2 HO2 HZ2 HI3 HP0_2 HP1_2
  generalize (w3.setCell ⟨g, 2, none⟩ (.slice E2 c.ls.length k2)) = W3 at *
  refine (lentIntsO_w (.slice s.A3 s.n3 s.c3) c.ws W3 (HO3.out.ints HCI.out.2.2.2) HS.out.2.2.2).mono ?_
  rintro _ w4 ⟨E3, k3, rfl, hown, hok⟩
  have HX4 : Hid ((w4.setCell ⟨g, 3, none⟩ (.slice E3 c.ws.length k3)).heap[g]? = some (.cells #[.slice E0 c.vs.length k0, .slice E1 c.os.length k1, .slice E2 c.ls.length k2, .slice E3 c.ws.length k3] 71 (0, 0))) := Lib.hid (set_blk (blk_ok hok HX3.out) 3 (.slice E3 c.ws.length k3))
  have HR4 : Hid ((w4.setCell ⟨g, 3, none⟩ (.slice E3 c.ws.length k3)).heap[g + 1]? = some (.cells #[.slice none 0 0, .slice none 0 0, .slice none 0 0, .slice none 0 0] 71 (0, 0))) := Lib.hid (set_far (blk_ok hok HR3.out) (by omega : g ≠ g + 1) 3 (.slice E3 c.ws.length k3))
  have HO4 : Hid (Ok W (w4.setCell ⟨g, 3, none⟩ (.slice E3 c.ws.length k3))) := Lib.hid (Below.setCell (HO3.out.trans hok) (Nat.le_of_eq HG.out) _)
  have HI4 : Hid (Hi (g + 2) w4 (w4.setCell ⟨g, 3, none⟩ (.slice E3 c.ws.length k3))) := Lib.hid (Hi.set' (Hi.refl _ _) (by omega) _ _)
  have HZ4 : Hid (g + 2 ≤ (w4.setCell ⟨g, 3, none⟩ (.slice E3 c.ws.length k3)).heap.size) := Lib.hid (Nat.le_trans (Nat.le_trans HZ3.out hok.size) HI4.out.1)
  have HP0_4 := Lib.hid ((HP0_3.out.hi (Hi.ok hok)).hi HI4.out)
  have HP1_4 := Lib.hid ((HP1_3.out.hi (Hi.ok hok)).hi HI4.out)
  have HP2_4 := Lib.hid ((HP2_3.out.hi (Hi.ok hok)).hi HI4.out)
  have HP3_4 := Lib.hid ((hown.mono HZ3.out).hi HI4.out)
  have hx := blk_ok hok HX3.out
  have c0 : w4.cell? ⟨g, 0, none⟩ = some (.slice E0 c.vs.length k0) := (cell_of_heap hx 0).trans rfl
  have c1 : w4.cell? ⟨g, 1, none⟩ = some (.slice E1 c.os.length k1) := (cell_of_heap hx 1).trans rfl
  have c2 : w4.cell? ⟨g, 2, none⟩ = some (.slice E2 c.ls.length k2) := (cell_of_heap hx 2).trans rfl
  have c3 : w4.cell? ⟨g, 3, none⟩ = some (.slice s.A3 s.n3 s.c3) := (cell_of_heap hx 3).trans rfl
  have f3 : w4.frozen? ⟨g, 3, none⟩ = false := frz_raw hx 3
  clear hx hown hok
  go_upto_region 5 with fail
  clear c0 c1 c2 c3 f3 HX3 HR3 HO3 HZ3 HI4 HP0_3 HP1_3 HP2_3
  generalize (w4.setCell ⟨g, 3, none⟩ (.slice E3 c.ws.length k3)) = W4 at *
  have hx := HX4.out
  have hy := HR4.out
  have c0 : W4.cell? ⟨g, 0, none⟩ = some (.slice E0 c.vs.length k0) := (cell_of_heap hx 0).trans rfl
  have c1 : W4.cell? ⟨g, 1, none⟩ = some (.slice E1 c.os.length k1) := (cell_of_heap hx 1).trans rfl
  have c2 : W4.cell? ⟨g, 2, none⟩ = some (.slice E2 c.ls.length k2) := (cell_of_heap hx 2).trans rfl
  have c3 : W4.cell? ⟨g, 3, none⟩ = some (.slice E3 c.ws.length k3) := (cell_of_heap hx 3).trans rfl
  have b0 : W4.cell? ⟨(g + 1), 0, none⟩ = some (.slice none 0 0) := (cell_of_heap hy 0).trans rfl
  have b1 : W4.cell? ⟨(g + 1), 1, none⟩ = some (.slice none 0 0) := (cell_of_heap hy 1).trans rfl
  have b2 : W4.cell? ⟨(g + 1), 2, none⟩ = some (.slice none 0 0) := (cell_of_heap hy 2).trans rfl
  have b3 : W4.cell? ⟨(g + 1), 3, none⟩ = some (.slice none 0 0) := (cell_of_heap hy 3).trans rfl
  have h0 : W4.frozen? ⟨g + 1, 0, none⟩ = false := frz_raw hy 0
  have h1 : W4.frozen? ⟨g + 1, 1, none⟩ = false := frz_raw hy 1
  have h2 : W4.frozen? ⟨g + 1, 2, none⟩ = false := frz_raw hy 2
  have h3 : W4.frozen? ⟨g + 1, 3, none⟩ = false := frz_raw hy 3
  clear hx hy
  go_wp2_with fail
  refine bodyPost_ret (v := .agg #[.slice E0 c.vs.length k0, .slice E1 c.os.length k1, .slice E2 c.ls.length k2, .slice E3 c.ws.length k3]) (by simp [results, Try.results40, go_sem, b0, b1, b2, b3]; try rfl) rfl ?_
  clear c0 b0 h0 c1 b1 h1 c2 b2 h2 c3 b3 h3
  have hg2 : W.heap.size ≤ g + 1 := by have := HG.out; omega
  have hg3 : W.heap.size ≤ g + 2 := by have := HG.out; omega
  refine ⟨⟨E0, c.vs.length, k0, E1, c.os.length, k1, E2, c.ls.length, k2, E3, c.ws.length, k3⟩, rfl, ?_, ?_⟩
  · refine LentS.mono (B := g + 2) ?_ hg3
    refine LentS.hi (w := W4) ⟨HP0_4.out, HP1_4.out, HP2_4.out, HP3_4.out⟩ ?_
    (repeat (refine Hi.set' ?_ (by omega) _ _))
    exact Hi.refl _ _
  · show Below W.heap.size W _
    repeat refine Below.setCell ?_ hg2 _
    exact HO4.out
/-- Bytes that were lent. -/
def LentB (w : World) (B : Nat) (E : Option Addr) (n k : Nat) (zs : List B8) : Prop := ∃ g, E = some ⟨g, 0, none⟩ ∧ zs.length = n ∧ n ≤ 1000000 ∧ n + 12 ≤ k ∧ B ≤ g ∧ OwnN w B (.slice E (n + 12) k) (zs ++ mks 12)
theorem LentB.hi {w w' : World} {B : Nat} {E : Option Addr} {n k : Nat} {zs : List B8} (h : LentB w B E n k zs) (q : Hi B w w') : LentB w' B E n k zs := by
  obtain ⟨g, h1, h2, h3, h4, h5, h6⟩ := h
  exact ⟨g, h1, h2, h3, h4, h5, h6.hi q⟩
theorem LentB.mono {w : World} {B B' : Nat} {E : Option Addr} {n k : Nat} {zs : List B8} (h : LentB w B E n k zs) (q : B' ≤ B) : LentB w B' E n k zs := by
  obtain ⟨g, h1, h2, h3, h4, h5, h6⟩ := h
  exact ⟨g, h1, h2, h3, h4, Nat.le_trans q h5, own_mono h6 q⟩
theorem OwnN.part {w : World} {B g n k : Nat} {zs ms : List B8} (h : OwnN w B (.slice (some ⟨g, 0, none⟩) n k) (zs ++ ms)) (hl : zs.length ≤ 1000000) (hk : zs.length ≤ k) : BytesIn w (.slice (some ⟨g, 0, none⟩) zs.length k) zs := by
  refine .inr ⟨g, 0, k, rfl, hk, Nat.le_trans hl (by decide), fun i hi => ?_⟩
  have := (h.cell i (by rw [List.length_append]; omega)).1
  rw [Nat.zero_add, this]
  rw [show (zs ++ ms).getD i 0#8 = zs.getD i 0#8 from by simp [List.getD, List.getElem?_append_left hi]]
theorem LentB.bytes {w : World} {B : Nat} {E : Option Addr} {n k : Nat} {zs : List B8} (h : LentB w B E n k zs) : BytesIn w (.slice E n k) zs := by
  obtain ⟨g, rfl, rfl, h3, h4, h5, h6⟩ := h
  exact h6.part h3 (by omega)
def LentBQ (W : World) (zs : List B8) (x : Ending) (w' : World) : Prop := ∃ E k, x = .returned (.slice E zs.length k) ∧ LentB w' W.heap.size E zs.length k zs ∧ Ok W w'
theorem lentBytes_w (A : Option Addr) (n c : Nat) (zs : List B8) (hn6 : zs.length ≤ 1000000) (W : World) (h : BytesIn W (.slice A n c) zs) : Calls Try.prog 23 #[.slice A n c] W (LentBQ W zs) := by
  have hn : zs.length = n := by
    obtain ⟨_, _, e, _⟩ := h.form
    simp only [Value.slice.injEq] at e
    exact e.2.1.symm
  refine (lentB_w A n c zs hn (by omega) W h).mono fun x w' hh => ?_
  obtain ⟨g, cap, hx, h1, h2, h3, h4⟩ := hh
  subst hn
  exact ⟨some ⟨g, 0, none⟩, cap, hx, ⟨g, rfl, rfl, hn6, h1, h2, h4⟩, h3⟩
/-- An entry that was lent. -/
structure EnL (w : World) (B : Nat) (r : ER) (e : En) : Prop where
  cmd : LentB w B r.A r.n r.c e.cmd
  cfg : LentS w B r.s e.cfg
theorem EnL.hi {w w' : World} {B : Nat} {r : ER} {e : En} (h : EnL w B r e) (k : Hi B w w') : EnL w' B r e := ⟨h.cmd.hi k, h.cfg.hi k⟩
theorem EnL.mono {w : World} {B B' : Nat} {r : ER} {e : En} (h : EnL w B r e) (k : B' ≤ B) : EnL w B' r e := ⟨h.cmd.mono k, h.cfg.mono k⟩
theorem EnL.at {w : World} {B : Nat} {r : ER} {e : En} (h : EnL w B r e) : EnAt w r e := ⟨h.cmd.bytes, h.cfg.cfg⟩
def LentEP (W : World) (e : En) (x : Ending) (w' : World) : Prop := ∃ r : ER, x = .returned (r.val e) ∧ EnL w' W.heap.size r e ∧ Ok W w'
def LentBaseP (W : World) (bi bt : Int) (c : Cfg) (x : Ending) (w' : World) : Prop := ∃ s : S4, x = .returned (baseV bi bt s) ∧ LentS w' W.heap.size s c ∧ Ok W w'
/-- An image: what it holds; where its rows lie. -/
structure Im where
  bi : Int
  bt : Int
  cfg : Cfg
  bytes : List B8
structure IR where
  s : S4
  A : Option Addr
  n : Nat
  c : Nat
def IR.val (r : IR) (x : Im) : Value := .agg #[.int .i64 x.bi, .int .i64 x.bt, .slice r.s.A0 r.s.n0 r.s.c0, .slice r.s.A1 r.s.n1 r.s.c1, .slice r.s.A2 r.s.n2 r.s.c2, .slice r.s.A3 r.s.n3 r.s.c3, .slice r.A r.n r.c]
structure ImAt (w : World) (r : IR) (x : Im) : Prop where
  cfg : CfgIn w r.s.v x.cfg
  bytes : BytesIn w (.slice r.A r.n r.c) x.bytes
theorem ImAt.ok {w w' : World} {r : IR} {x : Im} (h : ImAt w r x) (k : Ok w w') : ImAt w' r x := ⟨k.cfg h.cfg, k.bytes h.bytes⟩
structure ImL (w : World) (B : Nat) (r : IR) (x : Im) : Prop where
  cfg : LentS w B r.s x.cfg
  bytes : LentB w B r.A r.n r.c x.bytes
theorem ImL.hi {w w' : World} {B : Nat} {r : IR} {x : Im} (h : ImL w B r x) (k : Hi B w w') : ImL w' B r x := ⟨h.cfg.hi k, h.bytes.hi k⟩
theorem ImL.mono {w : World} {B B' : Nat} {r : IR} {x : Im} (h : ImL w B r x) (k : B' ≤ B) : ImL w B' r x := ⟨h.cfg.mono k, h.bytes.mono k⟩
def LentIP (W : World) (x : Im) (e : Ending) (w' : World) : Prop := ∃ r : IR, e = .returned (r.val x) ∧ ImL w' W.heap.size r x ∧ Ok W w'
set_option maxRecDepth 100000 in
set_option maxHeartbeats 8000000 in
theorem lentEntry_w (r : ER) (e : En) (W : World) (h : EnAt W r e) (hs : EnLe e) : Calls Try.prog 167 #[r.val e] W (LentEP W e) := by
  have HCI := Lib.hid h
  have HS := Lib.hid hs
  clear h hs
  unfold ER.val ER.cells
  have HX0 := Lib.hid (blk2 W (.cells #[.int .i64 e.term, .int .u8 e.kind, .slice r.A r.n r.c, .slice r.s.A0 r.s.n0 r.s.c0, .slice r.s.A1 r.s.n1 r.s.c1, .slice r.s.A2 r.s.n2 r.s.c2, .slice r.s.A3 r.s.n3 r.s.c3] 208) (.cells #[.int .i64 0, .int .u8 0, .slice none 0 0, .slice none 0 0, .slice none 0 0, .slice none 0 0, .slice none 0 0] 208)).1
  have HR0 := Lib.hid (blk2 W (.cells #[.int .i64 e.term, .int .u8 e.kind, .slice r.A r.n r.c, .slice r.s.A0 r.s.n0 r.s.c0, .slice r.s.A1 r.s.n1 r.s.c1, .slice r.s.A2 r.s.n2 r.s.c2, .slice r.s.A3 r.s.n3 r.s.c3] 208) (.cells #[.int .i64 0, .int .u8 0, .slice none 0 0, .slice none 0 0, .slice none 0 0, .slice none 0 0, .slice none 0 0] 208)).2
  have HO0 : Hid (Ok W ((W.alloc (.cells #[.int .i64 e.term, .int .u8 e.kind, .slice r.A r.n r.c, .slice r.s.A0 r.s.n0 r.s.c0, .slice r.s.A1 r.s.n1 r.s.c1, .slice r.s.A2 r.s.n2 r.s.c2, .slice r.s.A3 r.s.n3 r.s.c3] 208)).alloc (.cells #[.int .i64 0, .int .u8 0, .slice none 0 0, .slice none 0 0, .slice none 0 0, .slice none 0 0, .slice none 0 0] 208))) := Lib.hid (((Ok.refl W).alloc _).alloc _)
  have HZ0 : Hid (W.heap.size + 2 ≤ ((W.alloc (.cells #[.int .i64 e.term, .int .u8 e.kind, .slice r.A r.n r.c, .slice r.s.A0 r.s.n0 r.s.c0, .slice r.s.A1 r.s.n1 r.s.c1, .slice r.s.A2 r.s.n2 r.s.c2, .slice r.s.A3 r.s.n3 r.s.c3] 208)).alloc (.cells #[.int .i64 0, .int .u8 0, .slice none 0 0, .slice none 0 0, .slice none 0 0, .slice none 0 0, .slice none 0 0] 208)).heap.size) := Lib.hid (by simp [World.size_alloc])
  go_enter Try.func167, Try.ntmps167
  go_wp2_with fail
  generalize ((W.alloc (.cells #[.int .i64 e.term, .int .u8 e.kind, .slice r.A r.n r.c, .slice r.s.A0 r.s.n0 r.s.c0, .slice r.s.A1 r.s.n1 r.s.c1, .slice r.s.A2 r.s.n2 r.s.c2, .slice r.s.A3 r.s.n3 r.s.c3] 208)).alloc (.cells #[.int .i64 0, .int .u8 0, .slice none 0 0, .slice none 0 0, .slice none 0 0, .slice none 0 0, .slice none 0 0] 208)) = W0 at *
  obtain ⟨g, hg⟩ : ∃ g, W.heap.size = g := ⟨_, rfl⟩
  have HG := Lib.hid hg
  rw [hg] at HX0 HR0 HZ0 ⊢
  clear hg
  refine (lentBytes_w r.A r.n r.c e.cmd HS.out.cmd W0 (HO0.out.bytes HCI.out.cmd)).mono ?_
  rintro _ w1 ⟨E0, k0, rfl, hown, hok⟩
  have HX1 : Hid ((w1.setCell ⟨g, 2, none⟩ (.slice E0 e.cmd.length k0)).heap[g]? = some (.cells #[.int .i64 e.term, .int .u8 e.kind, .slice E0 e.cmd.length k0, .slice r.s.A0 r.s.n0 r.s.c0, .slice r.s.A1 r.s.n1 r.s.c1, .slice r.s.A2 r.s.n2 r.s.c2, .slice r.s.A3 r.s.n3 r.s.c3] 208 (0, 0))) := Lib.hid (set_blk (blk_ok hok HX0.out) 2 (.slice E0 e.cmd.length k0))
  have HR1 : Hid ((w1.setCell ⟨g, 2, none⟩ (.slice E0 e.cmd.length k0)).heap[g + 1]? = some (.cells #[.int .i64 0, .int .u8 0, .slice none 0 0, .slice none 0 0, .slice none 0 0, .slice none 0 0, .slice none 0 0] 208 (0, 0))) := Lib.hid (set_far (blk_ok hok HR0.out) (by omega : g ≠ g + 1) 2 (.slice E0 e.cmd.length k0))
  have HO1 : Hid (Ok W (w1.setCell ⟨g, 2, none⟩ (.slice E0 e.cmd.length k0))) := Lib.hid (Below.setCell (HO0.out.trans hok) (Nat.le_of_eq HG.out) _)
  have HI1 : Hid (Hi (g + 2) w1 (w1.setCell ⟨g, 2, none⟩ (.slice E0 e.cmd.length k0))) := Lib.hid (Hi.set' (Hi.refl _ _) (by omega) _ _)
  have HZ1 : Hid (g + 2 ≤ (w1.setCell ⟨g, 2, none⟩ (.slice E0 e.cmd.length k0)).heap.size) := Lib.hid (Nat.le_trans (Nat.le_trans HZ0.out hok.size) HI1.out.1)
  have HP0_1 := Lib.hid ((hown.mono HZ0.out).hi HI1.out)
  have hx := blk_ok hok HX0.out
  have c0 : w1.cell? ⟨g, 0, none⟩ = some (.int .i64 e.term) := (cell_of_heap hx 0).trans rfl
  have c1 : w1.cell? ⟨g, 1, none⟩ = some (.int .u8 e.kind) := (cell_of_heap hx 1).trans rfl
  have c2 : w1.cell? ⟨g, 2, none⟩ = some (.slice r.A r.n r.c) := (cell_of_heap hx 2).trans rfl
  have c3 : w1.cell? ⟨g, 3, none⟩ = some (.slice r.s.A0 r.s.n0 r.s.c0) := (cell_of_heap hx 3).trans rfl
  have c4 : w1.cell? ⟨g, 4, none⟩ = some (.slice r.s.A1 r.s.n1 r.s.c1) := (cell_of_heap hx 4).trans rfl
  have c5 : w1.cell? ⟨g, 5, none⟩ = some (.slice r.s.A2 r.s.n2 r.s.c2) := (cell_of_heap hx 5).trans rfl
  have c6 : w1.cell? ⟨g, 6, none⟩ = some (.slice r.s.A3 r.s.n3 r.s.c3) := (cell_of_heap hx 6).trans rfl
  have f2 : w1.frozen? ⟨g, 2, none⟩ = false := frz_raw hx 2
  clear hx hown hok
  go_wp2_with fail
  clear c0 c1 c2 c3 c4 c5 c6 f2 HX0 HR0 HO0 HZ0 HI1
  generalize (w1.setCell ⟨g, 2, none⟩ (.slice E0 e.cmd.length k0)) = W1 at *
  refine (lentCfg_w r.s e.cfg W1 (HO1.out.cfg HCI.out.cfg) HS.out.cfg).mono ?_
  rintro _ w2 ⟨q1, rfl, hown, hok⟩
  unfold S4.v
  have HX2 : Hid (((((w2.setCell ⟨g, 3, none⟩ (.slice q1.A0 q1.n0 q1.c0)).setCell ⟨g, 4, none⟩ (.slice q1.A1 q1.n1 q1.c1)).setCell ⟨g, 5, none⟩ (.slice q1.A2 q1.n2 q1.c2)).setCell ⟨g, 6, none⟩ (.slice q1.A3 q1.n3 q1.c3)).heap[g]? = some (.cells #[.int .i64 e.term, .int .u8 e.kind, .slice E0 e.cmd.length k0, .slice q1.A0 q1.n0 q1.c0, .slice q1.A1 q1.n1 q1.c1, .slice q1.A2 q1.n2 q1.c2, .slice q1.A3 q1.n3 q1.c3] 208 (0, 0))) := Lib.hid (set_blk (set_blk (set_blk (set_blk (blk_ok hok HX1.out) 3 (.slice q1.A0 q1.n0 q1.c0)) 4 (.slice q1.A1 q1.n1 q1.c1)) 5 (.slice q1.A2 q1.n2 q1.c2)) 6 (.slice q1.A3 q1.n3 q1.c3))
  have HR2 : Hid (((((w2.setCell ⟨g, 3, none⟩ (.slice q1.A0 q1.n0 q1.c0)).setCell ⟨g, 4, none⟩ (.slice q1.A1 q1.n1 q1.c1)).setCell ⟨g, 5, none⟩ (.slice q1.A2 q1.n2 q1.c2)).setCell ⟨g, 6, none⟩ (.slice q1.A3 q1.n3 q1.c3)).heap[g + 1]? = some (.cells #[.int .i64 0, .int .u8 0, .slice none 0 0, .slice none 0 0, .slice none 0 0, .slice none 0 0, .slice none 0 0] 208 (0, 0))) := Lib.hid (set_far (set_far (set_far (set_far (blk_ok hok HR1.out) (by omega : g ≠ g + 1) 3 (.slice q1.A0 q1.n0 q1.c0)) (by omega : g ≠ g + 1) 4 (.slice q1.A1 q1.n1 q1.c1)) (by omega : g ≠ g + 1) 5 (.slice q1.A2 q1.n2 q1.c2)) (by omega : g ≠ g + 1) 6 (.slice q1.A3 q1.n3 q1.c3))
  have HO2 : Hid (Ok W ((((w2.setCell ⟨g, 3, none⟩ (.slice q1.A0 q1.n0 q1.c0)).setCell ⟨g, 4, none⟩ (.slice q1.A1 q1.n1 q1.c1)).setCell ⟨g, 5, none⟩ (.slice q1.A2 q1.n2 q1.c2)).setCell ⟨g, 6, none⟩ (.slice q1.A3 q1.n3 q1.c3))) := Lib.hid (Below.setCell (Below.setCell (Below.setCell (Below.setCell (HO1.out.trans hok) (Nat.le_of_eq HG.out) _) (Nat.le_of_eq HG.out) _) (Nat.le_of_eq HG.out) _) (Nat.le_of_eq HG.out) _)
  have HI2 : Hid (Hi (g + 2) w2 ((((w2.setCell ⟨g, 3, none⟩ (.slice q1.A0 q1.n0 q1.c0)).setCell ⟨g, 4, none⟩ (.slice q1.A1 q1.n1 q1.c1)).setCell ⟨g, 5, none⟩ (.slice q1.A2 q1.n2 q1.c2)).setCell ⟨g, 6, none⟩ (.slice q1.A3 q1.n3 q1.c3))) := Lib.hid (Hi.set' (Hi.set' (Hi.set' (Hi.set' (Hi.refl _ _) (by omega) _ _) (by omega) _ _) (by omega) _ _) (by omega) _ _)
  have HZ2 : Hid (g + 2 ≤ ((((w2.setCell ⟨g, 3, none⟩ (.slice q1.A0 q1.n0 q1.c0)).setCell ⟨g, 4, none⟩ (.slice q1.A1 q1.n1 q1.c1)).setCell ⟨g, 5, none⟩ (.slice q1.A2 q1.n2 q1.c2)).setCell ⟨g, 6, none⟩ (.slice q1.A3 q1.n3 q1.c3)).heap.size) := Lib.hid (Nat.le_trans (Nat.le_trans HZ1.out hok.size) HI2.out.1)
  have HP0_2 := Lib.hid ((HP0_1.out.hi (Hi.ok hok)).hi HI2.out)
  have HP1_2 := Lib.hid ((hown.mono HZ1.out).hi HI2.out)
  have hx := blk_ok hok HX1.out
  have c0 : w2.cell? ⟨g, 0, none⟩ = some (.int .i64 e.term) := (cell_of_heap hx 0).trans rfl
  have c1 : w2.cell? ⟨g, 1, none⟩ = some (.int .u8 e.kind) := (cell_of_heap hx 1).trans rfl
  have c2 : w2.cell? ⟨g, 2, none⟩ = some (.slice E0 e.cmd.length k0) := (cell_of_heap hx 2).trans rfl
  have c3 : w2.cell? ⟨g, 3, none⟩ = some (.slice r.s.A0 r.s.n0 r.s.c0) := (cell_of_heap hx 3).trans rfl
  have c4 : w2.cell? ⟨g, 4, none⟩ = some (.slice r.s.A1 r.s.n1 r.s.c1) := (cell_of_heap hx 4).trans rfl
  have c5 : w2.cell? ⟨g, 5, none⟩ = some (.slice r.s.A2 r.s.n2 r.s.c2) := (cell_of_heap hx 5).trans rfl
  have c6 : w2.cell? ⟨g, 6, none⟩ = some (.slice r.s.A3 r.s.n3 r.s.c3) := (cell_of_heap hx 6).trans rfl
  have f3 : w2.frozen? ⟨g, 3, none⟩ = false := frz_raw hx 3
  have f4 : w2.frozen? ⟨g, 4, none⟩ = false := frz_raw hx 4
  have f5 : w2.frozen? ⟨g, 5, none⟩ = false := frz_raw hx 5
  have f6 : w2.frozen? ⟨g, 6, none⟩ = false := frz_raw hx 6
  clear hx hown hok
  go_upto_region 3 with fail
  clear c0 c1 c2 c3 c4 c5 c6 f3 f4 f5 f6 HX1 HR1 HO1 HZ1 HI2 HP0_1
  generalize ((((w2.setCell ⟨g, 3, none⟩ (.slice q1.A0 q1.n0 q1.c0)).setCell ⟨g, 4, none⟩ (.slice q1.A1 q1.n1 q1.c1)).setCell ⟨g, 5, none⟩ (.slice q1.A2 q1.n2 q1.c2)).setCell ⟨g, 6, none⟩ (.slice q1.A3 q1.n3 q1.c3)) = W2 at *
  have hx := HX2.out
  have hy := HR2.out
  have c0 : W2.cell? ⟨g, 0, none⟩ = some (.int .i64 e.term) := (cell_of_heap hx 0).trans rfl
  have c1 : W2.cell? ⟨g, 1, none⟩ = some (.int .u8 e.kind) := (cell_of_heap hx 1).trans rfl
  have c2 : W2.cell? ⟨g, 2, none⟩ = some (.slice E0 e.cmd.length k0) := (cell_of_heap hx 2).trans rfl
  have c3 : W2.cell? ⟨g, 3, none⟩ = some (.slice q1.A0 q1.n0 q1.c0) := (cell_of_heap hx 3).trans rfl
  have c4 : W2.cell? ⟨g, 4, none⟩ = some (.slice q1.A1 q1.n1 q1.c1) := (cell_of_heap hx 4).trans rfl
  have c5 : W2.cell? ⟨g, 5, none⟩ = some (.slice q1.A2 q1.n2 q1.c2) := (cell_of_heap hx 5).trans rfl
  have c6 : W2.cell? ⟨g, 6, none⟩ = some (.slice q1.A3 q1.n3 q1.c3) := (cell_of_heap hx 6).trans rfl
  have b0 : W2.cell? ⟨(g + 1), 0, none⟩ = some (.int .i64 0) := (cell_of_heap hy 0).trans rfl
  have b1 : W2.cell? ⟨(g + 1), 1, none⟩ = some (.int .u8 0) := (cell_of_heap hy 1).trans rfl
  have b2 : W2.cell? ⟨(g + 1), 2, none⟩ = some (.slice none 0 0) := (cell_of_heap hy 2).trans rfl
  have b3 : W2.cell? ⟨(g + 1), 3, none⟩ = some (.slice none 0 0) := (cell_of_heap hy 3).trans rfl
  have b4 : W2.cell? ⟨(g + 1), 4, none⟩ = some (.slice none 0 0) := (cell_of_heap hy 4).trans rfl
  have b5 : W2.cell? ⟨(g + 1), 5, none⟩ = some (.slice none 0 0) := (cell_of_heap hy 5).trans rfl
  have b6 : W2.cell? ⟨(g + 1), 6, none⟩ = some (.slice none 0 0) := (cell_of_heap hy 6).trans rfl
  have h0 : W2.frozen? ⟨g + 1, 0, none⟩ = false := frz_raw hy 0
  have h1 : W2.frozen? ⟨g + 1, 1, none⟩ = false := frz_raw hy 1
  have h2 : W2.frozen? ⟨g + 1, 2, none⟩ = false := frz_raw hy 2
  have h3 : W2.frozen? ⟨g + 1, 3, none⟩ = false := frz_raw hy 3
  have h4 : W2.frozen? ⟨g + 1, 4, none⟩ = false := frz_raw hy 4
  have h5 : W2.frozen? ⟨g + 1, 5, none⟩ = false := frz_raw hy 5
  have h6 : W2.frozen? ⟨g + 1, 6, none⟩ = false := frz_raw hy 6
  clear hx hy
  go_wp2_with fail
  refine bodyPost_ret (v := .agg #[.int .i64 e.term, .int .u8 e.kind, .slice E0 e.cmd.length k0, .slice q1.A0 q1.n0 q1.c0, .slice q1.A1 q1.n1 q1.c1, .slice q1.A2 q1.n2 q1.c2, .slice q1.A3 q1.n3 q1.c3]) (by simp [results, Try.results167, go_sem, b0, b1, b2, b3, b4, b5, b6]; try rfl) rfl ?_
  clear c0 b0 h0 c1 b1 h1 c2 b2 h2 c3 b3 h3 c4 b4 h4 c5 b5 h5 c6 b6 h6
  have hg2 : W.heap.size ≤ g + 1 := by have := HG.out; omega
  have hg3 : W.heap.size ≤ g + 2 := by have := HG.out; omega
  refine ⟨⟨E0, e.cmd.length, k0, q1⟩, rfl, ?_, ?_⟩
  · refine EnL.mono (B := g + 2) ?_ hg3
    refine EnL.hi (w := W2) ⟨HP0_2.out, HP1_2.out⟩ ?_
    (repeat (refine Hi.set' ?_ (by omega) _ _))
    exact Hi.refl _ _
  · show Below W.heap.size W _
    repeat refine Below.setCell ?_ hg2 _
    exact HO2.out
set_option maxRecDepth 100000 in
set_option maxHeartbeats 8000000 in
theorem lentBase_w (bi bt : Int) (s : S4) (c : Cfg) (W : World) (h : CfgIn W s.v c) (hs : Fine c) : Calls Try.prog 123 #[baseV bi bt s] W (LentBaseP W bi bt c) := by
  have HCI := Lib.hid h
  have HS := Lib.hid hs
  clear h hs
  unfold baseV
  have HX0 := Lib.hid (blk2 W (.cells #[.int .i64 bi, .int .i64 bt, .slice s.A0 s.n0 s.c0, .slice s.A1 s.n1 s.c1, .slice s.A2 s.n2 s.c2, .slice s.A3 s.n3 s.c3] 93) (.cells #[.int .i64 0, .int .i64 0, .slice none 0 0, .slice none 0 0, .slice none 0 0, .slice none 0 0] 93)).1
  have HR0 := Lib.hid (blk2 W (.cells #[.int .i64 bi, .int .i64 bt, .slice s.A0 s.n0 s.c0, .slice s.A1 s.n1 s.c1, .slice s.A2 s.n2 s.c2, .slice s.A3 s.n3 s.c3] 93) (.cells #[.int .i64 0, .int .i64 0, .slice none 0 0, .slice none 0 0, .slice none 0 0, .slice none 0 0] 93)).2
  have HO0 : Hid (Ok W ((W.alloc (.cells #[.int .i64 bi, .int .i64 bt, .slice s.A0 s.n0 s.c0, .slice s.A1 s.n1 s.c1, .slice s.A2 s.n2 s.c2, .slice s.A3 s.n3 s.c3] 93)).alloc (.cells #[.int .i64 0, .int .i64 0, .slice none 0 0, .slice none 0 0, .slice none 0 0, .slice none 0 0] 93))) := Lib.hid (((Ok.refl W).alloc _).alloc _)
  have HZ0 : Hid (W.heap.size + 2 ≤ ((W.alloc (.cells #[.int .i64 bi, .int .i64 bt, .slice s.A0 s.n0 s.c0, .slice s.A1 s.n1 s.c1, .slice s.A2 s.n2 s.c2, .slice s.A3 s.n3 s.c3] 93)).alloc (.cells #[.int .i64 0, .int .i64 0, .slice none 0 0, .slice none 0 0, .slice none 0 0, .slice none 0 0] 93)).heap.size) := Lib.hid (by simp [World.size_alloc])
  go_enter Try.func123, Try.ntmps123
  go_wp2_with fail
  generalize ((W.alloc (.cells #[.int .i64 bi, .int .i64 bt, .slice s.A0 s.n0 s.c0, .slice s.A1 s.n1 s.c1, .slice s.A2 s.n2 s.c2, .slice s.A3 s.n3 s.c3] 93)).alloc (.cells #[.int .i64 0, .int .i64 0, .slice none 0 0, .slice none 0 0, .slice none 0 0, .slice none 0 0] 93)) = W0 at *
  obtain ⟨g, hg⟩ : ∃ g, W.heap.size = g := ⟨_, rfl⟩
  have HG := Lib.hid hg
  rw [hg] at HX0 HR0 HZ0 ⊢
  clear hg
  refine (lentCfg_w s c W0 (HO0.out.cfg HCI.out) HS.out).mono ?_
  rintro _ w1 ⟨q1, rfl, hown, hok⟩
  unfold S4.v
  have HX1 : Hid (((((w1.setCell ⟨g, 2, none⟩ (.slice q1.A0 q1.n0 q1.c0)).setCell ⟨g, 3, none⟩ (.slice q1.A1 q1.n1 q1.c1)).setCell ⟨g, 4, none⟩ (.slice q1.A2 q1.n2 q1.c2)).setCell ⟨g, 5, none⟩ (.slice q1.A3 q1.n3 q1.c3)).heap[g]? = some (.cells #[.int .i64 bi, .int .i64 bt, .slice q1.A0 q1.n0 q1.c0, .slice q1.A1 q1.n1 q1.c1, .slice q1.A2 q1.n2 q1.c2, .slice q1.A3 q1.n3 q1.c3] 93 (0, 0))) := Lib.hid (set_blk (set_blk (set_blk (set_blk (blk_ok hok HX0.out) 2 (.slice q1.A0 q1.n0 q1.c0)) 3 (.slice q1.A1 q1.n1 q1.c1)) 4 (.slice q1.A2 q1.n2 q1.c2)) 5 (.slice q1.A3 q1.n3 q1.c3))
  have HR1 : Hid (((((w1.setCell ⟨g, 2, none⟩ (.slice q1.A0 q1.n0 q1.c0)).setCell ⟨g, 3, none⟩ (.slice q1.A1 q1.n1 q1.c1)).setCell ⟨g, 4, none⟩ (.slice q1.A2 q1.n2 q1.c2)).setCell ⟨g, 5, none⟩ (.slice q1.A3 q1.n3 q1.c3)).heap[g + 1]? = some (.cells #[.int .i64 0, .int .i64 0, .slice none 0 0, .slice none 0 0, .slice none 0 0, .slice none 0 0] 93 (0, 0))) := Lib.hid (set_far (set_far (set_far (set_far (blk_ok hok HR0.out) (by omega : g ≠ g + 1) 2 (.slice q1.A0 q1.n0 q1.c0)) (by omega : g ≠ g + 1) 3 (.slice q1.A1 q1.n1 q1.c1)) (by omega : g ≠ g + 1) 4 (.slice q1.A2 q1.n2 q1.c2)) (by omega : g ≠ g + 1) 5 (.slice q1.A3 q1.n3 q1.c3))
  have HO1 : Hid (Ok W ((((w1.setCell ⟨g, 2, none⟩ (.slice q1.A0 q1.n0 q1.c0)).setCell ⟨g, 3, none⟩ (.slice q1.A1 q1.n1 q1.c1)).setCell ⟨g, 4, none⟩ (.slice q1.A2 q1.n2 q1.c2)).setCell ⟨g, 5, none⟩ (.slice q1.A3 q1.n3 q1.c3))) := Lib.hid (Below.setCell (Below.setCell (Below.setCell (Below.setCell (HO0.out.trans hok) (Nat.le_of_eq HG.out) _) (Nat.le_of_eq HG.out) _) (Nat.le_of_eq HG.out) _) (Nat.le_of_eq HG.out) _)
  have HI1 : Hid (Hi (g + 2) w1 ((((w1.setCell ⟨g, 2, none⟩ (.slice q1.A0 q1.n0 q1.c0)).setCell ⟨g, 3, none⟩ (.slice q1.A1 q1.n1 q1.c1)).setCell ⟨g, 4, none⟩ (.slice q1.A2 q1.n2 q1.c2)).setCell ⟨g, 5, none⟩ (.slice q1.A3 q1.n3 q1.c3))) := Lib.hid (Hi.set' (Hi.set' (Hi.set' (Hi.set' (Hi.refl _ _) (by omega) _ _) (by omega) _ _) (by omega) _ _) (by omega) _ _)
  have HZ1 : Hid (g + 2 ≤ ((((w1.setCell ⟨g, 2, none⟩ (.slice q1.A0 q1.n0 q1.c0)).setCell ⟨g, 3, none⟩ (.slice q1.A1 q1.n1 q1.c1)).setCell ⟨g, 4, none⟩ (.slice q1.A2 q1.n2 q1.c2)).setCell ⟨g, 5, none⟩ (.slice q1.A3 q1.n3 q1.c3)).heap.size) := Lib.hid (Nat.le_trans (Nat.le_trans HZ0.out hok.size) HI1.out.1)
  have HP0_1 := Lib.hid ((hown.mono HZ0.out).hi HI1.out)
  have hx := blk_ok hok HX0.out
  have c0 : w1.cell? ⟨g, 0, none⟩ = some (.int .i64 bi) := (cell_of_heap hx 0).trans rfl
  have c1 : w1.cell? ⟨g, 1, none⟩ = some (.int .i64 bt) := (cell_of_heap hx 1).trans rfl
  have c2 : w1.cell? ⟨g, 2, none⟩ = some (.slice s.A0 s.n0 s.c0) := (cell_of_heap hx 2).trans rfl
  have c3 : w1.cell? ⟨g, 3, none⟩ = some (.slice s.A1 s.n1 s.c1) := (cell_of_heap hx 3).trans rfl
  have c4 : w1.cell? ⟨g, 4, none⟩ = some (.slice s.A2 s.n2 s.c2) := (cell_of_heap hx 4).trans rfl
  have c5 : w1.cell? ⟨g, 5, none⟩ = some (.slice s.A3 s.n3 s.c3) := (cell_of_heap hx 5).trans rfl
  have f2 : w1.frozen? ⟨g, 2, none⟩ = false := frz_raw hx 2
  have f3 : w1.frozen? ⟨g, 3, none⟩ = false := frz_raw hx 3
  have f4 : w1.frozen? ⟨g, 4, none⟩ = false := frz_raw hx 4
  have f5 : w1.frozen? ⟨g, 5, none⟩ = false := frz_raw hx 5
  clear hx hown hok
  go_upto_region 2 with fail
  clear c0 c1 c2 c3 c4 c5 f2 f3 f4 f5 HX0 HR0 HO0 HZ0 HI1
  generalize ((((w1.setCell ⟨g, 2, none⟩ (.slice q1.A0 q1.n0 q1.c0)).setCell ⟨g, 3, none⟩ (.slice q1.A1 q1.n1 q1.c1)).setCell ⟨g, 4, none⟩ (.slice q1.A2 q1.n2 q1.c2)).setCell ⟨g, 5, none⟩ (.slice q1.A3 q1.n3 q1.c3)) = W1 at *
  have hx := HX1.out
  have hy := HR1.out
  have c0 : W1.cell? ⟨g, 0, none⟩ = some (.int .i64 bi) := (cell_of_heap hx 0).trans rfl
  have c1 : W1.cell? ⟨g, 1, none⟩ = some (.int .i64 bt) := (cell_of_heap hx 1).trans rfl
  have c2 : W1.cell? ⟨g, 2, none⟩ = some (.slice q1.A0 q1.n0 q1.c0) := (cell_of_heap hx 2).trans rfl
  have c3 : W1.cell? ⟨g, 3, none⟩ = some (.slice q1.A1 q1.n1 q1.c1) := (cell_of_heap hx 3).trans rfl
  have c4 : W1.cell? ⟨g, 4, none⟩ = some (.slice q1.A2 q1.n2 q1.c2) := (cell_of_heap hx 4).trans rfl
  have c5 : W1.cell? ⟨g, 5, none⟩ = some (.slice q1.A3 q1.n3 q1.c3) := (cell_of_heap hx 5).trans rfl
  have b0 : W1.cell? ⟨(g + 1), 0, none⟩ = some (.int .i64 0) := (cell_of_heap hy 0).trans rfl
  have b1 : W1.cell? ⟨(g + 1), 1, none⟩ = some (.int .i64 0) := (cell_of_heap hy 1).trans rfl
  have b2 : W1.cell? ⟨(g + 1), 2, none⟩ = some (.slice none 0 0) := (cell_of_heap hy 2).trans rfl
  have b3 : W1.cell? ⟨(g + 1), 3, none⟩ = some (.slice none 0 0) := (cell_of_heap hy 3).trans rfl
  have b4 : W1.cell? ⟨(g + 1), 4, none⟩ = some (.slice none 0 0) := (cell_of_heap hy 4).trans rfl
  have b5 : W1.cell? ⟨(g + 1), 5, none⟩ = some (.slice none 0 0) := (cell_of_heap hy 5).trans rfl
  have h0 : W1.frozen? ⟨g + 1, 0, none⟩ = false := frz_raw hy 0
  have h1 : W1.frozen? ⟨g + 1, 1, none⟩ = false := frz_raw hy 1
  have h2 : W1.frozen? ⟨g + 1, 2, none⟩ = false := frz_raw hy 2
  have h3 : W1.frozen? ⟨g + 1, 3, none⟩ = false := frz_raw hy 3
  have h4 : W1.frozen? ⟨g + 1, 4, none⟩ = false := frz_raw hy 4
  have h5 : W1.frozen? ⟨g + 1, 5, none⟩ = false := frz_raw hy 5
  clear hx hy
  go_wp2_with fail
  refine bodyPost_ret (v := .agg #[.int .i64 bi, .int .i64 bt, .slice q1.A0 q1.n0 q1.c0, .slice q1.A1 q1.n1 q1.c1, .slice q1.A2 q1.n2 q1.c2, .slice q1.A3 q1.n3 q1.c3]) (by simp [results, Try.results123, go_sem, b0, b1, b2, b3, b4, b5]; try rfl) rfl ?_
  clear c0 b0 h0 c1 b1 h1 c2 b2 h2 c3 b3 h3 c4 b4 h4 c5 b5 h5
  have hg2 : W.heap.size ≤ g + 1 := by have := HG.out; omega
  have hg3 : W.heap.size ≤ g + 2 := by have := HG.out; omega
  refine ⟨q1, rfl, ?_, ?_⟩
  · refine LentS.mono (B := g + 2) ?_ hg3
    refine LentS.hi (w := W1) HP0_1.out ?_
    (repeat (refine Hi.set' ?_ (by omega) _ _))
    exact Hi.refl _ _
  · show Below W.heap.size W _
    repeat refine Below.setCell ?_ hg2 _
    exact HO1.out
set_option maxRecDepth 100000 in
set_option maxHeartbeats 8000000 in
theorem lentImage_w (r : IR) (x : Im) (W : World) (h : ImAt W r x) (hs : Fine x.cfg ∧ x.bytes.length ≤ 1000000) : Calls Try.prog 66 #[r.val x] W (LentIP W x) := by
  have HCI := Lib.hid h
  have HS := Lib.hid hs
  clear h hs
  unfold IR.val
  have HX0 := Lib.hid (blk2 W (.cells #[.int .i64 x.bi, .int .i64 x.bt, .slice r.s.A0 r.s.n0 r.s.c0, .slice r.s.A1 r.s.n1 r.s.c1, .slice r.s.A2 r.s.n2 r.s.c2, .slice r.s.A3 r.s.n3 r.s.c3, .slice r.A r.n r.c] 97) (.cells #[.int .i64 0, .int .i64 0, .slice none 0 0, .slice none 0 0, .slice none 0 0, .slice none 0 0, .slice none 0 0] 97)).1
  have HR0 := Lib.hid (blk2 W (.cells #[.int .i64 x.bi, .int .i64 x.bt, .slice r.s.A0 r.s.n0 r.s.c0, .slice r.s.A1 r.s.n1 r.s.c1, .slice r.s.A2 r.s.n2 r.s.c2, .slice r.s.A3 r.s.n3 r.s.c3, .slice r.A r.n r.c] 97) (.cells #[.int .i64 0, .int .i64 0, .slice none 0 0, .slice none 0 0, .slice none 0 0, .slice none 0 0, .slice none 0 0] 97)).2
  have HO0 : Hid (Ok W ((W.alloc (.cells #[.int .i64 x.bi, .int .i64 x.bt, .slice r.s.A0 r.s.n0 r.s.c0, .slice r.s.A1 r.s.n1 r.s.c1, .slice r.s.A2 r.s.n2 r.s.c2, .slice r.s.A3 r.s.n3 r.s.c3, .slice r.A r.n r.c] 97)).alloc (.cells #[.int .i64 0, .int .i64 0, .slice none 0 0, .slice none 0 0, .slice none 0 0, .slice none 0 0, .slice none 0 0] 97))) := Lib.hid (((Ok.refl W).alloc _).alloc _)
  have HZ0 : Hid (W.heap.size + 2 ≤ ((W.alloc (.cells #[.int .i64 x.bi, .int .i64 x.bt, .slice r.s.A0 r.s.n0 r.s.c0, .slice r.s.A1 r.s.n1 r.s.c1, .slice r.s.A2 r.s.n2 r.s.c2, .slice r.s.A3 r.s.n3 r.s.c3, .slice r.A r.n r.c] 97)).alloc (.cells #[.int .i64 0, .int .i64 0, .slice none 0 0, .slice none 0 0, .slice none 0 0, .slice none 0 0, .slice none 0 0] 97)).heap.size) := Lib.hid (by simp [World.size_alloc])
  go_enter Try.func66, Try.ntmps66
  go_wp2_with fail
  generalize ((W.alloc (.cells #[.int .i64 x.bi, .int .i64 x.bt, .slice r.s.A0 r.s.n0 r.s.c0, .slice r.s.A1 r.s.n1 r.s.c1, .slice r.s.A2 r.s.n2 r.s.c2, .slice r.s.A3 r.s.n3 r.s.c3, .slice r.A r.n r.c] 97)).alloc (.cells #[.int .i64 0, .int .i64 0, .slice none 0 0, .slice none 0 0, .slice none 0 0, .slice none 0 0, .slice none 0 0] 97)) = W0 at *
  obtain ⟨g, hg⟩ : ∃ g, W.heap.size = g := ⟨_, rfl⟩
  have HG := Lib.hid hg
  rw [hg] at HX0 HR0 HZ0 ⊢
  clear hg
  refine (lentBase_w x.bi x.bt r.s x.cfg W0 (HO0.out.cfg HCI.out.cfg) HS.out.1).mono ?_
  rintro _ w1 ⟨q1, rfl, hown, hok⟩
  unfold baseV
  have HX1 : Hid (((((((w1.setCell ⟨g, 0, none⟩ (.int .i64 x.bi)).setCell ⟨g, 1, none⟩ (.int .i64 x.bt)).setCell ⟨g, 2, none⟩ (.slice q1.A0 q1.n0 q1.c0)).setCell ⟨g, 3, none⟩ (.slice q1.A1 q1.n1 q1.c1)).setCell ⟨g, 4, none⟩ (.slice q1.A2 q1.n2 q1.c2)).setCell ⟨g, 5, none⟩ (.slice q1.A3 q1.n3 q1.c3)).heap[g]? = some (.cells #[.int .i64 x.bi, .int .i64 x.bt, .slice q1.A0 q1.n0 q1.c0, .slice q1.A1 q1.n1 q1.c1, .slice q1.A2 q1.n2 q1.c2, .slice q1.A3 q1.n3 q1.c3, .slice r.A r.n r.c] 97 (0, 0))) := Lib.hid (set_blk (set_blk (set_blk (set_blk (set_blk (set_blk (blk_ok hok HX0.out) 0 (.int .i64 x.bi)) 1 (.int .i64 x.bt)) 2 (.slice q1.A0 q1.n0 q1.c0)) 3 (.slice q1.A1 q1.n1 q1.c1)) 4 (.slice q1.A2 q1.n2 q1.c2)) 5 (.slice q1.A3 q1.n3 q1.c3))
  have HR1 : Hid (((((((w1.setCell ⟨g, 0, none⟩ (.int .i64 x.bi)).setCell ⟨g, 1, none⟩ (.int .i64 x.bt)).setCell ⟨g, 2, none⟩ (.slice q1.A0 q1.n0 q1.c0)).setCell ⟨g, 3, none⟩ (.slice q1.A1 q1.n1 q1.c1)).setCell ⟨g, 4, none⟩ (.slice q1.A2 q1.n2 q1.c2)).setCell ⟨g, 5, none⟩ (.slice q1.A3 q1.n3 q1.c3)).heap[g + 1]? = some (.cells #[.int .i64 0, .int .i64 0, .slice none 0 0, .slice none 0 0, .slice none 0 0, .slice none 0 0, .slice none 0 0] 97 (0, 0))) := Lib.hid (set_far (set_far (set_far (set_far (set_far (set_far (blk_ok hok HR0.out) (by omega : g ≠ g + 1) 0 (.int .i64 x.bi)) (by omega : g ≠ g + 1) 1 (.int .i64 x.bt)) (by omega : g ≠ g + 1) 2 (.slice q1.A0 q1.n0 q1.c0)) (by omega : g ≠ g + 1) 3 (.slice q1.A1 q1.n1 q1.c1)) (by omega : g ≠ g + 1) 4 (.slice q1.A2 q1.n2 q1.c2)) (by omega : g ≠ g + 1) 5 (.slice q1.A3 q1.n3 q1.c3))
  have HO1 : Hid (Ok W ((((((w1.setCell ⟨g, 0, none⟩ (.int .i64 x.bi)).setCell ⟨g, 1, none⟩ (.int .i64 x.bt)).setCell ⟨g, 2, none⟩ (.slice q1.A0 q1.n0 q1.c0)).setCell ⟨g, 3, none⟩ (.slice q1.A1 q1.n1 q1.c1)).setCell ⟨g, 4, none⟩ (.slice q1.A2 q1.n2 q1.c2)).setCell ⟨g, 5, none⟩ (.slice q1.A3 q1.n3 q1.c3))) := Lib.hid (Below.setCell (Below.setCell (Below.setCell (Below.setCell (Below.setCell (Below.setCell (HO0.out.trans hok) (Nat.le_of_eq HG.out) _) (Nat.le_of_eq HG.out) _) (Nat.le_of_eq HG.out) _) (Nat.le_of_eq HG.out) _) (Nat.le_of_eq HG.out) _) (Nat.le_of_eq HG.out) _)
  have HI1 : Hid (Hi (g + 2) w1 ((((((w1.setCell ⟨g, 0, none⟩ (.int .i64 x.bi)).setCell ⟨g, 1, none⟩ (.int .i64 x.bt)).setCell ⟨g, 2, none⟩ (.slice q1.A0 q1.n0 q1.c0)).setCell ⟨g, 3, none⟩ (.slice q1.A1 q1.n1 q1.c1)).setCell ⟨g, 4, none⟩ (.slice q1.A2 q1.n2 q1.c2)).setCell ⟨g, 5, none⟩ (.slice q1.A3 q1.n3 q1.c3))) := Lib.hid (Hi.set' (Hi.set' (Hi.set' (Hi.set' (Hi.set' (Hi.set' (Hi.refl _ _) (by omega) _ _) (by omega) _ _) (by omega) _ _) (by omega) _ _) (by omega) _ _) (by omega) _ _)
  have HZ1 : Hid (g + 2 ≤ ((((((w1.setCell ⟨g, 0, none⟩ (.int .i64 x.bi)).setCell ⟨g, 1, none⟩ (.int .i64 x.bt)).setCell ⟨g, 2, none⟩ (.slice q1.A0 q1.n0 q1.c0)).setCell ⟨g, 3, none⟩ (.slice q1.A1 q1.n1 q1.c1)).setCell ⟨g, 4, none⟩ (.slice q1.A2 q1.n2 q1.c2)).setCell ⟨g, 5, none⟩ (.slice q1.A3 q1.n3 q1.c3)).heap.size) := Lib.hid (Nat.le_trans (Nat.le_trans HZ0.out hok.size) HI1.out.1)
  have HP0_1 := Lib.hid ((hown.mono HZ0.out).hi HI1.out)
  have hx := blk_ok hok HX0.out
  have c0 : w1.cell? ⟨g, 0, none⟩ = some (.int .i64 x.bi) := (cell_of_heap hx 0).trans rfl
  have c1 : w1.cell? ⟨g, 1, none⟩ = some (.int .i64 x.bt) := (cell_of_heap hx 1).trans rfl
  have c2 : w1.cell? ⟨g, 2, none⟩ = some (.slice r.s.A0 r.s.n0 r.s.c0) := (cell_of_heap hx 2).trans rfl
  have c3 : w1.cell? ⟨g, 3, none⟩ = some (.slice r.s.A1 r.s.n1 r.s.c1) := (cell_of_heap hx 3).trans rfl
  have c4 : w1.cell? ⟨g, 4, none⟩ = some (.slice r.s.A2 r.s.n2 r.s.c2) := (cell_of_heap hx 4).trans rfl
  have c5 : w1.cell? ⟨g, 5, none⟩ = some (.slice r.s.A3 r.s.n3 r.s.c3) := (cell_of_heap hx 5).trans rfl
  have c6 : w1.cell? ⟨g, 6, none⟩ = some (.slice r.A r.n r.c) := (cell_of_heap hx 6).trans rfl
  have f0 : w1.frozen? ⟨g, 0, none⟩ = false := frz_raw hx 0
  have f1 : w1.frozen? ⟨g, 1, none⟩ = false := frz_raw hx 1
  have f2 : w1.frozen? ⟨g, 2, none⟩ = false := frz_raw hx 2
  have f3 : w1.frozen? ⟨g, 3, none⟩ = false := frz_raw hx 3
  have f4 : w1.frozen? ⟨g, 4, none⟩ = false := frz_raw hx 4
  have f5 : w1.frozen? ⟨g, 5, none⟩ = false := frz_raw hx 5
  clear hx hown hok
  go_wp2_with fail
  clear c0 c1 c2 c3 c4 c5 c6 f0 f1 f2 f3 f4 f5 HX0 HR0 HO0 HZ0 HI1
  generalize ((((((w1.setCell ⟨g, 0, none⟩ (.int .i64 x.bi)).setCell ⟨g, 1, none⟩ (.int .i64 x.bt)).setCell ⟨g, 2, none⟩ (.slice q1.A0 q1.n0 q1.c0)).setCell ⟨g, 3, none⟩ (.slice q1.A1 q1.n1 q1.c1)).setCell ⟨g, 4, none⟩ (.slice q1.A2 q1.n2 q1.c2)).setCell ⟨g, 5, none⟩ (.slice q1.A3 q1.n3 q1.c3)) = W1 at *
  refine (lentBytes_w r.A r.n r.c x.bytes HS.out.2 W1 (HO1.out.bytes HCI.out.bytes)).mono ?_
  rintro _ w2 ⟨E0, k0, rfl, hown, hok⟩
  have HX2 : Hid ((w2.setCell ⟨g, 6, none⟩ (.slice E0 x.bytes.length k0)).heap[g]? = some (.cells #[.int .i64 x.bi, .int .i64 x.bt, .slice q1.A0 q1.n0 q1.c0, .slice q1.A1 q1.n1 q1.c1, .slice q1.A2 q1.n2 q1.c2, .slice q1.A3 q1.n3 q1.c3, .slice E0 x.bytes.length k0] 97 (0, 0))) := Lib.hid (set_blk (blk_ok hok HX1.out) 6 (.slice E0 x.bytes.length k0))
  have HR2 : Hid ((w2.setCell ⟨g, 6, none⟩ (.slice E0 x.bytes.length k0)).heap[g + 1]? = some (.cells #[.int .i64 0, .int .i64 0, .slice none 0 0, .slice none 0 0, .slice none 0 0, .slice none 0 0, .slice none 0 0] 97 (0, 0))) := Lib.hid (set_far (blk_ok hok HR1.out) (by omega : g ≠ g + 1) 6 (.slice E0 x.bytes.length k0))
  have HO2 : Hid (Ok W (w2.setCell ⟨g, 6, none⟩ (.slice E0 x.bytes.length k0))) := Lib.hid (Below.setCell (HO1.out.trans hok) (Nat.le_of_eq HG.out) _)
  have HI2 : Hid (Hi (g + 2) w2 (w2.setCell ⟨g, 6, none⟩ (.slice E0 x.bytes.length k0))) := Lib.hid (Hi.set' (Hi.refl _ _) (by omega) _ _)
  have HZ2 : Hid (g + 2 ≤ (w2.setCell ⟨g, 6, none⟩ (.slice E0 x.bytes.length k0)).heap.size) := Lib.hid (Nat.le_trans (Nat.le_trans HZ1.out hok.size) HI2.out.1)
  have HP0_2 := Lib.hid ((HP0_1.out.hi (Hi.ok hok)).hi HI2.out)
  have HP1_2 := Lib.hid ((hown.mono HZ1.out).hi HI2.out)
  have hx := blk_ok hok HX1.out
  have c0 : w2.cell? ⟨g, 0, none⟩ = some (.int .i64 x.bi) := (cell_of_heap hx 0).trans rfl
  have c1 : w2.cell? ⟨g, 1, none⟩ = some (.int .i64 x.bt) := (cell_of_heap hx 1).trans rfl
  have c2 : w2.cell? ⟨g, 2, none⟩ = some (.slice q1.A0 q1.n0 q1.c0) := (cell_of_heap hx 2).trans rfl
  have c3 : w2.cell? ⟨g, 3, none⟩ = some (.slice q1.A1 q1.n1 q1.c1) := (cell_of_heap hx 3).trans rfl
  have c4 : w2.cell? ⟨g, 4, none⟩ = some (.slice q1.A2 q1.n2 q1.c2) := (cell_of_heap hx 4).trans rfl
  have c5 : w2.cell? ⟨g, 5, none⟩ = some (.slice q1.A3 q1.n3 q1.c3) := (cell_of_heap hx 5).trans rfl
  have c6 : w2.cell? ⟨g, 6, none⟩ = some (.slice r.A r.n r.c) := (cell_of_heap hx 6).trans rfl
  have f6 : w2.frozen? ⟨g, 6, none⟩ = false := frz_raw hx 6
  clear hx hown hok
  go_upto_region 3 with fail
  clear c0 c1 c2 c3 c4 c5 c6 f6 HX1 HR1 HO1 HZ1 HI2 HP0_1
  generalize (w2.setCell ⟨g, 6, none⟩ (.slice E0 x.bytes.length k0)) = W2 at *
  have hx := HX2.out
  have hy := HR2.out
  have c0 : W2.cell? ⟨g, 0, none⟩ = some (.int .i64 x.bi) := (cell_of_heap hx 0).trans rfl
  have c1 : W2.cell? ⟨g, 1, none⟩ = some (.int .i64 x.bt) := (cell_of_heap hx 1).trans rfl
  have c2 : W2.cell? ⟨g, 2, none⟩ = some (.slice q1.A0 q1.n0 q1.c0) := (cell_of_heap hx 2).trans rfl
  have c3 : W2.cell? ⟨g, 3, none⟩ = some (.slice q1.A1 q1.n1 q1.c1) := (cell_of_heap hx 3).trans rfl
  have c4 : W2.cell? ⟨g, 4, none⟩ = some (.slice q1.A2 q1.n2 q1.c2) := (cell_of_heap hx 4).trans rfl
  have c5 : W2.cell? ⟨g, 5, none⟩ = some (.slice q1.A3 q1.n3 q1.c3) := (cell_of_heap hx 5).trans rfl
  have c6 : W2.cell? ⟨g, 6, none⟩ = some (.slice E0 x.bytes.length k0) := (cell_of_heap hx 6).trans rfl
  have b0 : W2.cell? ⟨(g + 1), 0, none⟩ = some (.int .i64 0) := (cell_of_heap hy 0).trans rfl
  have b1 : W2.cell? ⟨(g + 1), 1, none⟩ = some (.int .i64 0) := (cell_of_heap hy 1).trans rfl
  have b2 : W2.cell? ⟨(g + 1), 2, none⟩ = some (.slice none 0 0) := (cell_of_heap hy 2).trans rfl
  have b3 : W2.cell? ⟨(g + 1), 3, none⟩ = some (.slice none 0 0) := (cell_of_heap hy 3).trans rfl
  have b4 : W2.cell? ⟨(g + 1), 4, none⟩ = some (.slice none 0 0) := (cell_of_heap hy 4).trans rfl
  have b5 : W2.cell? ⟨(g + 1), 5, none⟩ = some (.slice none 0 0) := (cell_of_heap hy 5).trans rfl
  have b6 : W2.cell? ⟨(g + 1), 6, none⟩ = some (.slice none 0 0) := (cell_of_heap hy 6).trans rfl
  have h0 : W2.frozen? ⟨g + 1, 0, none⟩ = false := frz_raw hy 0
  have h1 : W2.frozen? ⟨g + 1, 1, none⟩ = false := frz_raw hy 1
  have h2 : W2.frozen? ⟨g + 1, 2, none⟩ = false := frz_raw hy 2
  have h3 : W2.frozen? ⟨g + 1, 3, none⟩ = false := frz_raw hy 3
  have h4 : W2.frozen? ⟨g + 1, 4, none⟩ = false := frz_raw hy 4
  have h5 : W2.frozen? ⟨g + 1, 5, none⟩ = false := frz_raw hy 5
  have h6 : W2.frozen? ⟨g + 1, 6, none⟩ = false := frz_raw hy 6
  clear hx hy
  go_wp2_with fail
  refine bodyPost_ret (v := .agg #[.int .i64 x.bi, .int .i64 x.bt, .slice q1.A0 q1.n0 q1.c0, .slice q1.A1 q1.n1 q1.c1, .slice q1.A2 q1.n2 q1.c2, .slice q1.A3 q1.n3 q1.c3, .slice E0 x.bytes.length k0]) (by simp [results, Try.results66, go_sem, b0, b1, b2, b3, b4, b5, b6]; try rfl) rfl ?_
  clear c0 b0 h0 c1 b1 h1 c2 b2 h2 c3 b3 h3 c4 b4 h4 c5 b5 h5 c6 b6 h6
  have hg2 : W.heap.size ≤ g + 1 := by have := HG.out; omega
  have hg3 : W.heap.size ≤ g + 2 := by have := HG.out; omega
  refine ⟨⟨q1, E0, x.bytes.length, k0⟩, rfl, ?_, ?_⟩
  · refine ImL.mono (B := g + 2) ?_ hg3
    refine ImL.hi (w := W2) ⟨HP0_2.out, HP1_2.out⟩ ?_
    (repeat (refine Hi.set' ?_ (by omega) _ _))
    exact Hi.refl _ _
  · show Below W.heap.size W _
    repeat refine Below.setCell ?_ hg2 _
    exact HO2.out
end Go.Proofs.Ytolfdncmlfnbdaa
