/- The frame that begins here, and the place moved: walked. -/
import Derived.Test.YtpebnlddmjfomaaDoorFh
namespace Go.Proofs.YtpebnlddmjfomaaDoor
open Go.RowKit
def NextP (W0 : World) (p : Nat) (w : World) (bs : List B8) (m : Nat) (e : Ending) (w' : World) : Prop :=
  (nextF bs = none ∧ e = .returned (.tuple #[.agg #[.int .i64 0, .slice none 0 0], .bool false]) ∧ Pl W0 p w' bs m ∧ But p w w') ∨
  ∃ (f : Fr) (t : List B8) (A : Option Addr) (n c : Nat), nextF bs = some (f, t) ∧ e = .returned (.tuple #[.agg #[.int .i64 f.kind, .slice A n c], .bool true]) ∧ OwnN w' w.heap.size (.slice A n c) f.data ∧ Pl W0 p w' t (m + 9 + f.data.length) ∧ But p w w'
theorem Pl.left {W0 : World} {p : Nat} {w : World} {bs bs' : List B8} {m : Nat} (h : Pl W0 p w bs' m) {A : Option Addr} {c : Nat} (hB : BytesIn W0 (.slice A bs.length c) bs) : Pl W0 p (w.setCell ⟨p, 0, none⟩ (.slice A bs.length c)) bs m := by
  obtain ⟨h1, h2, ⟨A', c', c0, _⟩, c1, f0, f1⟩ := h
  exact ⟨h1, Below.setCell h2 h1 _, ⟨A, c, by go_simp, hB⟩, by go_simp, by go_simp, by go_simp⟩
theorem Pl.at {W0 : World} {p : Nat} {w : World} {bs : List B8} {m m' : Nat} (h : Pl W0 p w bs m) {x : Int} (hx : x = (m' : Int)) : Pl W0 p (w.setCell ⟨p, 1, none⟩ (.int .i64 x)) bs m' := by
  subst hx
  obtain ⟨h1, h2, ⟨A', c', c0, hB⟩, c1, f0, f1⟩ := h
  exact ⟨h1, Below.setCell h2 h1 _, ⟨A', c', by go_simp, hB⟩, by go_simp, by go_simp, by go_simp⟩
theorem Res.but {r p : Nat} {w w' : World} {x y : Value} (h : Res r w x y) (hr : r ≠ p) (k : But p w w') : Res r w' x y := by
  have hl : r < w.heap.size := World.block_lt_of_cell? _ _ h.1
  refine ⟨k.cell hr h.1, k.cell hr h.2.1, ?_, ?_⟩
  · rw [k.frozen (x := ⟨r, 0, none⟩) hr hl]; exact h.2.2.1
  · rw [k.frozen (x := ⟨r, 1, none⟩) hr hl]; exact h.2.2.2
theorem NextP.no {W0 : World} {p : Nat} {w w' : World} {bs bs' : List B8} {m r : Nat} {A : Option Addr} {c : Nat} (hn : nextF bs = none) (h : Pl W0 p w' bs' m) (hB : BytesIn W0 (.slice A bs.length c) bs) (k : But p w w') (hr : r ≠ p) (hw : w.heap.size ≤ r) (hW : W0.heap.size ≤ r) {x y : Value} :
    NextP W0 p w bs m (.returned (.tuple #[.agg #[.int .i64 0, .slice none 0 0], .bool false])) (((w'.setCell ⟨p, 0, none⟩ (.slice A bs.length c)).setCell ⟨r, 0, none⟩ x).setCell ⟨r, 1, none⟩ y) :=
  .inl ⟨hn, rfl, ((h.left hB).other hr hW 0 x).other hr hW 1 y, ((k.set 0 _).new hw 0 x).new hw 1 y⟩
theorem Pl.drew {W0 : World} {p : Nat} {w : World} {bs : List B8} {m : Nat} (h : Pl W0 p w bs m) : Pl W0 p w.drew bs m := ⟨h.1, h.2.1.drew, h.2.2⟩
theorem But.drew {p : Nat} {a b : World} (h : But p a b) : But p a b.drew := h
theorem OwnN.drew {w : World} {B : Nat} {v : Value} {xs : List B8} (h : OwnN w B v xs) : OwnN w.drew B v xs := h
theorem NextP.yes {W0 : World} {p : Nat} {w w3 : World} {bs t : List B8} {f : Fr} {m r B n : Nat} {A : Option Addr} {c : Nat} {kd x : Int} (hn : nextF bs = some (f, t)) (hk : kd = f.kind) (ho : OwnN w3 B (.slice A n c) f.data) (hB : w.heap.size ≤ B) (hpB : p < B) (hrB : r < B) (hP : Pl W0 p w3 t m) (hb : But p w w3)
    (hx : x = ((m + 9 + f.data.length : Nat) : Int)) (hr : r ≠ p) (hw : w.heap.size ≤ r) (hW : W0.heap.size ≤ r) {y z : Value} :
    NextP W0 p w bs m (.returned (.tuple #[.agg #[.int .i64 kd, .slice A n c], .bool true])) ((((w3.setCell ⟨p, 1, none⟩ (.int .i64 x)).drew).setCell ⟨r, 0, none⟩ y).setCell ⟨r, 1, none⟩ z) := by
  subst hk
  exact .inr ⟨f, t, A, n, c, hn, rfl, (((ho.set hpB 1 _).drew.set hrB 0 y).set hrB 1 z).mono hB, ((hP.at hx).drew.other hr hW 0 y).other hr hW 1 z, ((hb.set 1 _).drew.new hw 0 y).new hw 1 z⟩
set_option maxRecDepth 100000 in
set_option maxHeartbeats 4000000 in
theorem next_w (W0 : World) (p : Nat) (w : World) (bs : List B8) (m : Nat) (h : Pl W0 p w bs m) (ht : Tab W0) (hm : m + bs.length ≤ 1000000000) :
    Calls Tryd.prog 27 #[.pointer (some ⟨p, 0, none⟩)] w (NextP W0 p w bs m) := by
  have HP := Lib.hid (h.ok ((Ok.refl w).alloc (.cells #[.int .i64 0, .slice none 0 0] 28)))
  have HB := Lib.hid ((But.refl p w).ok ((Ok.refl w).alloc (.cells #[.int .i64 0, .slice none 0 0] 28)))
  have HR := Lib.hid (res_new w (.int .i64 0) (.slice none 0 0))
  have HNE : Hid (w.heap.size ≠ p) := Lib.hid (Nat.ne_of_gt h.lt)
  have HW0 : Hid (W0.heap.size ≤ w.heap.size) := Lib.hid (Nat.le_of_lt (Nat.lt_of_le_of_lt h.1 h.lt))
  have HT := Lib.hid ht
  have HM := Lib.hid hm
  clear h ht hm
  obtain ⟨-, -, ⟨A, c, C0, hBY⟩, -, -, -⟩ := HP.out
  have HBY := Lib.hid hBY
  clear hBY
  go_enter Tryd.func27, Tryd.ntmps27
  go_wp2_with fail
  obtain ⟨r, hr⟩ : ∃ r, r = w.heap.size := ⟨_, rfl⟩
  have HRW : Hid (w.heap.size ≤ r) := Lib.hid (Nat.le_of_eq hr.symm)
  rw [← hr] at HR HNE HW0 ⊢
  clear hr
  generalize w.alloc (.cells #[.int .i64 0, .slice none 0 0] 28) = w1 at *
  (with_reducible refine (frame_w W0 p w1 bs m HP.out HT.out).mono ?_)
  rintro _ w2 (⟨hn, rfl, ⟨bs', hP⟩, hB⟩ | ⟨f, t, A2, n2, c2, hn, rfl, hO, hP, hB⟩)
  · have HN := Lib.hid hn
    have HP2 := Lib.hid (hP.ok ((Ok.refl w2).alloc (.cells #[.int .i64 0, .slice none 0 0] 28)))
    have HB2 := Lib.hid ((HB.out.trans hB).ok ((Ok.refl w2).alloc (.cells #[.int .i64 0, .slice none 0 0] 28)))
    have HR2 := Lib.hid ((HR.out.but HNE.out hB).ok ((Ok.refl w2).alloc (.cells #[.int .i64 0, .slice none 0 0] 28)))
    clear hn hP hB HP HB HR C0
    obtain ⟨-, -, ⟨A', c', D0, -⟩, -, F0, -⟩ := HP2.out
    obtain ⟨r0, r1, f0, f1⟩ := HR2.out
    have hne : r ≠ p := HNE.out
    have hne2 : p ≠ r := Ne.symm hne
    go_wp2_with fail
    refine bodyPost_ret (by simp [results, Tryd.results27, go_sem, r0, r1]; try rfl) rfl ?_
    exact NextP.no HN.out HP2.out HBY.out HB2.out HNE.out HRW.out HW0.out
  · have HN := Lib.hid hn
    obtain ⟨hfr, hbs⟩ := next_some hn
    have hlen : bs.length = 9 + f.data.length + t.length := by rw [hbs, List.length_append, bytesF_len]
    have hnn := hO.len
    have HP2 := Lib.hid (hP.ok ((Ok.refl w2).alloc (.cells #[.int .i64 f.kind, .slice A2 n2 c2] 28)))
    have HB2 := Lib.hid ((HB.out.trans hB).ok ((Ok.refl w2).alloc (.cells #[.int .i64 f.kind, .slice A2 n2 c2] 28)))
    have HR2 := Lib.hid ((HR.out.but HNE.out hB).ok ((Ok.refl w2).alloc (.cells #[.int .i64 f.kind, .slice A2 n2 c2] 28)))
    have HRN : Hid (r < w1.heap.size) := Lib.hid (World.block_lt_of_cell? _ _ HR.out.1)
    have HWB : Hid (w.heap.size ≤ w1.heap.size) := Lib.hid HB.out.2.2.2.1
    have HO2 := Lib.hid (hO.ok ((Ok.refl w2).alloc (.cells #[.int .i64 f.kind, .slice A2 n2 c2] 28)))
    have hpw : p < w1.heap.size := HP.out.lt
    have hw2 : p ≠ w2.heap.size := Nat.ne_of_lt hP.lt
    have hr2 : r ≠ w2.heap.size := by have h1 := HRN.out; have h2 := hB.2.2.2.1; omega
    have hw2' : w2.heap.size ≠ p := Ne.symm hw2
    have hr2' : w2.heap.size ≠ r := Ne.symm hr2
    have G0 : (w2.alloc (.cells #[.int .i64 f.kind, .slice A2 n2 c2] 28)).cell? ⟨w2.heap.size, 0, none⟩ = some (.int .i64 f.kind) := (res_new w2 _ _).1
    have G1 : (w2.alloc (.cells #[.int .i64 f.kind, .slice A2 n2 c2] 28)).cell? ⟨w2.heap.size, 1, none⟩ = some (.slice A2 n2 c2) := (res_new w2 _ _).2.1
    have HPW : Hid (p < w1.heap.size) := Lib.hid hpw
    clear hn hP hB HP HB HR C0 hO hbs hfr hpw
    obtain ⟨-, -, ⟨A', c', D0, -⟩, D1, F0, F1⟩ := HP2.out
    obtain ⟨r0, r1, f0, f1⟩ := HR2.out
    have hne : r ≠ p := HNE.out
    have hne2 : p ≠ r := Ne.symm hne
    have hmb : m + bs.length ≤ 1000000000 := HM.out
    have HLEN := Lib.hid hlen
    have HNN := Lib.hid hnn
    have m0 : (0 : Int) ≤ (m : Int) := Int.natCast_nonneg _
    have hle : t.length ≤ bs.length := by omega
    clear hlen hnn
    generalize hk : f.kind = kd at *
    have HK := Lib.hid hk
    clear hk
    generalize bs.length = L at *
    generalize t.length = Lt at *
    go_wp2_with fail
    generalize w2.heap.size = g2 at *
    generalize w2.alloc (.cells #[.int .i64 kd, .slice A2 n2 c2] 28) = w3 at *
    go_region
    go_wp2_with fail
    refine bodyPost_ret (by simp [results, Tryd.results27, go_sem, r0, r1]; try rfl) rfl ?_
    exact NextP.yes HN.out HK.out.symm HO2.out HWB.out HPW.out HRN.out HP2.out HB2.out (by have := HLEN.out; omega) HNE.out HRW.out HW0.out
end Go.Proofs.YtpebnlddmjfomaaDoor
