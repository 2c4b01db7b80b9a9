/- One frame, walked: what stays (But); too few bytes. -/
import Derived.Test.YtpebnlddmjfomaaDoorFf
namespace Go.Proofs.YtpebnlddmjfomaaDoor
open Go.RowKit
/-- All that was there stays, but block p. -/
def But (p : Nat) (w w' : World) : Prop := w'.os = w.os ∧ w'.tape = w.tape ∧ w'.output = w.output ∧ w.heap.size ≤ w'.heap.size ∧ ∀ k, k < w.heap.size → k ≠ p → w'.heap[k]? = w.heap[k]?
theorem But.refl (p : Nat) (w : World) : But p w w := ⟨rfl, rfl, rfl, Nat.le_refl _, fun _ _ _ => rfl⟩
theorem But.trans {p : Nat} {a b c : World} (h : But p a b) (k : But p b c) : But p a c := ⟨k.1.trans h.1, k.2.1.trans h.2.1, k.2.2.1.trans h.2.2.1, Nat.le_trans h.2.2.2.1 k.2.2.2.1, fun i hi hp => (k.2.2.2.2 i (Nat.lt_of_lt_of_le hi h.2.2.2.1) hp).trans (h.2.2.2.2 i hi hp)⟩
theorem But.ok {p : Nat} {a b c : World} (h : But p a b) (k : Ok b c) : But p a c := h.trans ⟨k.os, k.tape, k.output, k.size, fun i hi _ => k.block i hi⟩
theorem But.only {p : Nat} {a b c : World} (h : But p a b) (k : Only p b c) : But p a c := h.trans ⟨k.1, k.2.1, k.2.2.1, Nat.le_of_eq k.2.2.2.1.symm, fun i _ hp => k.2.2.2.2 i hp⟩
theorem But.set {p : Nat} {a b : World} (h : But p a b) (o : Nat) (v : Value) : But p a (b.setCell ⟨p, o, none⟩ v) := h.only ((Only.refl p b).set o v)
theorem But.new {p : Nat} {a b : World} (h : But p a b) {g : Nat} (hg : a.heap.size ≤ g) (o : Nat) (v : Value) : But p a (b.setCell ⟨g, o, none⟩ v) :=
  ⟨h.1, h.2.1, h.2.2.1, by simpa [World.setCell] using h.2.2.2.1, fun k hk hp => (heap_setCell_other b ⟨g, o, none⟩ k v (by intro e; simp at e; omega)).trans (h.2.2.2.2 k hk hp)⟩
theorem But.cell {p : Nat} {a b : World} (h : But p a b) {x : Addr} {v : Value} (hx : x.block ≠ p) (hc : a.cell? x = some v) : b.cell? x = some v := by
  rw [World.cell?_of_block (h.2.2.2.2 x.block (World.block_lt_of_cell? _ _ hc) hx)]; exact hc
theorem But.below {p : Nat} {a b : World} (h : But p a b) {B : Nat} (hB : B ≤ p) (hs : B ≤ a.heap.size) : Below B a b := ⟨h.1, h.2.1, h.2.2.1, h.2.2.2.1, fun k hk => h.2.2.2.2 k (by omega) (by omega)⟩
theorem But.frozen {p : Nat} {a b : World} (h : But p a b) {x : Addr} (hx : x.block ≠ p) (hl : x.block < a.heap.size) : b.frozen? x = a.frozen? x := World.frozen?_of_block (h.2.2.2.2 x.block hl hx)
theorem Pl.lt {W0 : World} {p : Nat} {w : World} {bs : List B8} {m : Nat} (h : Pl W0 p w bs m) : p < w.heap.size := World.block_lt_of_cell? _ _ h.2.2.2.1
theorem Pl.ok {W0 : World} {p : Nat} {w w' : World} {bs : List B8} {m : Nat} (h : Pl W0 p w bs m) (k : Ok w w') : Pl W0 p w' bs m := by
  obtain ⟨h1, h2, ⟨A, c, c0, hB⟩, c1, f0, f1⟩ := id h
  refine ⟨h1, Ok.trans h2 k, ⟨A, c, k.cell c0, hB⟩, k.cell c1, ?_, ?_⟩
  · rw [Below.frozen k (p := ⟨p, 0, none⟩) h.lt]; exact f0
  · rw [Below.frozen k (p := ⟨p, 1, none⟩) h.lt]; exact f1
def nextLen (L q : Nat) : Nat := if q ≤ L then L - q else L
/-- A number, whatever there is. -/
def NumQ (W0 : World) (p : Nat) (w : World) (bs : List B8) (m : Nat) (e : Ending) (w' : World) : Prop := ∃ (x : Nat) (ok : Bool) (bs' : List B8), e = .returned (.tuple #[.int .u32 (x : Int), .bool ok]) ∧ x < 4294967296 ∧ bs'.length = nextLen bs.length 4 ∧ Pl W0 p w' bs' m ∧ Only p w w'
theorem number_any (W0 : World) (p : Nat) (w : World) (bs : List B8) (m : Nat) (h : Pl W0 p w bs m) : Calls Tryd.prog 62 #[.pointer (some ⟨p, 0, none⟩)] w (NumQ W0 p w bs m) := by
  by_cases hl : 4 ≤ bs.length
  · match bs, hl, h with
    | a0 :: a1 :: a2 :: a3 :: r, _, h =>
      refine (number_yes W0 p w a0 a1 a2 a3 r m h).mono ?_
      rintro e w' ⟨rfl, h1, h2⟩
      exact ⟨_, true, r, rfl, un4_lt _ _ _ _, by simp [nextLen], h1, h2⟩
  · refine (number_no W0 p w bs m h (by omega)).mono ?_
    rintro e w' ⟨rfl, rfl⟩
    exact ⟨0, false, bs, rfl, by decide, by unfold nextLen; rw [if_neg hl], h, Only.refl _ _⟩
def TakeQ (W0 : World) (p : Nat) (w : World) (bs : List B8) (m q : Nat) (e : Ending) (w' : World) : Prop := ∃ (A : Option Addr) (n c : Nat) (ok : Bool) (bs' : List B8), e = .returned (.tuple #[.slice A n c, .bool ok]) ∧ bs'.length = nextLen bs.length q ∧ Pl W0 p w' bs' m ∧ Only p w w'
theorem take_any (W0 : World) (p : Nat) (w : World) (bs : List B8) (m q : Nat) (h : Pl W0 p w bs m) : Calls Tryd.prog 63 #[.pointer (some ⟨p, 0, none⟩), .int .i64 (q : Int)] w (TakeQ W0 p w bs m q) := by
  by_cases hl : q ≤ bs.length
  · refine (take_yes W0 p w bs m q h hl).mono ?_
    rintro e w' ⟨⟨A, c, rfl, -⟩, h1, h2⟩
    exact ⟨A, q, c, true, _, rfl, by unfold nextLen; rw [if_pos hl, List.length_drop], h1, h2⟩
  · refine (take_no W0 p w bs m q h (by omega)).mono ?_
    rintro e w' ⟨rfl, rfl⟩
    exact ⟨none, 0, 0, false, bs, rfl, by unfold nextLen; rw [if_neg hl], h, Only.refl _ _⟩
theorem take1_any (W0 : World) (p : Nat) (w : World) (bs : List B8) (m : Nat) (h : Pl W0 p w bs m) : Calls Tryd.prog 63 #[.pointer (some ⟨p, 0, none⟩), .int .i64 1] w (TakeQ W0 p w bs m 1) := take_any W0 p w bs m 1 h
theorem short_len (L : Nat) (h : L < 9) : nextLen (nextLen L 4) 1 < 4 := by
  unfold nextLen
  split <;> split <;> omega
def NoFrame (W0 : World) (p : Nat) (w : World) (m : Nat) (e : Ending) (w' : World) : Prop := e = .returned (.tuple #[.agg #[.int .i64 0, .slice none 0 0], .bool false]) ∧ (∃ bs', Pl W0 p w' bs' m) ∧ But p w w'
/-- The block of the result. -/
def Res (r : Nat) (w : World) (x y : Value) : Prop := w.cell? ⟨r, 0, none⟩ = some x ∧ w.cell? ⟨r, 1, none⟩ = some y ∧ w.frozen? ⟨r, 0, none⟩ = false ∧ w.frozen? ⟨r, 1, none⟩ = false
theorem Res.ok {r : Nat} {w w' : World} {x y : Value} (h : Res r w x y) (k : Ok w w') : Res r w' x y := by
  have hl : r < w.heap.size := World.block_lt_of_cell? _ _ h.1
  refine ⟨k.cell h.1, k.cell h.2.1, ?_, ?_⟩
  · rw [Below.frozen k (p := ⟨r, 0, none⟩) hl]; exact h.2.2.1
  · rw [Below.frozen k (p := ⟨r, 1, none⟩) hl]; exact h.2.2.2
theorem Res.only {r p : Nat} {w w' : World} {x y : Value} (h : Res r w x y) (hr : r ≠ p) (k : Only p w w') : Res r w' x y := by
  have b := k.2.2.2.2 r hr
  refine ⟨?_, ?_, ?_, ?_⟩
  · rw [World.cell?_of_block (a := ⟨r, 0, none⟩) b]; exact h.1
  · rw [World.cell?_of_block (a := ⟨r, 1, none⟩) b]; exact h.2.1
  · rw [World.frozen?_of_block (a := ⟨r, 0, none⟩) b]; exact h.2.2.1
  · rw [World.frozen?_of_block (a := ⟨r, 1, none⟩) b]; exact h.2.2.2
theorem res_new (w : World) (x y : Value) : Res w.heap.size (w.alloc (.cells #[x, y] 28)) x y := by
  have h := heap_alloc_new w (.cells #[x, y] 28)
  exact ⟨cell_of_heap h 0, cell_of_heap h 1, World.frozen?_alloc_at _ _ _ _ rfl, World.frozen?_alloc_at _ _ _ _ rfl⟩
theorem Pl.other {W0 : World} {p : Nat} {w : World} {bs : List B8} {m : Nat} (h : Pl W0 p w bs m) {r : Nat} (hr : r ≠ p) (hW : W0.heap.size ≤ r) (o : Nat) (v : Value) : Pl W0 p (w.setCell ⟨r, o, none⟩ v) bs m := by
  obtain ⟨h1, h2, ⟨A, c, c0, hB⟩, c1, f0, f1⟩ := id h
  have b := heap_setCell_other w ⟨r, o, none⟩ p v (by intro e; exact hr e.symm)
  refine ⟨h1, Below.setCell h2 hW _, ⟨A, c, ?_, hB⟩, ?_, ?_, ?_⟩
  · rw [World.cell?_of_block (a := ⟨p, 0, none⟩) b]; exact c0
  · rw [World.cell?_of_block (a := ⟨p, 1, none⟩) b]; exact c1
  · rw [World.frozen?_of_block (a := ⟨p, 0, none⟩) b]; exact f0
  · rw [World.frozen?_of_block (a := ⟨p, 1, none⟩) b]; exact f1
theorem NoFrame.mk {W0 : World} {p : Nat} {w w' : World} {m r : Nat} {bs' : List B8} (h : Pl W0 p w' bs' m) (k : But p w w') (hr : r ≠ p) (hw : w.heap.size ≤ r) (hW : W0.heap.size ≤ r) {x y : Value} : NoFrame W0 p w m (.returned (.tuple #[.agg #[.int .i64 0, .slice none 0 0], .bool false])) ((w'.setCell ⟨r, 0, none⟩ x).setCell ⟨r, 1, none⟩ y) := by
  exact ⟨rfl, ⟨bs', (h.other hr hW 0 x).other hr hW 1 y⟩, (k.new hw 0 x).new hw 1 y⟩
def zF : Value := .agg #[.int .i64 0, .slice none 0 0]
set_option maxHeartbeats 2000000 in
theorem frame_short (W0 : World) (p : Nat) (w : World) (bs : List B8) (m : Nat) (h : Pl W0 p w bs m) (hl : bs.length < 9) :
    Calls Tryd.prog 35 #[.pointer (some ⟨p, 0, none⟩)] w (NoFrame W0 p w m) := by
  have HL := Lib.hid hl
  clear hl
  have HP := Lib.hid (h.ok ((Ok.refl w).alloc (.cells #[.int .i64 0, .slice none 0 0] 28)))
  have HB := Lib.hid ((But.refl p w).ok ((Ok.refl w).alloc (.cells #[.int .i64 0, .slice none 0 0] 28)))
  have HR := Lib.hid (res_new w (.int .i64 0) (.slice none 0 0))
  have HNE : Hid (w.heap.size ≠ p) := Lib.hid (Nat.ne_of_gt h.lt)
  have HW0 : Hid (W0.heap.size ≤ w.heap.size) := Lib.hid (Nat.le_of_lt (Nat.lt_of_le_of_lt h.1 h.lt))
  clear h
  go_enter Tryd.func35, Tryd.ntmps35
  go_wp2_with fail
  obtain ⟨r, hr⟩ : ∃ r, r = w.heap.size := ⟨_, rfl⟩
  have HRW : Hid (w.heap.size ≤ r) := Lib.hid (Nat.le_of_eq hr.symm)
  rw [← hr] at HR HNE HW0 ⊢
  clear hr
  generalize w.alloc (.cells #[.int .i64 0, .slice none 0 0] 28) = w1 at *
  (with_reducible refine (number_any W0 p w1 bs m HP.out).mono ?_)
  rintro _ w2 ⟨x1, ok1, bs1, rfl, hx1, hl1, hP, hO⟩
  have HP2 := Lib.hid hP
  have HB2 := Lib.hid (HB.out.only hO)
  have HR2 := Lib.hid (HR.out.only HNE.out hO)
  have HL1 := Lib.hid hl1
  clear hP hO HP HB HR hl1
  go_wp2_with fail
  (with_reducible refine (take1_any W0 p w2 bs1 m HP2.out).mono ?_)
  rintro _ w3 ⟨A1, n1, c1, ok2, bs2, rfl, hl2, hP, hO⟩
  have HP3 := Lib.hid hP
  have HB3 := Lib.hid (HB2.out.only hO)
  have HR3 := Lib.hid (HR2.out.only HNE.out hO)
  have HL2 : Hid (bs2.length < 4) := Lib.hid (by rw [hl2, HL1.out]; exact short_len _ HL.out)
  clear hP hO HP2 HB2 HR2 hl2 HL1 HL
  go_wp2_with fail
  (with_reducible refine (number_no W0 p w3 bs2 m HP3.out HL2.out).mono ?_)
  rintro _ w4 ⟨rfl, rfl⟩
  have HR := HR3
  have HP := HP3
  have HB := HB3
  obtain ⟨r0, r1, f0, f1⟩ := HR.out
  go_wp2_with fail
  refine bodyPost_ret (by simp [results, Tryd.results35, go_sem, r0, r1]; try rfl) rfl ?_
  exact NoFrame.mk HP.out HB.out HNE.out HRW.out HW0.out
end Go.Proofs.YtpebnlddmjfomaaDoor
