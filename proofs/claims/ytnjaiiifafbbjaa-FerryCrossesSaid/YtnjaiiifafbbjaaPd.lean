/- Pasts that are read: by the program, and by the document. -/
import Derived.Test.YtnjaiiifafbbjaaPc
import Derived.Deep.RegionHeld3
namespace Go.Proofs.Ytnjaiiifafbbjaa
open Go.RowKit

/-- What was there has not turned, but in block g. -/
def Mv (g : Nat) (w w' : World) : Prop := w'.os = w.os ∧ w'.tape = w.tape ∧ w'.output = w.output ∧ w.heap.size ≤ w'.heap.size ∧ ∀ k, k < w.heap.size → k ≠ g → w'.heap[k]? = w.heap[k]?
theorem Mv.refl (g : Nat) (w : World) : Mv g w w := ⟨rfl, rfl, rfl, Nat.le_refl _, fun _ _ _ => rfl⟩
theorem Mv.trans {g : Nat} {a b c : World} (h : Mv g a b) (k : Mv g b c) : Mv g a c :=
  ⟨k.1.trans h.1, k.2.1.trans h.2.1, k.2.2.1.trans h.2.2.1, Nat.le_trans h.2.2.2.1 k.2.2.2.1, fun i hi hg => (k.2.2.2.2 i (Nat.lt_of_lt_of_le hi h.2.2.2.1) hg).trans (h.2.2.2.2 i hi hg)⟩
theorem Only.mv {g : Nat} {a b : World} (h : Only g a b) : Mv g a b := ⟨h.1, h.2.1, h.2.2.1, Nat.le_of_eq h.2.2.2.1.symm, fun k _ hg => h.2.2.2.2 k hg⟩
theorem Ok.mv {a b : World} (h : Ok a b) (g : Nat) : Mv g a b := ⟨h.os, h.tape, h.output, h.size, fun k hk _ => h.block k hk⟩
theorem Mv.new {g p : Nat} {a b : World} (h : Mv g a b) (hp : a.heap.size ≤ p) (o : Nat) (v : Value) : Mv g a (b.setCell ⟨p, o, none⟩ v) :=
  ⟨h.1, h.2.1, h.2.2.1, by simpa [World.setCell] using h.2.2.2.1, fun k hk hg => by rw [heap_setCell_other b ⟨p, o, none⟩ k v (by simp; omega)]; exact h.2.2.2.2 k hk hg⟩
theorem Mv.cell {g : Nat} {w w' : World} (h : Mv g w w') {b o : Nat} {v : Value} (hc : w.cell? ⟨b, o, none⟩ = some v) (hb : b ≠ g) : w'.cell? ⟨b, o, none⟩ = some v := by
  rw [World.cell?_of_block (w := w) (h.2.2.2.2 b (World.block_lt_of_cell? _ _ hc) hb)]; exact hc
theorem Mv.frozen {g : Nat} {w w' : World} (h : Mv g w w') {b o : Nat} {f : Bool} (hf : w.frozen? ⟨b, o, none⟩ = f) (hs : b < w.heap.size) (hb : b ≠ g) : w'.frozen? ⟨b, o, none⟩ = f := by
  rw [World.frozen?_of_block (w := w) (h.2.2.2.2 b hs hb)]; exact hf
theorem Mv.past {g p : Nat} {w w' : World} {f : Nat → Int} (h : Mv g w w') (hp : p ≠ g) (k : PastAt w p f) : PastAt w' p f where
  num i hi := h.cell (k.num i hi) hp
  made := h.cell k.made hp
  free i hi := h.frozen (k.free i hi) (World.block_lt_of_cell? _ _ (k.num i hi)) hp
theorem Mv.below {g : Nat} {w w' : World} (h : Mv g w w') {B : Nat} (hB : B ≤ g) (hs : g ≤ w.heap.size) : Below B w w' :=
  ⟨h.1, h.2.1, h.2.2.1, h.2.2.2.1, fun k hk => h.2.2.2.2 k (by omega) (by omega)⟩
theorem Rd.ok {W0 : World} {g : Nat} {w w' : World} {xs : List B8} {f : Bool} (h : Rd W0 g w xs f) (k : Ok w w') : Rd W0 g w' xs f := by
  obtain ⟨h1, h2, ⟨v, hv, h0⟩, h3, h4, h5, h6⟩ := h
  have hs : g < w.heap.size := World.block_lt_of_cell? _ _ h0
  exact ⟨h1, h2.trans k, ⟨v, hv, k.cell h0⟩, k.cell h3, k.cell h4, by rw [Below.frozen k (p := ⟨g, 0, none⟩) hs]; exact h5, by rw [Below.frozen k (p := ⟨g, 1, none⟩) hs]; exact h6⟩
theorem Rd.mv {W0 : World} {g p : Nat} {w w' : World} {xs : List B8} {f : Bool} (h : Rd W0 g w xs f) (k : Mv p w w') (hp : g < p) (hps : p ≤ w.heap.size) : Rd W0 g w' xs f := by
  obtain ⟨h1, h2, ⟨v, hv, h0⟩, h3, h4, h5, h6⟩ := h
  have hs : g < w.heap.size := World.block_lt_of_cell? _ _ h0
  exact ⟨h1, Below.trans h2 (k.below (by omega) hps), ⟨v, hv, k.cell h0 (by omega)⟩, k.cell h3 (by omega), k.cell h4 (by omega), k.frozen h5 hs (by omega), k.frozen h6 hs (by omega)⟩
theorem Rf.mv {W0 : World} {g p : Nat} {w w' : World} {xs : List B8} {f : Bool} (h : Rf W0 g w xs f) (k : Mv p w w') (hB : W0.heap.size ≤ p) (hp : g ≠ p) (hps : p ≤ w.heap.size) : Rf W0 g w' xs f := by
  obtain ⟨h1, h2, ⟨v, hv, h0⟩, h3, h5, h6⟩ := h
  have hs : g < w.heap.size := World.block_lt_of_cell? _ _ h0
  exact ⟨h1, Below.trans h2 (k.below hB hps), ⟨v, hv, k.cell h0 hp⟩, k.cell h3 hp, k.frozen h5 hs hp, k.frozen h6 hs hp⟩

def mxN : Nat := 1073741824
/-- What is left behind k numbers, and whether it has failed. -/
def stM (xs : List B8) : Nat → List B8 × Bool
  | 0 => (xs, false)
  | k + 1 => (numM mxN (stM xs k).1 (stM xs k).2).2
/-- The k-th number. -/
def valM (xs : List B8) (k : Nat) : Nat := (numM mxN (stM xs k).1 (stM xs k).2).1
theorem stM_ok (xs : List B8) : ∀ k, (stM xs k).2 = true → (stM xs k).1 = []
  | 0, h => by cases h
  | k + 1, h => numM_ok mxN _ _ (stM_ok xs k) h
def upto (xs : List B8) (k : Nat) (i : Nat) : Int := if i < k then (valM xs i : Int) else 0
theorem PastAt.put {w : World} {p : Nat} {xs : List B8} {k : Nat} (h : PastAt w p (upto xs k)) (hk : k < 8) : PastAt (w.setCell ⟨p, k, none⟩ (.int .i64 (valM xs k : Int))) p (upto xs (k + 1)) where
  num i hi := by
    by_cases hik : i = k
    · subst hik
      rw [World.cell?_setCell_same _ _ _ (h.num i hi)]
      simp [upto]
    · rw [World.cell?_setCell_other _ _ _ _ (by first | (simp; done) | (simp; omega)), h.num i hi]
      have : (i < k) = (i < k + 1) := by simp; omega
      simp [upto, this]
  made := by rw [World.cell?_setCell_other _ _ _ _ (by first | (simp; done) | (simp; omega))]; exact h.made
  free i hi := by rw [World.frozen?_setCell]; exact h.free i hi

def cellOf (w : World) (g o : Nat) : Value := (w.cell? ⟨g, o, none⟩).getD undef
theorem cellOf_some {w : World} {g o : Nat} {x : Value} (h : w.cell? ⟨g, o, none⟩ = some x) : w.cell? ⟨g, o, none⟩ = some (cellOf w g o) := by
  unfold cellOf; rw [h]; rfl
theorem KS {g p o : Nat} {w w' : World} {v : Value} (h : w.cell? ⟨p, o, none⟩ = some v) (hf : w.frozen? ⟨p, o, none⟩ = false) (k : Mv g w w') (hp : p ≠ g) : w'.cell? ⟨p, o, none⟩ = some (cellOf w' p o) ∧ w'.frozen? ⟨p, o, none⟩ = false :=
  ⟨cellOf_some (k.cell h hp), k.frozen hf (World.block_lt_of_cell? _ _ h) hp⟩
theorem KSet {p o : Nat} {w : World} {v x : Value} (h : w.cell? ⟨p, o, none⟩ = some v) (hf : w.frozen? ⟨p, o, none⟩ = false) : (w.setCell ⟨p, o, none⟩ x).cell? ⟨p, o, none⟩ = some (cellOf (w.setCell ⟨p, o, none⟩ x) p o) ∧ (w.setCell ⟨p, o, none⟩ x).frozen? ⟨p, o, none⟩ = false :=
  ⟨cellOf_some (World.cell?_setCell_same _ _ _ h), by rw [World.frozen?_setCell]; exact hf⟩
/-- What a reading leaves. -/
def ReadP (W0 : World) (g : Nat) (w : World) (xs : List B8) (e : Ending) (w' : World) : Prop :=
  Rd W0 g w' (stM xs 8).1 (stM xs 8).2 ∧ Mv g w w' ∧ ((stM xs 8).2 = true ∧ e = .returned (.tuple #[.pointer none, .bool false]) ∨ (stM xs 8).2 = false ∧ e = .returned (.tuple #[.pointer (some ⟨w.heap.size, 0, none⟩), .bool true]) ∧ PastAt w' w.heap.size (upto xs 8))

set_option maxRecDepth 100000 in
set_option maxHeartbeats 4000000 in
theorem read_p (W0 : World) (g : Nat) (w : World) (xs : List B8) (h : Rd W0 g w xs false) :
    Calls Try.prog 62 #[.pointer (some ⟨g, 0, none⟩)] w (ReadP W0 g w xs) := by
  have HR := Lib.hid h
  have hgs : g < w.heap.size := World.block_lt_of_cell? _ _ h.2.2.1.choose_spec.2
  clear h
  have H8 := Lib.hid (stM_ok xs 8)
  go_enter Try.func62, Try.ntmps62
  go_wp2_with fail
  refine (new_p w).mono ?_
  rintro _ w1 ⟨rfl, hp1, o1, hs1⟩
  obtain ⟨p, hp⟩ : ∃ p, w.heap.size = p := ⟨_, rfl⟩
  have hgp : g < p := by omega
  have hs1' : p < w1.heap.size := by omega
  have hwp : w.heap.size ≤ p := by omega
  rw [hp] at hp1 ⊢
  have HP1 : Hid (PastAt w1 p (upto xs 0)) := Lib.hid hp1
  have HR1 := Lib.hid (HR.out.ok o1)
  have HM1 := Lib.hid (Ok.mv o1 g)
  have HPW := Lib.hid hp
  clear hp1 o1 hs1 hp HR
  go_wp2_with fail
  go_loopw [5, 7] (fun _ s wr => ∃ k : Nat, k ≤ 8 ∧ s = .int .i64 (k : Int) ∧ Rd W0 g wr (stM xs k).1 (stM xs k).2 ∧ PastAt wr p (upto xs k) ∧ Mv g w wr) (fun _ s _ => 8 - (intOf s).toNat)
  case atStart => exact ⟨0, by omega, rfl, HR1.out, HP1.out, HM1.out⟩
  case round =>
    obtain ⟨k, hk, rfl, hr, hpa, hm⟩ := hrel
    have HR := Lib.hid hr
    have HPA := Lib.hid hpa
    have HM := Lib.hid hm
    clear hr hm HR1 HP1 HM1
    by_cases hlt : k < 8
    · have d1 : decide ((k : Int) < 8) = true := decide_eq_true (by omega)
      have c0 := hpa.num k hlt
      have f0 := hpa.free k hlt
      have HNUM : Hid (∀ w', Ok wr w' → Calls Try.prog 114 #[.pointer (some ⟨g, 0, none⟩), .int .i64 1073741824] w' (RdPost W0 g w' (.int .i64 (valM xs k : Int)) (stM xs (k + 1)).1 (stM xs (k + 1)).2)) :=
        Lib.hid fun w' ho => Num_any W0 g w' _ _ mxN (by decide) (HR.out.ok ho)
      have hi0 : (0 : Int) ≤ (k : Int) := Int.natCast_nonneg _
      have hi1 : (k : Int) < 8 := by omega
      clear hpa
      generalize upto xs k k = v0 at c0
      have HC0 := Lib.hid c0
      have HF0 := Lib.hid f0
      have hpg : p ≠ g := by omega
      have c1 := cellOf_some c0
      have hps : p < wr.heap.size := World.block_lt_of_cell? _ _ c0
      clear c0
      go_wp2_with fail
      go_region_held3 (fun w' => w'.cell? ⟨p, k, none⟩ = some (cellOf w' p k) ∧ w'.frozen? ⟨p, k, none⟩ = false)
        (first
          | (exact KS HC0.out HF0.out ((Ok.drew (Ok.refl wr)).mv g) hpg)
          | (exact KS HC0.out HF0.out (((Ok.drew (Ok.refl wr)).mv g).trans ho2.mv) hpg)
          | (exact KSet ((((Ok.drew (Ok.refl wr)).mv g).trans ho2.mv).cell HC0.out hpg) ((((Ok.drew (Ok.refl wr)).mv g).trans ho2.mv).frozen HF0.out hps hpg)))
        ((go_at_call 114; (with_reducible refine (HNUM.out _ (Ok.drew (Ok.refl wr))).mono ?_); rintro e w2 ⟨rfl, hr2, ho2⟩))
      have HR2 := Lib.hid hr2
      have hmv := ((Ok.drew (Ok.refl wr)).mv g).trans ho2.mv
      have HP2 := Lib.hid ((hmv.past hpg HPA.out).put hlt)
      have HMV2 := Lib.hid ((HM.out.trans hmv).new (p := p) (by omega) k (.int .i64 (valM xs k : Int)))
      have hpsz : p ≤ w2.heap.size := by have := hmv.2.2.2.1; omega
      have HR3 : Hid (Rd W0 g (w2.setCell ⟨p, k, none⟩ (.int .i64 (valM xs k : Int))) (stM xs (k + 1)).1 (stM xs (k + 1)).2) := Lib.hid (hr2.mv (p := p) ⟨rfl, rfl, rfl, by simp [World.setCell], fun j _ hj => heap_setCell_other w2 ⟨p, k, none⟩ j _ hj⟩ hgp hpsz)
      clear hr2 ho2 hmv
      go_wp2
      refine ⟨⟨k + 1, by omega, by go_num, HR3.out, HP2.out, HMV2.out⟩, ?_⟩
      show 8 - ((k : Int) + 1).toNat < 8 - (k : Int).toNat
      omega
    · have d1 : decide ((k : Int) < 8) = false := decide_eq_false (by omega)
      obtain rfl : k = 8 := by omega
      have hnil := H8.out
      have HFIN := Lib.hid (fun (e : Ending) (hc : (stM xs 8).2 = true ∧ e = .returned (.tuple #[.pointer none, .bool false]) ∨ (stM xs 8).2 = false ∧ e = .returned (.tuple #[.pointer (some ⟨w.heap.size, 0, none⟩), .bool true]) ∧ PastAt wr w.heap.size (upto xs 8)) => show ReadP W0 g w xs e wr from ⟨HR.out, HM.out, hc⟩)
      rw [← HPW.out] at HPA ⊢
      have HLF := Lib.hid (left_r W0 g wr _ _ HR.out hnil)
      have HEN := Lib.hid (end_r W0 g wr _ _ HR.out)
      generalize (stM xs 8).1 = ys at hnil HLF HEN
      generalize hf8 : (stM xs 8).2 = f at hnil HLF HEN
      have HF8 := Lib.hid hf8
      clear hf8
      cases f with
      | true =>
        obtain rfl := hnil rfl
        have he : endOf ([] : List B8) true = 4 := rfl
        rw [he] at HEN
        clear hnil he
        go_wp2_with fail
        refine HLF.out.mono ?_
        rintro _ w3 ⟨rfl, rfl⟩
        go_wp2_with fail
        refine HEN.out.mono ?_
        rintro _ w3 ⟨rfl, rfl⟩
        go_wp2_with fail
        go_ret2
        exact HFIN.out _ (.inl ⟨HF8.out, rfl⟩)
      | false =>
        clear hnil
        by_cases hy : ys = []
        · subst hy
          have he : endOf ([] : List B8) false = 0 := rfl
          rw [he] at HEN
          clear he
          go_wp2_with fail
          refine HLF.out.mono ?_
          rintro _ w3 ⟨rfl, rfl⟩
          go_wp2_with fail
          refine HEN.out.mono ?_
          rintro _ w3 ⟨rfl, rfl⟩
          go_wp2_with fail
          go_ret2
          exact HFIN.out _ (.inr ⟨HF8.out, rfl, HPA.out⟩)
        · have hl : ys.length ≠ 0 := fun h => hy (List.length_eq_zero_iff.1 h)
          have d3 : ((ys.length : Int) == 0) = false := beq_eq_false_iff_ne.2 (by omega)
          generalize ys.length = L at *
          clear hy hl
          go_wp2_with fail
          refine HLF.out.mono ?_
          rintro _ w3 ⟨rfl, rfl⟩
          go_wp2_with fail
          go_ret2
          exact HFIN.out _ (.inr ⟨HF8.out, rfl, HPA.out⟩)

/-- A document's past at block p. -/
structure RpAt (w : World) (p : Nat) (f : Nat → Int) : Prop where
  num : ∀ i, i < 8 → w.cell? ⟨p, i + 1, none⟩ = some (.int .i64 (f i))
  free : ∀ i, i < 8 → w.frozen? ⟨p, i + 1, none⟩ = false
theorem RpAt.ok {w w' : World} {p : Nat} {f : Nat → Int} (h : RpAt w p f) (k : Ok w w') : RpAt w' p f where
  num i hi := Ok.cell k (h.num i hi)
  free i hi := (Below.frozen k (World.block_lt_of_cell? _ _ (h.num i hi))).trans (h.free i hi)
theorem RpAt.mv {g p : Nat} {w w' : World} {f : Nat → Int} (k : RpAt w p f) (h : Mv g w w') (hp : p ≠ g) : RpAt w' p f where
  num i hi := h.cell (k.num i hi) hp
  free i hi := h.frozen (k.free i hi) (World.block_lt_of_cell? _ _ (k.num i hi)) hp
theorem RpAt.put {w : World} {p : Nat} {xs : List B8} {k : Nat} (h : RpAt w p (upto xs k)) (hk : k < 8) : RpAt (w.setCell ⟨p, k + 1, none⟩ (.int .i64 (valM xs k : Int))) p (upto xs (k + 1)) where
  num i hi := by
    by_cases hik : i = k
    · subst hik
      rw [World.cell?_setCell_same _ _ _ (h.num i hi)]
      simp [upto]
    · rw [World.cell?_setCell_other _ _ _ _ (by first | (simp; done) | (simp; omega)), h.num i hi]
      have : (i < k) = (i < k + 1) := by simp; omega
      simp [upto, this]
  free i hi := by rw [World.frozen?_setCell]; exact h.free i hi
def RreadP (W0 : World) (g : Nat) (w : World) (xs : List B8) (e : Ending) (w' : World) : Prop :=
  Rf W0 g w' (stM xs 8).1 (stM xs 8).2 ∧ Mv g w w' ∧ ((stM xs 8).2 = true ∧ e = .returned (.tuple #[.pointer none, .bool false]) ∨ (stM xs 8).2 = false ∧ e = .returned (.tuple #[.pointer (some ⟨w.heap.size, 0, none⟩), .bool true]) ∧ RpAt w' w.heap.size (upto xs 8))
theorem Rf.ok {W0 : World} {g : Nat} {w w' : World} {xs : List B8} {f : Bool} (h : Rf W0 g w xs f) (k : Ok w w') : Rf W0 g w' xs f := by
  obtain ⟨h1, h2, ⟨v, hv, h0⟩, h3, h5, h6⟩ := h
  have hs : g < w.heap.size := World.block_lt_of_cell? _ _ h0
  exact ⟨h1, h2.trans k, ⟨v, hv, k.cell h0⟩, k.cell h3, by rw [Below.frozen k (p := ⟨g, 0, none⟩) hs]; exact h5, by rw [Below.frozen k (p := ⟨g, 1, none⟩) hs]; exact h6⟩

set_option maxRecDepth 100000 in
set_option maxHeartbeats 4000000 in
theorem rread_p (W0 : World) (g : Nat) (w : World) (xs : List B8) (h : Rf W0 g w xs false) :
    Calls Try.prog 63 #[.pointer (some ⟨g, 0, none⟩)] w (RreadP W0 g w xs) := by
  have HR := Lib.hid h
  have hgs : g < w.heap.size := World.block_lt_of_cell? _ _ h.2.2.1.choose_spec.2
  have hW0 : W0.heap.size ≤ g := h.1
  clear h
  have HP1 : Hid (RpAt (w.alloc (.cells #[.int .i64 0, .int .i64 0, .int .i64 0, .int .i64 0, .int .i64 0, .int .i64 0, .int .i64 0, .int .i64 0, .int .i64 0] 97)) w.heap.size (upto xs 0)) := Lib.hid {
    num := fun i hi => by
      rw [World.cell?_alloc_at _ _ _ _ rfl]
      match i, hi with
      | 0, _ => rfl
      | 1, _ => rfl
      | 2, _ => rfl
      | 3, _ => rfl
      | 4, _ => rfl
      | 5, _ => rfl
      | 6, _ => rfl
      | 7, _ => rfl
    free := fun i _ => World.frozen?_alloc_at _ _ _ _ rfl }
  go_enter Try.func63, Try.ntmps63
  go_wp2_with fail
  generalize hw1 : w.alloc (.cells #[.int .i64 0, .int .i64 0, .int .i64 0, .int .i64 0, .int .i64 0, .int .i64 0, .int .i64 0, .int .i64 0, .int .i64 0] 97) = w1 at HP1 ⊢
  have o1 : Ok w w1 := by subst hw1; exact Ok.alloc (Ok.refl _) _
  have hs1 : w1.heap.size = w.heap.size + 1 := by subst hw1; simp
  clear hw1
  obtain ⟨p, hp⟩ : ∃ p, w.heap.size = p := ⟨_, rfl⟩
  have hgp : g < p := by omega
  have hs1' : p < w1.heap.size := by omega
  have hwp : w.heap.size ≤ p := by omega
  rw [hp] at HP1 ⊢
  have HR1 := Lib.hid (HR.out.ok o1)
  have HM1 := Lib.hid (Ok.mv o1 g)
  have HPW := Lib.hid hp
  clear o1 hs1 hp HR
  go_loopw [5] (fun s wr => ∃ k : Nat, k ≤ 8 ∧ s = .int .i64 ((k : Int) + 1) ∧ Rf W0 g wr (stM xs k).1 (stM xs k).2 ∧ RpAt wr p (upto xs k) ∧ Mv g w wr) (fun s _ => 9 - (intOf s).toNat)
  case atStart => exact ⟨0, by omega, rfl, HR1.out, HP1.out, HM1.out⟩
  case round =>
    obtain ⟨k, hk, rfl, hr, hpa, hm⟩ := hrel
    have HR := Lib.hid hr
    have HPA := Lib.hid hpa
    have HM := Lib.hid hm
    clear hr hm HR1 HP1 HM1
    by_cases hlt : k < 8
    · have d1 : decide ((k : Int) + 1 ≤ 8) = true := decide_eq_true (by omega)
      have c0 := hpa.num k hlt
      have f0 := hpa.free k hlt
      have HNUM : Hid (∀ w', Ok wr w' → Calls Try.prog 116 #[.pointer (some ⟨g, 0, none⟩), .int .i64 1073741824] w' (RfPost W0 g w' (.int .i64 (valM xs k : Int)) (stM xs (k + 1)).1 (stM xs (k + 1)).2)) :=
        Lib.hid fun w' ho => rnum_w W0 g w' _ _ mxN (by decide) (HR.out.ok ho)
      have hi0 : (0 : Int) ≤ (k : Int) + 1 := by omega
      have hi1 : (k : Int) + 1 < 9 := by omega
      clear hpa
      generalize upto xs k k = v0 at c0
      have HC0 := Lib.hid c0
      have HF0 := Lib.hid f0
      have hpg : p ≠ g := by omega
      have c1 := cellOf_some c0
      have hps : p < wr.heap.size := World.block_lt_of_cell? _ _ c0
      clear c0
      go_wp2_with fail
      go_region_held3 (fun w' => w'.cell? ⟨p, k + 1, none⟩ = some (cellOf w' p (k + 1)) ∧ w'.frozen? ⟨p, k + 1, none⟩ = false)
        (first
          | (exact KS HC0.out HF0.out ((Ok.drew (Ok.refl wr)).mv g) hpg)
          | (exact KS HC0.out HF0.out (((Ok.drew (Ok.refl wr)).mv g).trans ho2.mv) hpg)
          | (exact KSet ((((Ok.drew (Ok.refl wr)).mv g).trans ho2.mv).cell HC0.out hpg) ((((Ok.drew (Ok.refl wr)).mv g).trans ho2.mv).frozen HF0.out hps hpg)))
        ((go_at_call 116; (with_reducible refine (HNUM.out _ (Ok.drew (Ok.refl wr))).mono ?_); rintro e w2 ⟨rfl, hr2, ho2⟩))
      have hmv := ((Ok.drew (Ok.refl wr)).mv g).trans ho2.mv
      have HP2 := Lib.hid ((HPA.out.mv hmv hpg).put hlt)
      have HMV2 := Lib.hid ((HM.out.trans hmv).new (p := p) (by omega) (k + 1) (.int .i64 (valM xs k : Int)))
      have hpsz : p ≤ w2.heap.size := by have := hmv.2.2.2.1; omega
      have HR3 : Hid (Rf W0 g (w2.setCell ⟨p, k + 1, none⟩ (.int .i64 (valM xs k : Int))) (stM xs (k + 1)).1 (stM xs (k + 1)).2) := Lib.hid (hr2.mv (p := p) ⟨rfl, rfl, rfl, by simp [World.setCell], fun j _ hj => heap_setCell_other w2 ⟨p, k + 1, none⟩ j _ hj⟩ (by omega) (by omega) hpsz)
      clear hr2 ho2 hmv
      go_wp2
      refine ⟨⟨k + 1, by omega, by go_num, HR3.out, HP2.out, HMV2.out⟩, ?_⟩
      show 9 - ((k : Int) + 1 + 1).toNat < 9 - ((k : Int) + 1).toNat
      omega
    · have d1 : decide ((k : Int) + 1 ≤ 8) = false := decide_eq_false (by omega)
      obtain rfl : k = 8 := by omega
      have HFIN := Lib.hid (fun (e : Ending) (hc : (stM xs 8).2 = true ∧ e = .returned (.tuple #[.pointer none, .bool false]) ∨ (stM xs 8).2 = false ∧ e = .returned (.tuple #[.pointer (some ⟨w.heap.size, 0, none⟩), .bool true]) ∧ RpAt wr w.heap.size (upto xs 8)) => show RreadP W0 g w xs e wr from ⟨HR.out, HM.out, hc⟩)
      have hf := HR.out.2.2.2.1
      rw [← HPW.out] at HPA ⊢
      generalize hf8 : (stM xs 8).2 = f at hf
      have HF8 := Lib.hid hf8
      clear hf8
      cases f with
      | true =>
        go_wp2_with fail
        go_ret2
        exact HFIN.out _ (.inl ⟨HF8.out, rfl⟩)
      | false =>
        go_wp2_with fail
        go_ret2
        exact HFIN.out _ (.inr ⟨HF8.out, rfl, HPA.out⟩)
end Go.Proofs.Ytnjaiiifafbbjaa
