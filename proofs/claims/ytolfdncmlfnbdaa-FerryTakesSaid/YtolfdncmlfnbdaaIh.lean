/- Rows of entries kept; letters copied, lent, kept. -/
import Derived.Test.YtolfdncmlfnbdaaIg
import Derived.Deep.MidRow
namespace Go.Proofs.Ytolfdncmlfnbdaa
open Go.RowKit

theorem setCells_hi (g B : Nat) (h : g < B) : ∀ (vs : List Value) (k : Nat) (w : World), Hi B w (w.setCells g k vs)
  | [], _, _ => Hi.refl _ _
  | v :: vs, k, _ => (Hi.set' (Hi.refl B _) h k v).trans (setCells_hi g B h vs (k + 1) _)
theorem setCells_ok (g : Nat) (W : World) (hg : W.heap.size ≤ g) : ∀ (vs : List Value) (k : Nat) (w : World), Ok W w → Ok W (w.setCells g k vs)
  | [], _, _, h => h
  | v :: vs, k, _, h => setCells_ok g W hg vs (k + 1) _ (Below.setCell h hg v)
theorem range_raw {w : World} {g ty : Nat} {fz : Nat × Nat} {cs : List Value} (h : w.heap[g]? = some (.cells cs.toArray ty fz)) : w.rangeAt g 0 cs := fun j v hv => by
  rw [Nat.zero_add, cell_of_heap h, List.getElem?_toArray]
  exact hv
theorem there_raw {w : World} {g ty n : Nat} {cs : Array Value} (h : w.heap[g]? = some (.cells cs ty (0, 0))) (hn : n ≤ cs.size) : w.there g 0 n := fun j hj => by
  rw [Nat.zero_add, cell_of_heap h]
  exact ⟨by rw [Array.getElem?_eq_getElem (by omega)]; rfl, frz_raw h j⟩
theorem ret_cells {fn : Func} {p : Tmp} {ty : TypeId} (hfn : fn.results = #[.cell p ty]) (tmps : Array Value) (w : World) (g : Nat) (cs : List Value) (hc : w.rangeAt g 0 cs) (d : TypeDesc) (hu : Try.prog.underlying ty = some d) (hd : d.isRow = true) (hi : (Try.prog.info? ty).map (·.size) = some cs.length) (hp : tmps.getD p undef = .pointer (some ⟨g, 0, none⟩)) :
    (results fn tmps).run Try.prog w = .ok (.agg cs.toArray) w := by
  rw [results_cell1 hfn, hp]
  simp only [asAddr, Sem.run_pure, Result.andThen_ok]
  exact run_loadVar_mid w g 0 ty cs d hc hu hd hi
theorem EntsN.hi {w w' : World} {B : Nat} {A : Option Addr} {n c : Nat} {l : List En} (h : EntsN w B A n c l) (k : Hi B w w') : EntsN w' B A n c l := by
  obtain ⟨ps, h1, h2, h3, h4⟩ := h
  exact ⟨ps, h1, h2, own_hi h3 k, fun p hp => (h4 p hp).hi k⟩
theorem EntsN.mono {w : World} {B B' : Nat} {A : Option Addr} {n c : Nat} {l : List En} (h : EntsN w B A n c l) (k : B' ≤ B) : EntsN w B' A n c l := by
  obtain ⟨ps, h1, h2, h3, h4⟩ := h
  exact ⟨ps, h1, h2, own_mono h3 k, fun p hp => (h4 p hp).mono k⟩
theorem EntsN.nil {w : World} {B : Nat} {A : Option Addr} {n c : Nat} {l : List En} (h : EntsN w B A n c l) : A = none → c = 0 := fun e => by
  obtain ⟨ps, h1, h2, h3, h4⟩ := h
  rcases h3.2 with ⟨q, _⟩ | ⟨g, cap, cur, q, _⟩
  · simp only [Value.slice.injEq] at q
    exact q.2.2
  · simp only [Value.slice.injEq] at q
    rw [e] at q
    cases q.1
theorem EntsL.hi {w w' : World} {B : Nat} {A : Option Addr} {n c : Nat} {l : List En} (h : EntsL w B A n c l) (k : Hi B w w') : EntsL w' B A n c l := by
  obtain ⟨g, ps, h0, h1, h2, h5, h6, h3, h4⟩ := h
  exact ⟨g, ps, h0, h1, h2, h5, h6, own_hi h3 k, fun p hp => (h4 p hp).hi k⟩
theorem EntsL.mono {w : World} {B B' : Nat} {A : Option Addr} {n c : Nat} {l : List En} (h : EntsL w B A n c l) (k : B' ≤ B) : EntsL w B' A n c l := by
  obtain ⟨g, ps, h0, h1, h2, h5, h6, h3, h4⟩ := h
  exact ⟨g, ps, h0, h1, h2, h5, Nat.le_trans k h6, own_mono h3 k, fun p hp => (h4 p hp).mono k⟩
theorem pA_left (ps qs : List EP) (j : Nat) (h : j < ps.length) : pA (ps ++ qs) j = pA ps j := by
  unfold pA
  rw [List.getD_eq_getElem?_getD, List.getD_eq_getElem?_getD, List.getElem?_append_left h]
theorem pA_right (ps qs : List EP) (j : Nat) : pA (ps ++ qs) (ps.length + j) = pA qs j := by
  unfold pA
  rw [List.getD_eq_getElem?_getD, List.getD_eq_getElem?_getD, List.getElem?_append_right (by omega), Nat.add_sub_cancel_left]
theorem pA_mark (m j : Nat) (h : j < m) : pA (marksE m) j = (er0, markE j) := by
  unfold pA marksE
  rw [List.getD_eq_getElem?_getD, List.getElem?_map, List.getElem?_range h]
  rfl
/-- What a lent row holds, place by place. -/
theorem EntsL.at {w : World} {B : Nat} {A : Option Addr} {n c : Nat} {l : List En} (h : EntsL w B A n c l) : ∃ g, A = some ⟨g, 0, none⟩ ∧ l.length = n ∧ n + 12 ≤ c ∧
    (∀ j, j < n → ∃ r, EnL w B r (enA l j) ∧ ∀ k, k < 7 → w.cell? ⟨g, j * 7 + k, none⟩ = (r.cells (enA l j))[k]?) ∧
    (∀ j, j < 12 → ∀ k, k < 7 → w.cell? ⟨g, (n + j) * 7 + k, none⟩ = (er0.cells (markE j))[k]?) := by
  obtain ⟨g, ps, rfl, rfl, rfl, h5, h6, h3, h4⟩ := h
  have hlen : (ps ++ marksE 12).length = ps.length + 12 := by rw [List.length_append, marksE_len]
  refine ⟨g, rfl, List.length_map _, h5, fun j hj => ?_, fun j hj k hk => ?_⟩
  · obtain ⟨g', e, hc⟩ := row7_cells h3 (Nat.le_of_eq hlen.symm) j (by omega)
    obtain rfl : g = g' := by simpa using e
    rw [pA_left ps _ j hj] at hc
    refine ⟨(pA ps j).1, ?_, fun k hk => ?_⟩
    · rw [← pA_snd ps j hj]; exact h4 _ (pA_mem ps j hj)
    · rw [← pA_snd ps j hj]
      have := hc k hk
      rwa [Nat.zero_add] at this
  · obtain ⟨g', e, hc⟩ := row7_cells h3 (Nat.le_of_eq hlen.symm) (ps.length + j) (by omega)
    obtain rfl : g = g' := by simpa using e
    have := hc k hk
    rw [pA_right, pA_mark 12 j hj, Nat.zero_add] at this
    exact this
theorem EntsL.in {w : World} {B : Nat} {A : Option Addr} {n c : Nat} {l : List En} (h : EntsL w B A n c l) : EntsIn w A l := by
  obtain ⟨g, rfl, rfl, _, h1, _⟩ := h.at
  intro j hj
  obtain ⟨r, hr, hc⟩ := h1 j hj
  exact ⟨g, 0, r, rfl, hr.at, fun k hk => by rw [Nat.zero_add]; exact hc k hk⟩
theorem markE_at (w : World) (j : Nat) : EnAt w er0 (markE j) :=
  ⟨BytesIn.nil w, ⟨_, _, _, _, rfl, InI.nil w, InI.nil w, InI.nil w, InI.nil w⟩⟩
structure LtLe (x : Lt) : Prop where
  es : x.es.length ≤ 100000
  each : ∀ e, e ∈ x.es → EnLe e
  cfg : Fine x.cfg
  bytes : x.bytes.length ≤ 1000000
structure LtN (w : World) (B : Nat) (r : LR) (x : Lt) : Prop where
  es : EntsN w B r.eA x.es.length r.ec x.es
  cfg : CfgN w B r.s x.cfg
  bytes : OwnN w B (.slice r.bA r.bn r.bc) x.bytes
theorem LtN.hi {w w' : World} {B : Nat} {r : LR} {x : Lt} (h : LtN w B r x) (k : Hi B w w') : LtN w' B r x := ⟨h.es.hi k, h.cfg.hi k, h.bytes.hi k⟩
theorem LtN.mono {w : World} {B B' : Nat} {r : LR} {x : Lt} (h : LtN w B r x) (k : B' ≤ B) : LtN w B' r x := ⟨h.es.mono k, h.cfg.mono k, own_mono h.bytes k⟩
theorem LtN.at {w : World} {B : Nat} {r : LR} {x : Lt} (h : LtN w B r x) (hl : LtLe x) : LtAt w r x := ⟨Nat.le_trans hl.es (by decide), h.es.in hl.each, h.es.nil, h.cfg.cfg, h.bytes.bytes (Nat.le_trans hl.bytes (by decide))⟩
structure LtL (w : World) (B : Nat) (r : LR) (x : Lt) : Prop where
  es : EntsL w B r.eA x.es.length r.ec x.es
  en : x.es.length ≤ 100000
  cfg : LentS w B r.s x.cfg
  bytes : LentB w B r.bA r.bn r.bc x.bytes
theorem LtL.hi {w w' : World} {B : Nat} {r : LR} {x : Lt} (h : LtL w B r x) (k : Hi B w w') : LtL w' B r x := ⟨h.es.hi k, h.en, h.cfg.hi k, h.bytes.hi k⟩
theorem LtL.mono {w : World} {B B' : Nat} {r : LR} {x : Lt} (h : LtL w B r x) (k : B' ≤ B) : LtL w B' r x := ⟨h.es.mono k, h.en, h.cfg.mono k, h.bytes.mono k⟩
theorem LtL.at {w : World} {B : Nat} {r : LR} {x : Lt} (h : LtL w B r x) : LtAt w r x := ⟨Nat.le_trans h.en (by decide), h.es.in, (fun e => by obtain ⟨g, q, _⟩ := h.es.at; rw [e] at q; cases q), h.cfg.cfg, h.bytes.bytes⟩
def CopyLP (W : World) (x : Lt) (e : Ending) (w' : World) : Prop := ∃ r : LR, e = .returned (r.val x) ∧ LtN w' W.heap.size r x ∧ Ok W w'
def LentLP (W : World) (x : Lt) (e : Ending) (w' : World) : Prop := ∃ r : LR, e = .returned (r.val x) ∧ LtL w' W.heap.size r x ∧ Ok W w'
set_option maxRecDepth 100000 in
set_option maxHeartbeats 8000000 in
theorem copyLetter_w (r : LR) (x : Lt) (W : World) (h : LtAt W r x) (hs : LtLe x) : Calls Try.prog 126 #[r.val x] W (CopyLP W x) := by
  have HCI := Lib.hid h
  have HS := Lib.hid hs
  clear h hs
  unfold LR.val LR.cells
  have HX0 := Lib.hid (blk2 W (.cells #[.int .u8 x.kind, .int .i64 x.group, .int .i64 x.from_, .int .i64 x.to_, .int .i64 x.term, .int .i64 x.index, .int .i64 x.logterm, .int .i64 x.commit, .bool x.ok, .slice r.eA x.es.length r.ec, .int .i64 x.bi, .int .i64 x.bt, .slice r.s.A0 r.s.n0 r.s.c0, .slice r.s.A1 r.s.n1 r.s.c1, .slice r.s.A2 r.s.n2 r.s.c2, .slice r.s.A3 r.s.n3 r.s.c3, .int .i64 x.size, .int .i64 x.at_, .int .i64 x.tag, .slice r.bA r.bn r.bc] 95) (.cells #[.int .u8 0, .int .i64 0, .int .i64 0, .int .i64 0, .int .i64 0, .int .i64 0, .int .i64 0, .int .i64 0, .bool false, .slice none 0 0, .int .i64 0, .int .i64 0, .slice none 0 0, .slice none 0 0, .slice none 0 0, .slice none 0 0, .int .i64 0, .int .i64 0, .int .i64 0, .slice none 0 0] 95)).1
  have HR0 := Lib.hid (blk2 W (.cells #[.int .u8 x.kind, .int .i64 x.group, .int .i64 x.from_, .int .i64 x.to_, .int .i64 x.term, .int .i64 x.index, .int .i64 x.logterm, .int .i64 x.commit, .bool x.ok, .slice r.eA x.es.length r.ec, .int .i64 x.bi, .int .i64 x.bt, .slice r.s.A0 r.s.n0 r.s.c0, .slice r.s.A1 r.s.n1 r.s.c1, .slice r.s.A2 r.s.n2 r.s.c2, .slice r.s.A3 r.s.n3 r.s.c3, .int .i64 x.size, .int .i64 x.at_, .int .i64 x.tag, .slice r.bA r.bn r.bc] 95) (.cells #[.int .u8 0, .int .i64 0, .int .i64 0, .int .i64 0, .int .i64 0, .int .i64 0, .int .i64 0, .int .i64 0, .bool false, .slice none 0 0, .int .i64 0, .int .i64 0, .slice none 0 0, .slice none 0 0, .slice none 0 0, .slice none 0 0, .int .i64 0, .int .i64 0, .int .i64 0, .slice none 0 0] 95)).2
  have HO0 : Hid (Ok W ((W.alloc (.cells #[.int .u8 x.kind, .int .i64 x.group, .int .i64 x.from_, .int .i64 x.to_, .int .i64 x.term, .int .i64 x.index, .int .i64 x.logterm, .int .i64 x.commit, .bool x.ok, .slice r.eA x.es.length r.ec, .int .i64 x.bi, .int .i64 x.bt, .slice r.s.A0 r.s.n0 r.s.c0, .slice r.s.A1 r.s.n1 r.s.c1, .slice r.s.A2 r.s.n2 r.s.c2, .slice r.s.A3 r.s.n3 r.s.c3, .int .i64 x.size, .int .i64 x.at_, .int .i64 x.tag, .slice r.bA r.bn r.bc] 95)).alloc (.cells #[.int .u8 0, .int .i64 0, .int .i64 0, .int .i64 0, .int .i64 0, .int .i64 0, .int .i64 0, .int .i64 0, .bool false, .slice none 0 0, .int .i64 0, .int .i64 0, .slice none 0 0, .slice none 0 0, .slice none 0 0, .slice none 0 0, .int .i64 0, .int .i64 0, .int .i64 0, .slice none 0 0] 95))) := Lib.hid (((Ok.refl W).alloc _).alloc _)
  have HZ0 : Hid (W.heap.size + 2 ≤ ((W.alloc (.cells #[.int .u8 x.kind, .int .i64 x.group, .int .i64 x.from_, .int .i64 x.to_, .int .i64 x.term, .int .i64 x.index, .int .i64 x.logterm, .int .i64 x.commit, .bool x.ok, .slice r.eA x.es.length r.ec, .int .i64 x.bi, .int .i64 x.bt, .slice r.s.A0 r.s.n0 r.s.c0, .slice r.s.A1 r.s.n1 r.s.c1, .slice r.s.A2 r.s.n2 r.s.c2, .slice r.s.A3 r.s.n3 r.s.c3, .int .i64 x.size, .int .i64 x.at_, .int .i64 x.tag, .slice r.bA r.bn r.bc] 95)).alloc (.cells #[.int .u8 0, .int .i64 0, .int .i64 0, .int .i64 0, .int .i64 0, .int .i64 0, .int .i64 0, .int .i64 0, .bool false, .slice none 0 0, .int .i64 0, .int .i64 0, .slice none 0 0, .slice none 0 0, .slice none 0 0, .slice none 0 0, .int .i64 0, .int .i64 0, .int .i64 0, .slice none 0 0] 95)).heap.size) := Lib.hid (by simp [World.size_alloc])
  go_enter Try.func126, Try.ntmps126
  go_wp2_with fail
  generalize ((W.alloc (.cells #[.int .u8 x.kind, .int .i64 x.group, .int .i64 x.from_, .int .i64 x.to_, .int .i64 x.term, .int .i64 x.index, .int .i64 x.logterm, .int .i64 x.commit, .bool x.ok, .slice r.eA x.es.length r.ec, .int .i64 x.bi, .int .i64 x.bt, .slice r.s.A0 r.s.n0 r.s.c0, .slice r.s.A1 r.s.n1 r.s.c1, .slice r.s.A2 r.s.n2 r.s.c2, .slice r.s.A3 r.s.n3 r.s.c3, .int .i64 x.size, .int .i64 x.at_, .int .i64 x.tag, .slice r.bA r.bn r.bc] 95)).alloc (.cells #[.int .u8 0, .int .i64 0, .int .i64 0, .int .i64 0, .int .i64 0, .int .i64 0, .int .i64 0, .int .i64 0, .bool false, .slice none 0 0, .int .i64 0, .int .i64 0, .slice none 0 0, .slice none 0 0, .slice none 0 0, .slice none 0 0, .int .i64 0, .int .i64 0, .int .i64 0, .slice none 0 0] 95)) = W0 at *
  obtain ⟨g, hg⟩ : ∃ g, W.heap.size = g := ⟨_, rfl⟩
  have HG := Lib.hid hg
  rw [hg] at HX0 HR0 HZ0 ⊢
  clear hg
  refine (copyEntries_w r.eA x.es.length r.ec x.es rfl HS.out.es W0 (HCI.out.es.ok HO0.out) HS.out.each).mono ?_
  rintro _ w1 ⟨A0, k0, rfl, hown, hok⟩
  have HX1 : Hid ((w1.setCell ⟨g, 9, none⟩ (.slice A0 x.es.length k0)).heap[g]? = some (.cells #[.int .u8 x.kind, .int .i64 x.group, .int .i64 x.from_, .int .i64 x.to_, .int .i64 x.term, .int .i64 x.index, .int .i64 x.logterm, .int .i64 x.commit, .bool x.ok, .slice A0 x.es.length k0, .int .i64 x.bi, .int .i64 x.bt, .slice r.s.A0 r.s.n0 r.s.c0, .slice r.s.A1 r.s.n1 r.s.c1, .slice r.s.A2 r.s.n2 r.s.c2, .slice r.s.A3 r.s.n3 r.s.c3, .int .i64 x.size, .int .i64 x.at_, .int .i64 x.tag, .slice r.bA r.bn r.bc] 95 (0, 0))) := Lib.hid (set_blk (blk_ok hok HX0.out) 9 (.slice A0 x.es.length k0))
  have HR1 : Hid ((w1.setCell ⟨g, 9, none⟩ (.slice A0 x.es.length k0)).heap[g + 1]? = some (.cells #[.int .u8 0, .int .i64 0, .int .i64 0, .int .i64 0, .int .i64 0, .int .i64 0, .int .i64 0, .int .i64 0, .bool false, .slice none 0 0, .int .i64 0, .int .i64 0, .slice none 0 0, .slice none 0 0, .slice none 0 0, .slice none 0 0, .int .i64 0, .int .i64 0, .int .i64 0, .slice none 0 0] 95 (0, 0))) := Lib.hid (set_far (blk_ok hok HR0.out) (by omega : g ≠ g + 1) 9 (.slice A0 x.es.length k0))
  have HO1 : Hid (Ok W (w1.setCell ⟨g, 9, none⟩ (.slice A0 x.es.length k0))) := Lib.hid (Below.setCell (HO0.out.trans hok) (Nat.le_of_eq HG.out) _)
  have HI1 : Hid (Hi (g + 2) w1 (w1.setCell ⟨g, 9, none⟩ (.slice A0 x.es.length k0))) := Lib.hid (Hi.set' (Hi.refl _ _) (by omega) _ _)
  have HZ1 : Hid (g + 2 ≤ (w1.setCell ⟨g, 9, none⟩ (.slice A0 x.es.length k0)).heap.size) := Lib.hid (Nat.le_trans (Nat.le_trans HZ0.out hok.size) HI1.out.1)
  have HP0_1 := Lib.hid ((hown.mono HZ0.out).hi HI1.out)
  have hx := blk_ok hok HX0.out
  have c0 : w1.cell? ⟨g, 0, none⟩ = some (.int .u8 x.kind) := (cell_of_heap hx 0).trans rfl
  have c1 : w1.cell? ⟨g, 1, none⟩ = some (.int .i64 x.group) := (cell_of_heap hx 1).trans rfl
  have c2 : w1.cell? ⟨g, 2, none⟩ = some (.int .i64 x.from_) := (cell_of_heap hx 2).trans rfl
  have c3 : w1.cell? ⟨g, 3, none⟩ = some (.int .i64 x.to_) := (cell_of_heap hx 3).trans rfl
  have c4 : w1.cell? ⟨g, 4, none⟩ = some (.int .i64 x.term) := (cell_of_heap hx 4).trans rfl
  have c5 : w1.cell? ⟨g, 5, none⟩ = some (.int .i64 x.index) := (cell_of_heap hx 5).trans rfl
  have c6 : w1.cell? ⟨g, 6, none⟩ = some (.int .i64 x.logterm) := (cell_of_heap hx 6).trans rfl
  have c7 : w1.cell? ⟨g, 7, none⟩ = some (.int .i64 x.commit) := (cell_of_heap hx 7).trans rfl
  have c8 : w1.cell? ⟨g, 8, none⟩ = some (.bool x.ok) := (cell_of_heap hx 8).trans rfl
  have c9 : w1.cell? ⟨g, 9, none⟩ = some (.slice r.eA x.es.length r.ec) := (cell_of_heap hx 9).trans rfl
  have c10 : w1.cell? ⟨g, 10, none⟩ = some (.int .i64 x.bi) := (cell_of_heap hx 10).trans rfl
  have c11 : w1.cell? ⟨g, 11, none⟩ = some (.int .i64 x.bt) := (cell_of_heap hx 11).trans rfl
  have c12 : w1.cell? ⟨g, 12, none⟩ = some (.slice r.s.A0 r.s.n0 r.s.c0) := (cell_of_heap hx 12).trans rfl
  have c13 : w1.cell? ⟨g, 13, none⟩ = some (.slice r.s.A1 r.s.n1 r.s.c1) := (cell_of_heap hx 13).trans rfl
  have c14 : w1.cell? ⟨g, 14, none⟩ = some (.slice r.s.A2 r.s.n2 r.s.c2) := (cell_of_heap hx 14).trans rfl
  have c15 : w1.cell? ⟨g, 15, none⟩ = some (.slice r.s.A3 r.s.n3 r.s.c3) := (cell_of_heap hx 15).trans rfl
  have c16 : w1.cell? ⟨g, 16, none⟩ = some (.int .i64 x.size) := (cell_of_heap hx 16).trans rfl
  have c17 : w1.cell? ⟨g, 17, none⟩ = some (.int .i64 x.at_) := (cell_of_heap hx 17).trans rfl
  have c18 : w1.cell? ⟨g, 18, none⟩ = some (.int .i64 x.tag) := (cell_of_heap hx 18).trans rfl
  have c19 : w1.cell? ⟨g, 19, none⟩ = some (.slice r.bA r.bn r.bc) := (cell_of_heap hx 19).trans rfl
  have f9 : w1.frozen? ⟨g, 9, none⟩ = false := frz_raw hx 9
  clear hx hown hok
  go_wp2_with fail
  clear c0 c1 c2 c3 c4 c5 c6 c7 c8 c9 c10 c11 c12 c13 c14 c15 c16 c17 c18 c19 f9 HX0 HR0 HO0 HZ0 HI1
  generalize (w1.setCell ⟨g, 9, none⟩ (.slice A0 x.es.length k0)) = W1 at *
  refine (copyBase_w x.bi x.bt r.s x.cfg W1 (HO1.out.cfg HCI.out.cfg) HS.out.cfg).mono ?_
  rintro _ w2 ⟨q1, rfl, hown, hok⟩
  unfold baseV
  have HX2 : Hid (((((((w2.setCell ⟨g, 10, none⟩ (.int .i64 x.bi)).setCell ⟨g, 11, none⟩ (.int .i64 x.bt)).setCell ⟨g, 12, none⟩ (.slice q1.A0 q1.n0 q1.c0)).setCell ⟨g, 13, none⟩ (.slice q1.A1 q1.n1 q1.c1)).setCell ⟨g, 14, none⟩ (.slice q1.A2 q1.n2 q1.c2)).setCell ⟨g, 15, none⟩ (.slice q1.A3 q1.n3 q1.c3)).heap[g]? = some (.cells #[.int .u8 x.kind, .int .i64 x.group, .int .i64 x.from_, .int .i64 x.to_, .int .i64 x.term, .int .i64 x.index, .int .i64 x.logterm, .int .i64 x.commit, .bool x.ok, .slice A0 x.es.length k0, .int .i64 x.bi, .int .i64 x.bt, .slice q1.A0 q1.n0 q1.c0, .slice q1.A1 q1.n1 q1.c1, .slice q1.A2 q1.n2 q1.c2, .slice q1.A3 q1.n3 q1.c3, .int .i64 x.size, .int .i64 x.at_, .int .i64 x.tag, .slice r.bA r.bn r.bc] 95 (0, 0))) := Lib.hid (set_blk (set_blk (set_blk (set_blk (set_blk (set_blk (blk_ok hok HX1.out) 10 (.int .i64 x.bi)) 11 (.int .i64 x.bt)) 12 (.slice q1.A0 q1.n0 q1.c0)) 13 (.slice q1.A1 q1.n1 q1.c1)) 14 (.slice q1.A2 q1.n2 q1.c2)) 15 (.slice q1.A3 q1.n3 q1.c3))
  have HR2 : Hid (((((((w2.setCell ⟨g, 10, none⟩ (.int .i64 x.bi)).setCell ⟨g, 11, none⟩ (.int .i64 x.bt)).setCell ⟨g, 12, none⟩ (.slice q1.A0 q1.n0 q1.c0)).setCell ⟨g, 13, none⟩ (.slice q1.A1 q1.n1 q1.c1)).setCell ⟨g, 14, none⟩ (.slice q1.A2 q1.n2 q1.c2)).setCell ⟨g, 15, none⟩ (.slice q1.A3 q1.n3 q1.c3)).heap[g + 1]? = some (.cells #[.int .u8 0, .int .i64 0, .int .i64 0, .int .i64 0, .int .i64 0, .int .i64 0, .int .i64 0, .int .i64 0, .bool false, .slice none 0 0, .int .i64 0, .int .i64 0, .slice none 0 0, .slice none 0 0, .slice none 0 0, .slice none 0 0, .int .i64 0, .int .i64 0, .int .i64 0, .slice none 0 0] 95 (0, 0))) := Lib.hid (set_far (set_far (set_far (set_far (set_far (set_far (blk_ok hok HR1.out) (by omega : g ≠ g + 1) 10 (.int .i64 x.bi)) (by omega : g ≠ g + 1) 11 (.int .i64 x.bt)) (by omega : g ≠ g + 1) 12 (.slice q1.A0 q1.n0 q1.c0)) (by omega : g ≠ g + 1) 13 (.slice q1.A1 q1.n1 q1.c1)) (by omega : g ≠ g + 1) 14 (.slice q1.A2 q1.n2 q1.c2)) (by omega : g ≠ g + 1) 15 (.slice q1.A3 q1.n3 q1.c3))
  have HO2 : Hid (Ok W ((((((w2.setCell ⟨g, 10, none⟩ (.int .i64 x.bi)).setCell ⟨g, 11, none⟩ (.int .i64 x.bt)).setCell ⟨g, 12, none⟩ (.slice q1.A0 q1.n0 q1.c0)).setCell ⟨g, 13, none⟩ (.slice q1.A1 q1.n1 q1.c1)).setCell ⟨g, 14, none⟩ (.slice q1.A2 q1.n2 q1.c2)).setCell ⟨g, 15, none⟩ (.slice q1.A3 q1.n3 q1.c3))) := Lib.hid (Below.setCell (Below.setCell (Below.setCell (Below.setCell (Below.setCell (Below.setCell (HO1.out.trans hok) (Nat.le_of_eq HG.out) _) (Nat.le_of_eq HG.out) _) (Nat.le_of_eq HG.out) _) (Nat.le_of_eq HG.out) _) (Nat.le_of_eq HG.out) _) (Nat.le_of_eq HG.out) _)
  have HI2 : Hid (Hi (g + 2) w2 ((((((w2.setCell ⟨g, 10, none⟩ (.int .i64 x.bi)).setCell ⟨g, 11, none⟩ (.int .i64 x.bt)).setCell ⟨g, 12, none⟩ (.slice q1.A0 q1.n0 q1.c0)).setCell ⟨g, 13, none⟩ (.slice q1.A1 q1.n1 q1.c1)).setCell ⟨g, 14, none⟩ (.slice q1.A2 q1.n2 q1.c2)).setCell ⟨g, 15, none⟩ (.slice q1.A3 q1.n3 q1.c3))) := Lib.hid (Hi.set' (Hi.set' (Hi.set' (Hi.set' (Hi.set' (Hi.set' (Hi.refl _ _) (by omega) _ _) (by omega) _ _) (by omega) _ _) (by omega) _ _) (by omega) _ _) (by omega) _ _)
  have HZ2 : Hid (g + 2 ≤ ((((((w2.setCell ⟨g, 10, none⟩ (.int .i64 x.bi)).setCell ⟨g, 11, none⟩ (.int .i64 x.bt)).setCell ⟨g, 12, none⟩ (.slice q1.A0 q1.n0 q1.c0)).setCell ⟨g, 13, none⟩ (.slice q1.A1 q1.n1 q1.c1)).setCell ⟨g, 14, none⟩ (.slice q1.A2 q1.n2 q1.c2)).setCell ⟨g, 15, none⟩ (.slice q1.A3 q1.n3 q1.c3)).heap.size) := Lib.hid (Nat.le_trans (Nat.le_trans HZ1.out hok.size) HI2.out.1)
  have HP0_2 := Lib.hid ((HP0_1.out.hi (Hi.ok hok)).hi HI2.out)
  have HP1_2 := Lib.hid ((hown.mono HZ1.out).hi HI2.out)
  have hx := blk_ok hok HX1.out
  have c0 : w2.cell? ⟨g, 0, none⟩ = some (.int .u8 x.kind) := (cell_of_heap hx 0).trans rfl
  have c1 : w2.cell? ⟨g, 1, none⟩ = some (.int .i64 x.group) := (cell_of_heap hx 1).trans rfl
  have c2 : w2.cell? ⟨g, 2, none⟩ = some (.int .i64 x.from_) := (cell_of_heap hx 2).trans rfl
  have c3 : w2.cell? ⟨g, 3, none⟩ = some (.int .i64 x.to_) := (cell_of_heap hx 3).trans rfl
  have c4 : w2.cell? ⟨g, 4, none⟩ = some (.int .i64 x.term) := (cell_of_heap hx 4).trans rfl
  have c5 : w2.cell? ⟨g, 5, none⟩ = some (.int .i64 x.index) := (cell_of_heap hx 5).trans rfl
  have c6 : w2.cell? ⟨g, 6, none⟩ = some (.int .i64 x.logterm) := (cell_of_heap hx 6).trans rfl
  have c7 : w2.cell? ⟨g, 7, none⟩ = some (.int .i64 x.commit) := (cell_of_heap hx 7).trans rfl
  have c8 : w2.cell? ⟨g, 8, none⟩ = some (.bool x.ok) := (cell_of_heap hx 8).trans rfl
  have c9 : w2.cell? ⟨g, 9, none⟩ = some (.slice A0 x.es.length k0) := (cell_of_heap hx 9).trans rfl
  have c10 : w2.cell? ⟨g, 10, none⟩ = some (.int .i64 x.bi) := (cell_of_heap hx 10).trans rfl
  have c11 : w2.cell? ⟨g, 11, none⟩ = some (.int .i64 x.bt) := (cell_of_heap hx 11).trans rfl
  have c12 : w2.cell? ⟨g, 12, none⟩ = some (.slice r.s.A0 r.s.n0 r.s.c0) := (cell_of_heap hx 12).trans rfl
  have c13 : w2.cell? ⟨g, 13, none⟩ = some (.slice r.s.A1 r.s.n1 r.s.c1) := (cell_of_heap hx 13).trans rfl
  have c14 : w2.cell? ⟨g, 14, none⟩ = some (.slice r.s.A2 r.s.n2 r.s.c2) := (cell_of_heap hx 14).trans rfl
  have c15 : w2.cell? ⟨g, 15, none⟩ = some (.slice r.s.A3 r.s.n3 r.s.c3) := (cell_of_heap hx 15).trans rfl
  have c16 : w2.cell? ⟨g, 16, none⟩ = some (.int .i64 x.size) := (cell_of_heap hx 16).trans rfl
  have c17 : w2.cell? ⟨g, 17, none⟩ = some (.int .i64 x.at_) := (cell_of_heap hx 17).trans rfl
  have c18 : w2.cell? ⟨g, 18, none⟩ = some (.int .i64 x.tag) := (cell_of_heap hx 18).trans rfl
  have c19 : w2.cell? ⟨g, 19, none⟩ = some (.slice r.bA r.bn r.bc) := (cell_of_heap hx 19).trans rfl
  have f10 : w2.frozen? ⟨g, 10, none⟩ = false := frz_raw hx 10
  have f11 : w2.frozen? ⟨g, 11, none⟩ = false := frz_raw hx 11
  have f12 : w2.frozen? ⟨g, 12, none⟩ = false := frz_raw hx 12
  have f13 : w2.frozen? ⟨g, 13, none⟩ = false := frz_raw hx 13
  have f14 : w2.frozen? ⟨g, 14, none⟩ = false := frz_raw hx 14
  have f15 : w2.frozen? ⟨g, 15, none⟩ = false := frz_raw hx 15
  clear hx hown hok
  go_wp2_with fail
  clear c0 c1 c2 c3 c4 c5 c6 c7 c8 c9 c10 c11 c12 c13 c14 c15 c16 c17 c18 c19 f10 f11 f12 f13 f14 f15 HX1 HR1 HO1 HZ1 HI2 HP0_1
  generalize ((((((w2.setCell ⟨g, 10, none⟩ (.int .i64 x.bi)).setCell ⟨g, 11, none⟩ (.int .i64 x.bt)).setCell ⟨g, 12, none⟩ (.slice q1.A0 q1.n0 q1.c0)).setCell ⟨g, 13, none⟩ (.slice q1.A1 q1.n1 q1.c1)).setCell ⟨g, 14, none⟩ (.slice q1.A2 q1.n2 q1.c2)).setCell ⟨g, 15, none⟩ (.slice q1.A3 q1.n3 q1.c3)) = W2 at *
  refine (copyBytes_w W2 (.slice r.bA r.bn r.bc) x.bytes (HO2.out.bytes HCI.out.bytes) (Nat.le_trans HS.out.bytes (by decide))).mono ?_
  rintro _ w3 ⟨E0, k2, rfl, hown, hok⟩
  have HX3 : Hid ((w3.setCell ⟨g, 19, none⟩ (.slice E0 x.bytes.length k2)).heap[g]? = some (.cells #[.int .u8 x.kind, .int .i64 x.group, .int .i64 x.from_, .int .i64 x.to_, .int .i64 x.term, .int .i64 x.index, .int .i64 x.logterm, .int .i64 x.commit, .bool x.ok, .slice A0 x.es.length k0, .int .i64 x.bi, .int .i64 x.bt, .slice q1.A0 q1.n0 q1.c0, .slice q1.A1 q1.n1 q1.c1, .slice q1.A2 q1.n2 q1.c2, .slice q1.A3 q1.n3 q1.c3, .int .i64 x.size, .int .i64 x.at_, .int .i64 x.tag, .slice E0 x.bytes.length k2] 95 (0, 0))) := Lib.hid (set_blk (blk_ok hok HX2.out) 19 (.slice E0 x.bytes.length k2))
  have HR3 : Hid ((w3.setCell ⟨g, 19, none⟩ (.slice E0 x.bytes.length k2)).heap[g + 1]? = some (.cells #[.int .u8 0, .int .i64 0, .int .i64 0, .int .i64 0, .int .i64 0, .int .i64 0, .int .i64 0, .int .i64 0, .bool false, .slice none 0 0, .int .i64 0, .int .i64 0, .slice none 0 0, .slice none 0 0, .slice none 0 0, .slice none 0 0, .int .i64 0, .int .i64 0, .int .i64 0, .slice none 0 0] 95 (0, 0))) := Lib.hid (set_far (blk_ok hok HR2.out) (by omega : g ≠ g + 1) 19 (.slice E0 x.bytes.length k2))
  have HO3 : Hid (Ok W (w3.setCell ⟨g, 19, none⟩ (.slice E0 x.bytes.length k2))) := Lib.hid (Below.setCell (HO2.out.trans hok) (Nat.le_of_eq HG.out) _)
  have HI3 : Hid (Hi (g + 2) w3 (w3.setCell ⟨g, 19, none⟩ (.slice E0 x.bytes.length k2))) := Lib.hid (Hi.set' (Hi.refl _ _) (by omega) _ _)
  have HZ3 : Hid (g + 2 ≤ (w3.setCell ⟨g, 19, none⟩ (.slice E0 x.bytes.length k2)).heap.size) := Lib.hid (Nat.le_trans (Nat.le_trans HZ2.out hok.size) HI3.out.1)
  have HP0_3 := Lib.hid ((HP0_2.out.hi (Hi.ok hok)).hi HI3.out)
  have HP1_3 := Lib.hid ((HP1_2.out.hi (Hi.ok hok)).hi HI3.out)
  have HP2_3 := Lib.hid ((hown.mono' HZ2.out).hi HI3.out)
  have hx := blk_ok hok HX2.out
  have c0 : w3.cell? ⟨g, 0, none⟩ = some (.int .u8 x.kind) := (cell_of_heap hx 0).trans rfl
  have c1 : w3.cell? ⟨g, 1, none⟩ = some (.int .i64 x.group) := (cell_of_heap hx 1).trans rfl
  have c2 : w3.cell? ⟨g, 2, none⟩ = some (.int .i64 x.from_) := (cell_of_heap hx 2).trans rfl
  have c3 : w3.cell? ⟨g, 3, none⟩ = some (.int .i64 x.to_) := (cell_of_heap hx 3).trans rfl
  have c4 : w3.cell? ⟨g, 4, none⟩ = some (.int .i64 x.term) := (cell_of_heap hx 4).trans rfl
  have c5 : w3.cell? ⟨g, 5, none⟩ = some (.int .i64 x.index) := (cell_of_heap hx 5).trans rfl
  have c6 : w3.cell? ⟨g, 6, none⟩ = some (.int .i64 x.logterm) := (cell_of_heap hx 6).trans rfl
  have c7 : w3.cell? ⟨g, 7, none⟩ = some (.int .i64 x.commit) := (cell_of_heap hx 7).trans rfl
  have c8 : w3.cell? ⟨g, 8, none⟩ = some (.bool x.ok) := (cell_of_heap hx 8).trans rfl
  have c9 : w3.cell? ⟨g, 9, none⟩ = some (.slice A0 x.es.length k0) := (cell_of_heap hx 9).trans rfl
  have c10 : w3.cell? ⟨g, 10, none⟩ = some (.int .i64 x.bi) := (cell_of_heap hx 10).trans rfl
  have c11 : w3.cell? ⟨g, 11, none⟩ = some (.int .i64 x.bt) := (cell_of_heap hx 11).trans rfl
  have c12 : w3.cell? ⟨g, 12, none⟩ = some (.slice q1.A0 q1.n0 q1.c0) := (cell_of_heap hx 12).trans rfl
  have c13 : w3.cell? ⟨g, 13, none⟩ = some (.slice q1.A1 q1.n1 q1.c1) := (cell_of_heap hx 13).trans rfl
  have c14 : w3.cell? ⟨g, 14, none⟩ = some (.slice q1.A2 q1.n2 q1.c2) := (cell_of_heap hx 14).trans rfl
  have c15 : w3.cell? ⟨g, 15, none⟩ = some (.slice q1.A3 q1.n3 q1.c3) := (cell_of_heap hx 15).trans rfl
  have c16 : w3.cell? ⟨g, 16, none⟩ = some (.int .i64 x.size) := (cell_of_heap hx 16).trans rfl
  have c17 : w3.cell? ⟨g, 17, none⟩ = some (.int .i64 x.at_) := (cell_of_heap hx 17).trans rfl
  have c18 : w3.cell? ⟨g, 18, none⟩ = some (.int .i64 x.tag) := (cell_of_heap hx 18).trans rfl
  have c19 : w3.cell? ⟨g, 19, none⟩ = some (.slice r.bA r.bn r.bc) := (cell_of_heap hx 19).trans rfl
  have f19 : w3.frozen? ⟨g, 19, none⟩ = false := frz_raw hx 19
  clear hx hown hok
  go_upto_region 4 with fail
  clear c0 c1 c2 c3 c4 c5 c6 c7 c8 c9 c10 c11 c12 c13 c14 c15 c16 c17 c18 c19 f19 HX2 HR2 HO2 HZ2 HI3 HP0_2 HP1_2
  generalize (w3.setCell ⟨g, 19, none⟩ (.slice E0 x.bytes.length k2)) = W3 at *
  obtain ⟨cs, hcs⟩ : ∃ cs : List Value, cs = [.int .u8 x.kind, .int .i64 x.group, .int .i64 x.from_, .int .i64 x.to_, .int .i64 x.term, .int .i64 x.index, .int .i64 x.logterm, .int .i64 x.commit, .bool x.ok, .slice A0 x.es.length k0, .int .i64 x.bi, .int .i64 x.bt, .slice q1.A0 q1.n0 q1.c0, .slice q1.A1 q1.n1 q1.c1, .slice q1.A2 q1.n2 q1.c2, .slice q1.A3 q1.n3 q1.c3, .int .i64 x.size, .int .i64 x.at_, .int .i64 x.tag, .slice E0 x.bytes.length k2] := ⟨_, rfl⟩
  have HCS := Lib.hid hcs
  have hlen : cs.length = 20 := by rw [hcs]; rfl
  have HRG : Hid (W3.rangeAt g 0 cs) := Lib.hid (range_raw (by rw [hcs]; exact HX3.out))
  have HTH : Hid (W3.there (g + 1) 0 cs.toArray.size) := Lib.hid (by rw [List.size_toArray, hlen]; exact there_raw HR3.out (by decide))
  have HIN : Hid ((Try.prog.info? 95).map (·.size) = some cs.length) := Lib.hid (by rw [hlen]; kernel_rfl)
  have HON : Hid (cs.toArray.all (·.oneCell') = true) := Lib.hid (all_oneCell_toArray (by rw [hcs]; simp only [List.forall_mem_cons]; exact ⟨rfl, rfl, rfl, rfl, rfl, rfl, rfl, rfl, rfl, rfl, rfl, rfl, rfl, rfl, rfl, rfl, rfl, rfl, rfl, rfl, fun v hv => by cases hv⟩))
  have hg2 : W.heap.size ≤ g + 1 := by have := HG.out; omega
  have hg3 : W.heap.size ≤ g + 2 := by have := HG.out; omega
  clear hcs hlen
  go_wp2_with (first | (refine wpList_load_mid rfl 95 (.tmp 1) rfl g 0 rfl cs _ HRG.out Try.underlying95 rfl HIN.out ?_) | (refine wpList_store_mid rfl 95 (.tmp 2) (.tmp 15) rfl (g + 1) 0 cs.toArray rfl rfl HTH.out (HIN.out.trans (by rw [List.size_toArray])) HON.out ?_))
  refine bodyPost_ret (v := .agg cs.toArray) (ret_cells Try.results126 _ _ (g + 1) cs (World.rangeAt_setCells_same _ _ _ _ (by have := HTH.out; rwa [List.size_toArray] at this)) _ Try.underlying95 rfl HIN.out rfl) rfl ?_
  refine ⟨⟨A0, k0, q1, E0, x.bytes.length, k2⟩, by rw [HCS.out]; rfl, ?_, setCells_ok _ _ hg2 _ _ _ HO3.out⟩
  · refine LtN.mono (B := g + 2) ?_ hg3
    refine LtN.hi (w := W3) ⟨HP0_3.out, HP1_3.out, HP2_3.out⟩ ?_
    exact setCells_hi _ _ (by omega) _ _ _
set_option maxRecDepth 100000 in
set_option maxHeartbeats 8000000 in
theorem lentLetter_w (r : LR) (x : Lt) (W : World) (h : LtAt W r x) (hs : LtLe x) : Calls Try.prog 65 #[r.val x] W (LentLP W x) := by
  have HCI := Lib.hid h
  have HS := Lib.hid hs
  clear h hs
  unfold LR.val LR.cells
  have HX0 := Lib.hid (blk2 W (.cells #[.int .u8 x.kind, .int .i64 x.group, .int .i64 x.from_, .int .i64 x.to_, .int .i64 x.term, .int .i64 x.index, .int .i64 x.logterm, .int .i64 x.commit, .bool x.ok, .slice r.eA x.es.length r.ec, .int .i64 x.bi, .int .i64 x.bt, .slice r.s.A0 r.s.n0 r.s.c0, .slice r.s.A1 r.s.n1 r.s.c1, .slice r.s.A2 r.s.n2 r.s.c2, .slice r.s.A3 r.s.n3 r.s.c3, .int .i64 x.size, .int .i64 x.at_, .int .i64 x.tag, .slice r.bA r.bn r.bc] 95) (.cells #[.int .u8 0, .int .i64 0, .int .i64 0, .int .i64 0, .int .i64 0, .int .i64 0, .int .i64 0, .int .i64 0, .bool false, .slice none 0 0, .int .i64 0, .int .i64 0, .slice none 0 0, .slice none 0 0, .slice none 0 0, .slice none 0 0, .int .i64 0, .int .i64 0, .int .i64 0, .slice none 0 0] 95)).1
  have HR0 := Lib.hid (blk2 W (.cells #[.int .u8 x.kind, .int .i64 x.group, .int .i64 x.from_, .int .i64 x.to_, .int .i64 x.term, .int .i64 x.index, .int .i64 x.logterm, .int .i64 x.commit, .bool x.ok, .slice r.eA x.es.length r.ec, .int .i64 x.bi, .int .i64 x.bt, .slice r.s.A0 r.s.n0 r.s.c0, .slice r.s.A1 r.s.n1 r.s.c1, .slice r.s.A2 r.s.n2 r.s.c2, .slice r.s.A3 r.s.n3 r.s.c3, .int .i64 x.size, .int .i64 x.at_, .int .i64 x.tag, .slice r.bA r.bn r.bc] 95) (.cells #[.int .u8 0, .int .i64 0, .int .i64 0, .int .i64 0, .int .i64 0, .int .i64 0, .int .i64 0, .int .i64 0, .bool false, .slice none 0 0, .int .i64 0, .int .i64 0, .slice none 0 0, .slice none 0 0, .slice none 0 0, .slice none 0 0, .int .i64 0, .int .i64 0, .int .i64 0, .slice none 0 0] 95)).2
  have HO0 : Hid (Ok W ((W.alloc (.cells #[.int .u8 x.kind, .int .i64 x.group, .int .i64 x.from_, .int .i64 x.to_, .int .i64 x.term, .int .i64 x.index, .int .i64 x.logterm, .int .i64 x.commit, .bool x.ok, .slice r.eA x.es.length r.ec, .int .i64 x.bi, .int .i64 x.bt, .slice r.s.A0 r.s.n0 r.s.c0, .slice r.s.A1 r.s.n1 r.s.c1, .slice r.s.A2 r.s.n2 r.s.c2, .slice r.s.A3 r.s.n3 r.s.c3, .int .i64 x.size, .int .i64 x.at_, .int .i64 x.tag, .slice r.bA r.bn r.bc] 95)).alloc (.cells #[.int .u8 0, .int .i64 0, .int .i64 0, .int .i64 0, .int .i64 0, .int .i64 0, .int .i64 0, .int .i64 0, .bool false, .slice none 0 0, .int .i64 0, .int .i64 0, .slice none 0 0, .slice none 0 0, .slice none 0 0, .slice none 0 0, .int .i64 0, .int .i64 0, .int .i64 0, .slice none 0 0] 95))) := Lib.hid (((Ok.refl W).alloc _).alloc _)
  have HZ0 : Hid (W.heap.size + 2 ≤ ((W.alloc (.cells #[.int .u8 x.kind, .int .i64 x.group, .int .i64 x.from_, .int .i64 x.to_, .int .i64 x.term, .int .i64 x.index, .int .i64 x.logterm, .int .i64 x.commit, .bool x.ok, .slice r.eA x.es.length r.ec, .int .i64 x.bi, .int .i64 x.bt, .slice r.s.A0 r.s.n0 r.s.c0, .slice r.s.A1 r.s.n1 r.s.c1, .slice r.s.A2 r.s.n2 r.s.c2, .slice r.s.A3 r.s.n3 r.s.c3, .int .i64 x.size, .int .i64 x.at_, .int .i64 x.tag, .slice r.bA r.bn r.bc] 95)).alloc (.cells #[.int .u8 0, .int .i64 0, .int .i64 0, .int .i64 0, .int .i64 0, .int .i64 0, .int .i64 0, .int .i64 0, .bool false, .slice none 0 0, .int .i64 0, .int .i64 0, .slice none 0 0, .slice none 0 0, .slice none 0 0, .slice none 0 0, .int .i64 0, .int .i64 0, .int .i64 0, .slice none 0 0] 95)).heap.size) := Lib.hid (by simp [World.size_alloc])
  go_enter Try.func65, Try.ntmps65
  go_wp2_with fail
  generalize ((W.alloc (.cells #[.int .u8 x.kind, .int .i64 x.group, .int .i64 x.from_, .int .i64 x.to_, .int .i64 x.term, .int .i64 x.index, .int .i64 x.logterm, .int .i64 x.commit, .bool x.ok, .slice r.eA x.es.length r.ec, .int .i64 x.bi, .int .i64 x.bt, .slice r.s.A0 r.s.n0 r.s.c0, .slice r.s.A1 r.s.n1 r.s.c1, .slice r.s.A2 r.s.n2 r.s.c2, .slice r.s.A3 r.s.n3 r.s.c3, .int .i64 x.size, .int .i64 x.at_, .int .i64 x.tag, .slice r.bA r.bn r.bc] 95)).alloc (.cells #[.int .u8 0, .int .i64 0, .int .i64 0, .int .i64 0, .int .i64 0, .int .i64 0, .int .i64 0, .int .i64 0, .bool false, .slice none 0 0, .int .i64 0, .int .i64 0, .slice none 0 0, .slice none 0 0, .slice none 0 0, .slice none 0 0, .int .i64 0, .int .i64 0, .int .i64 0, .slice none 0 0] 95)) = W0 at *
  obtain ⟨g, hg⟩ : ∃ g, W.heap.size = g := ⟨_, rfl⟩
  have HG := Lib.hid hg
  rw [hg] at HX0 HR0 HZ0 ⊢
  clear hg
  refine (lentEntries_w r.eA x.es.length r.ec x.es rfl HS.out.es W0 (HCI.out.es.ok HO0.out) HS.out.each).mono ?_
  rintro _ w1 ⟨A0, k0, rfl, hown, hok⟩
  have HX1 : Hid ((w1.setCell ⟨g, 9, none⟩ (.slice A0 x.es.length k0)).heap[g]? = some (.cells #[.int .u8 x.kind, .int .i64 x.group, .int .i64 x.from_, .int .i64 x.to_, .int .i64 x.term, .int .i64 x.index, .int .i64 x.logterm, .int .i64 x.commit, .bool x.ok, .slice A0 x.es.length k0, .int .i64 x.bi, .int .i64 x.bt, .slice r.s.A0 r.s.n0 r.s.c0, .slice r.s.A1 r.s.n1 r.s.c1, .slice r.s.A2 r.s.n2 r.s.c2, .slice r.s.A3 r.s.n3 r.s.c3, .int .i64 x.size, .int .i64 x.at_, .int .i64 x.tag, .slice r.bA r.bn r.bc] 95 (0, 0))) := Lib.hid (set_blk (blk_ok hok HX0.out) 9 (.slice A0 x.es.length k0))
  have HR1 : Hid ((w1.setCell ⟨g, 9, none⟩ (.slice A0 x.es.length k0)).heap[g + 1]? = some (.cells #[.int .u8 0, .int .i64 0, .int .i64 0, .int .i64 0, .int .i64 0, .int .i64 0, .int .i64 0, .int .i64 0, .bool false, .slice none 0 0, .int .i64 0, .int .i64 0, .slice none 0 0, .slice none 0 0, .slice none 0 0, .slice none 0 0, .int .i64 0, .int .i64 0, .int .i64 0, .slice none 0 0] 95 (0, 0))) := Lib.hid (set_far (blk_ok hok HR0.out) (by omega : g ≠ g + 1) 9 (.slice A0 x.es.length k0))
  have HO1 : Hid (Ok W (w1.setCell ⟨g, 9, none⟩ (.slice A0 x.es.length k0))) := Lib.hid (Below.setCell (HO0.out.trans hok) (Nat.le_of_eq HG.out) _)
  have HI1 : Hid (Hi (g + 2) w1 (w1.setCell ⟨g, 9, none⟩ (.slice A0 x.es.length k0))) := Lib.hid (Hi.set' (Hi.refl _ _) (by omega) _ _)
  have HZ1 : Hid (g + 2 ≤ (w1.setCell ⟨g, 9, none⟩ (.slice A0 x.es.length k0)).heap.size) := Lib.hid (Nat.le_trans (Nat.le_trans HZ0.out hok.size) HI1.out.1)
  have HP0_1 := Lib.hid ((hown.mono HZ0.out).hi HI1.out)
  have hx := blk_ok hok HX0.out
  have c0 : w1.cell? ⟨g, 0, none⟩ = some (.int .u8 x.kind) := (cell_of_heap hx 0).trans rfl
  have c1 : w1.cell? ⟨g, 1, none⟩ = some (.int .i64 x.group) := (cell_of_heap hx 1).trans rfl
  have c2 : w1.cell? ⟨g, 2, none⟩ = some (.int .i64 x.from_) := (cell_of_heap hx 2).trans rfl
  have c3 : w1.cell? ⟨g, 3, none⟩ = some (.int .i64 x.to_) := (cell_of_heap hx 3).trans rfl
  have c4 : w1.cell? ⟨g, 4, none⟩ = some (.int .i64 x.term) := (cell_of_heap hx 4).trans rfl
  have c5 : w1.cell? ⟨g, 5, none⟩ = some (.int .i64 x.index) := (cell_of_heap hx 5).trans rfl
  have c6 : w1.cell? ⟨g, 6, none⟩ = some (.int .i64 x.logterm) := (cell_of_heap hx 6).trans rfl
  have c7 : w1.cell? ⟨g, 7, none⟩ = some (.int .i64 x.commit) := (cell_of_heap hx 7).trans rfl
  have c8 : w1.cell? ⟨g, 8, none⟩ = some (.bool x.ok) := (cell_of_heap hx 8).trans rfl
  have c9 : w1.cell? ⟨g, 9, none⟩ = some (.slice r.eA x.es.length r.ec) := (cell_of_heap hx 9).trans rfl
  have c10 : w1.cell? ⟨g, 10, none⟩ = some (.int .i64 x.bi) := (cell_of_heap hx 10).trans rfl
  have c11 : w1.cell? ⟨g, 11, none⟩ = some (.int .i64 x.bt) := (cell_of_heap hx 11).trans rfl
  have c12 : w1.cell? ⟨g, 12, none⟩ = some (.slice r.s.A0 r.s.n0 r.s.c0) := (cell_of_heap hx 12).trans rfl
  have c13 : w1.cell? ⟨g, 13, none⟩ = some (.slice r.s.A1 r.s.n1 r.s.c1) := (cell_of_heap hx 13).trans rfl
  have c14 : w1.cell? ⟨g, 14, none⟩ = some (.slice r.s.A2 r.s.n2 r.s.c2) := (cell_of_heap hx 14).trans rfl
  have c15 : w1.cell? ⟨g, 15, none⟩ = some (.slice r.s.A3 r.s.n3 r.s.c3) := (cell_of_heap hx 15).trans rfl
  have c16 : w1.cell? ⟨g, 16, none⟩ = some (.int .i64 x.size) := (cell_of_heap hx 16).trans rfl
  have c17 : w1.cell? ⟨g, 17, none⟩ = some (.int .i64 x.at_) := (cell_of_heap hx 17).trans rfl
  have c18 : w1.cell? ⟨g, 18, none⟩ = some (.int .i64 x.tag) := (cell_of_heap hx 18).trans rfl
  have c19 : w1.cell? ⟨g, 19, none⟩ = some (.slice r.bA r.bn r.bc) := (cell_of_heap hx 19).trans rfl
  have f9 : w1.frozen? ⟨g, 9, none⟩ = false := frz_raw hx 9
  clear hx hown hok
  go_wp2_with fail
  clear c0 c1 c2 c3 c4 c5 c6 c7 c8 c9 c10 c11 c12 c13 c14 c15 c16 c17 c18 c19 f9 HX0 HR0 HO0 HZ0 HI1
  generalize (w1.setCell ⟨g, 9, none⟩ (.slice A0 x.es.length k0)) = W1 at *
  refine (lentBase_w x.bi x.bt r.s x.cfg W1 (HO1.out.cfg HCI.out.cfg) HS.out.cfg).mono ?_
  rintro _ w2 ⟨q1, rfl, hown, hok⟩
  unfold baseV
  have HX2 : Hid (((((((w2.setCell ⟨g, 10, none⟩ (.int .i64 x.bi)).setCell ⟨g, 11, none⟩ (.int .i64 x.bt)).setCell ⟨g, 12, none⟩ (.slice q1.A0 q1.n0 q1.c0)).setCell ⟨g, 13, none⟩ (.slice q1.A1 q1.n1 q1.c1)).setCell ⟨g, 14, none⟩ (.slice q1.A2 q1.n2 q1.c2)).setCell ⟨g, 15, none⟩ (.slice q1.A3 q1.n3 q1.c3)).heap[g]? = some (.cells #[.int .u8 x.kind, .int .i64 x.group, .int .i64 x.from_, .int .i64 x.to_, .int .i64 x.term, .int .i64 x.index, .int .i64 x.logterm, .int .i64 x.commit, .bool x.ok, .slice A0 x.es.length k0, .int .i64 x.bi, .int .i64 x.bt, .slice q1.A0 q1.n0 q1.c0, .slice q1.A1 q1.n1 q1.c1, .slice q1.A2 q1.n2 q1.c2, .slice q1.A3 q1.n3 q1.c3, .int .i64 x.size, .int .i64 x.at_, .int .i64 x.tag, .slice r.bA r.bn r.bc] 95 (0, 0))) := Lib.hid (set_blk (set_blk (set_blk (set_blk (set_blk (set_blk (blk_ok hok HX1.out) 10 (.int .i64 x.bi)) 11 (.int .i64 x.bt)) 12 (.slice q1.A0 q1.n0 q1.c0)) 13 (.slice q1.A1 q1.n1 q1.c1)) 14 (.slice q1.A2 q1.n2 q1.c2)) 15 (.slice q1.A3 q1.n3 q1.c3))
  have HR2 : Hid (((((((w2.setCell ⟨g, 10, none⟩ (.int .i64 x.bi)).setCell ⟨g, 11, none⟩ (.int .i64 x.bt)).setCell ⟨g, 12, none⟩ (.slice q1.A0 q1.n0 q1.c0)).setCell ⟨g, 13, none⟩ (.slice q1.A1 q1.n1 q1.c1)).setCell ⟨g, 14, none⟩ (.slice q1.A2 q1.n2 q1.c2)).setCell ⟨g, 15, none⟩ (.slice q1.A3 q1.n3 q1.c3)).heap[g + 1]? = some (.cells #[.int .u8 0, .int .i64 0, .int .i64 0, .int .i64 0, .int .i64 0, .int .i64 0, .int .i64 0, .int .i64 0, .bool false, .slice none 0 0, .int .i64 0, .int .i64 0, .slice none 0 0, .slice none 0 0, .slice none 0 0, .slice none 0 0, .int .i64 0, .int .i64 0, .int .i64 0, .slice none 0 0] 95 (0, 0))) := Lib.hid (set_far (set_far (set_far (set_far (set_far (set_far (blk_ok hok HR1.out) (by omega : g ≠ g + 1) 10 (.int .i64 x.bi)) (by omega : g ≠ g + 1) 11 (.int .i64 x.bt)) (by omega : g ≠ g + 1) 12 (.slice q1.A0 q1.n0 q1.c0)) (by omega : g ≠ g + 1) 13 (.slice q1.A1 q1.n1 q1.c1)) (by omega : g ≠ g + 1) 14 (.slice q1.A2 q1.n2 q1.c2)) (by omega : g ≠ g + 1) 15 (.slice q1.A3 q1.n3 q1.c3))
  have HO2 : Hid (Ok W ((((((w2.setCell ⟨g, 10, none⟩ (.int .i64 x.bi)).setCell ⟨g, 11, none⟩ (.int .i64 x.bt)).setCell ⟨g, 12, none⟩ (.slice q1.A0 q1.n0 q1.c0)).setCell ⟨g, 13, none⟩ (.slice q1.A1 q1.n1 q1.c1)).setCell ⟨g, 14, none⟩ (.slice q1.A2 q1.n2 q1.c2)).setCell ⟨g, 15, none⟩ (.slice q1.A3 q1.n3 q1.c3))) := Lib.hid (Below.setCell (Below.setCell (Below.setCell (Below.setCell (Below.setCell (Below.setCell (HO1.out.trans hok) (Nat.le_of_eq HG.out) _) (Nat.le_of_eq HG.out) _) (Nat.le_of_eq HG.out) _) (Nat.le_of_eq HG.out) _) (Nat.le_of_eq HG.out) _) (Nat.le_of_eq HG.out) _)
  have HI2 : Hid (Hi (g + 2) w2 ((((((w2.setCell ⟨g, 10, none⟩ (.int .i64 x.bi)).setCell ⟨g, 11, none⟩ (.int .i64 x.bt)).setCell ⟨g, 12, none⟩ (.slice q1.A0 q1.n0 q1.c0)).setCell ⟨g, 13, none⟩ (.slice q1.A1 q1.n1 q1.c1)).setCell ⟨g, 14, none⟩ (.slice q1.A2 q1.n2 q1.c2)).setCell ⟨g, 15, none⟩ (.slice q1.A3 q1.n3 q1.c3))) := Lib.hid (Hi.set' (Hi.set' (Hi.set' (Hi.set' (Hi.set' (Hi.set' (Hi.refl _ _) (by omega) _ _) (by omega) _ _) (by omega) _ _) (by omega) _ _) (by omega) _ _) (by omega) _ _)
  have HZ2 : Hid (g + 2 ≤ ((((((w2.setCell ⟨g, 10, none⟩ (.int .i64 x.bi)).setCell ⟨g, 11, none⟩ (.int .i64 x.bt)).setCell ⟨g, 12, none⟩ (.slice q1.A0 q1.n0 q1.c0)).setCell ⟨g, 13, none⟩ (.slice q1.A1 q1.n1 q1.c1)).setCell ⟨g, 14, none⟩ (.slice q1.A2 q1.n2 q1.c2)).setCell ⟨g, 15, none⟩ (.slice q1.A3 q1.n3 q1.c3)).heap.size) := Lib.hid (Nat.le_trans (Nat.le_trans HZ1.out hok.size) HI2.out.1)
  have HP0_2 := Lib.hid ((HP0_1.out.hi (Hi.ok hok)).hi HI2.out)
  have HP1_2 := Lib.hid ((hown.mono HZ1.out).hi HI2.out)
  have hx := blk_ok hok HX1.out
  have c0 : w2.cell? ⟨g, 0, none⟩ = some (.int .u8 x.kind) := (cell_of_heap hx 0).trans rfl
  have c1 : w2.cell? ⟨g, 1, none⟩ = some (.int .i64 x.group) := (cell_of_heap hx 1).trans rfl
  have c2 : w2.cell? ⟨g, 2, none⟩ = some (.int .i64 x.from_) := (cell_of_heap hx 2).trans rfl
  have c3 : w2.cell? ⟨g, 3, none⟩ = some (.int .i64 x.to_) := (cell_of_heap hx 3).trans rfl
  have c4 : w2.cell? ⟨g, 4, none⟩ = some (.int .i64 x.term) := (cell_of_heap hx 4).trans rfl
  have c5 : w2.cell? ⟨g, 5, none⟩ = some (.int .i64 x.index) := (cell_of_heap hx 5).trans rfl
  have c6 : w2.cell? ⟨g, 6, none⟩ = some (.int .i64 x.logterm) := (cell_of_heap hx 6).trans rfl
  have c7 : w2.cell? ⟨g, 7, none⟩ = some (.int .i64 x.commit) := (cell_of_heap hx 7).trans rfl
  have c8 : w2.cell? ⟨g, 8, none⟩ = some (.bool x.ok) := (cell_of_heap hx 8).trans rfl
  have c9 : w2.cell? ⟨g, 9, none⟩ = some (.slice A0 x.es.length k0) := (cell_of_heap hx 9).trans rfl
  have c10 : w2.cell? ⟨g, 10, none⟩ = some (.int .i64 x.bi) := (cell_of_heap hx 10).trans rfl
  have c11 : w2.cell? ⟨g, 11, none⟩ = some (.int .i64 x.bt) := (cell_of_heap hx 11).trans rfl
  have c12 : w2.cell? ⟨g, 12, none⟩ = some (.slice r.s.A0 r.s.n0 r.s.c0) := (cell_of_heap hx 12).trans rfl
  have c13 : w2.cell? ⟨g, 13, none⟩ = some (.slice r.s.A1 r.s.n1 r.s.c1) := (cell_of_heap hx 13).trans rfl
  have c14 : w2.cell? ⟨g, 14, none⟩ = some (.slice r.s.A2 r.s.n2 r.s.c2) := (cell_of_heap hx 14).trans rfl
  have c15 : w2.cell? ⟨g, 15, none⟩ = some (.slice r.s.A3 r.s.n3 r.s.c3) := (cell_of_heap hx 15).trans rfl
  have c16 : w2.cell? ⟨g, 16, none⟩ = some (.int .i64 x.size) := (cell_of_heap hx 16).trans rfl
  have c17 : w2.cell? ⟨g, 17, none⟩ = some (.int .i64 x.at_) := (cell_of_heap hx 17).trans rfl
  have c18 : w2.cell? ⟨g, 18, none⟩ = some (.int .i64 x.tag) := (cell_of_heap hx 18).trans rfl
  have c19 : w2.cell? ⟨g, 19, none⟩ = some (.slice r.bA r.bn r.bc) := (cell_of_heap hx 19).trans rfl
  have f10 : w2.frozen? ⟨g, 10, none⟩ = false := frz_raw hx 10
  have f11 : w2.frozen? ⟨g, 11, none⟩ = false := frz_raw hx 11
  have f12 : w2.frozen? ⟨g, 12, none⟩ = false := frz_raw hx 12
  have f13 : w2.frozen? ⟨g, 13, none⟩ = false := frz_raw hx 13
  have f14 : w2.frozen? ⟨g, 14, none⟩ = false := frz_raw hx 14
  have f15 : w2.frozen? ⟨g, 15, none⟩ = false := frz_raw hx 15
  clear hx hown hok
  go_wp2_with fail
  clear c0 c1 c2 c3 c4 c5 c6 c7 c8 c9 c10 c11 c12 c13 c14 c15 c16 c17 c18 c19 f10 f11 f12 f13 f14 f15 HX1 HR1 HO1 HZ1 HI2 HP0_1
  generalize ((((((w2.setCell ⟨g, 10, none⟩ (.int .i64 x.bi)).setCell ⟨g, 11, none⟩ (.int .i64 x.bt)).setCell ⟨g, 12, none⟩ (.slice q1.A0 q1.n0 q1.c0)).setCell ⟨g, 13, none⟩ (.slice q1.A1 q1.n1 q1.c1)).setCell ⟨g, 14, none⟩ (.slice q1.A2 q1.n2 q1.c2)).setCell ⟨g, 15, none⟩ (.slice q1.A3 q1.n3 q1.c3)) = W2 at *
  refine (lentBytes_w r.bA r.bn r.bc x.bytes HS.out.bytes W2 (HO2.out.bytes HCI.out.bytes)).mono ?_
  rintro _ w3 ⟨E0, k2, rfl, hown, hok⟩
  have HX3 : Hid ((w3.setCell ⟨g, 19, none⟩ (.slice E0 x.bytes.length k2)).heap[g]? = some (.cells #[.int .u8 x.kind, .int .i64 x.group, .int .i64 x.from_, .int .i64 x.to_, .int .i64 x.term, .int .i64 x.index, .int .i64 x.logterm, .int .i64 x.commit, .bool x.ok, .slice A0 x.es.length k0, .int .i64 x.bi, .int .i64 x.bt, .slice q1.A0 q1.n0 q1.c0, .slice q1.A1 q1.n1 q1.c1, .slice q1.A2 q1.n2 q1.c2, .slice q1.A3 q1.n3 q1.c3, .int .i64 x.size, .int .i64 x.at_, .int .i64 x.tag, .slice E0 x.bytes.length k2] 95 (0, 0))) := Lib.hid (set_blk (blk_ok hok HX2.out) 19 (.slice E0 x.bytes.length k2))
  have HR3 : Hid ((w3.setCell ⟨g, 19, none⟩ (.slice E0 x.bytes.length k2)).heap[g + 1]? = some (.cells #[.int .u8 0, .int .i64 0, .int .i64 0, .int .i64 0, .int .i64 0, .int .i64 0, .int .i64 0, .int .i64 0, .bool false, .slice none 0 0, .int .i64 0, .int .i64 0, .slice none 0 0, .slice none 0 0, .slice none 0 0, .slice none 0 0, .int .i64 0, .int .i64 0, .int .i64 0, .slice none 0 0] 95 (0, 0))) := Lib.hid (set_far (blk_ok hok HR2.out) (by omega : g ≠ g + 1) 19 (.slice E0 x.bytes.length k2))
  have HO3 : Hid (Ok W (w3.setCell ⟨g, 19, none⟩ (.slice E0 x.bytes.length k2))) := Lib.hid (Below.setCell (HO2.out.trans hok) (Nat.le_of_eq HG.out) _)
  have HI3 : Hid (Hi (g + 2) w3 (w3.setCell ⟨g, 19, none⟩ (.slice E0 x.bytes.length k2))) := Lib.hid (Hi.set' (Hi.refl _ _) (by omega) _ _)
  have HZ3 : Hid (g + 2 ≤ (w3.setCell ⟨g, 19, none⟩ (.slice E0 x.bytes.length k2)).heap.size) := Lib.hid (Nat.le_trans (Nat.le_trans HZ2.out hok.size) HI3.out.1)
  have HP0_3 := Lib.hid ((HP0_2.out.hi (Hi.ok hok)).hi HI3.out)
  have HP1_3 := Lib.hid ((HP1_2.out.hi (Hi.ok hok)).hi HI3.out)
  have HP2_3 := Lib.hid ((hown.mono HZ2.out).hi HI3.out)
  have hx := blk_ok hok HX2.out
  have c0 : w3.cell? ⟨g, 0, none⟩ = some (.int .u8 x.kind) := (cell_of_heap hx 0).trans rfl
  have c1 : w3.cell? ⟨g, 1, none⟩ = some (.int .i64 x.group) := (cell_of_heap hx 1).trans rfl
  have c2 : w3.cell? ⟨g, 2, none⟩ = some (.int .i64 x.from_) := (cell_of_heap hx 2).trans rfl
  have c3 : w3.cell? ⟨g, 3, none⟩ = some (.int .i64 x.to_) := (cell_of_heap hx 3).trans rfl
  have c4 : w3.cell? ⟨g, 4, none⟩ = some (.int .i64 x.term) := (cell_of_heap hx 4).trans rfl
  have c5 : w3.cell? ⟨g, 5, none⟩ = some (.int .i64 x.index) := (cell_of_heap hx 5).trans rfl
  have c6 : w3.cell? ⟨g, 6, none⟩ = some (.int .i64 x.logterm) := (cell_of_heap hx 6).trans rfl
  have c7 : w3.cell? ⟨g, 7, none⟩ = some (.int .i64 x.commit) := (cell_of_heap hx 7).trans rfl
  have c8 : w3.cell? ⟨g, 8, none⟩ = some (.bool x.ok) := (cell_of_heap hx 8).trans rfl
  have c9 : w3.cell? ⟨g, 9, none⟩ = some (.slice A0 x.es.length k0) := (cell_of_heap hx 9).trans rfl
  have c10 : w3.cell? ⟨g, 10, none⟩ = some (.int .i64 x.bi) := (cell_of_heap hx 10).trans rfl
  have c11 : w3.cell? ⟨g, 11, none⟩ = some (.int .i64 x.bt) := (cell_of_heap hx 11).trans rfl
  have c12 : w3.cell? ⟨g, 12, none⟩ = some (.slice q1.A0 q1.n0 q1.c0) := (cell_of_heap hx 12).trans rfl
  have c13 : w3.cell? ⟨g, 13, none⟩ = some (.slice q1.A1 q1.n1 q1.c1) := (cell_of_heap hx 13).trans rfl
  have c14 : w3.cell? ⟨g, 14, none⟩ = some (.slice q1.A2 q1.n2 q1.c2) := (cell_of_heap hx 14).trans rfl
  have c15 : w3.cell? ⟨g, 15, none⟩ = some (.slice q1.A3 q1.n3 q1.c3) := (cell_of_heap hx 15).trans rfl
  have c16 : w3.cell? ⟨g, 16, none⟩ = some (.int .i64 x.size) := (cell_of_heap hx 16).trans rfl
  have c17 : w3.cell? ⟨g, 17, none⟩ = some (.int .i64 x.at_) := (cell_of_heap hx 17).trans rfl
  have c18 : w3.cell? ⟨g, 18, none⟩ = some (.int .i64 x.tag) := (cell_of_heap hx 18).trans rfl
  have c19 : w3.cell? ⟨g, 19, none⟩ = some (.slice r.bA r.bn r.bc) := (cell_of_heap hx 19).trans rfl
  have f19 : w3.frozen? ⟨g, 19, none⟩ = false := frz_raw hx 19
  clear hx hown hok
  go_upto_region 4 with fail
  clear c0 c1 c2 c3 c4 c5 c6 c7 c8 c9 c10 c11 c12 c13 c14 c15 c16 c17 c18 c19 f19 HX2 HR2 HO2 HZ2 HI3 HP0_2 HP1_2
  generalize (w3.setCell ⟨g, 19, none⟩ (.slice E0 x.bytes.length k2)) = W3 at *
  obtain ⟨cs, hcs⟩ : ∃ cs : List Value, cs = [.int .u8 x.kind, .int .i64 x.group, .int .i64 x.from_, .int .i64 x.to_, .int .i64 x.term, .int .i64 x.index, .int .i64 x.logterm, .int .i64 x.commit, .bool x.ok, .slice A0 x.es.length k0, .int .i64 x.bi, .int .i64 x.bt, .slice q1.A0 q1.n0 q1.c0, .slice q1.A1 q1.n1 q1.c1, .slice q1.A2 q1.n2 q1.c2, .slice q1.A3 q1.n3 q1.c3, .int .i64 x.size, .int .i64 x.at_, .int .i64 x.tag, .slice E0 x.bytes.length k2] := ⟨_, rfl⟩
  have HCS := Lib.hid hcs
  have hlen : cs.length = 20 := by rw [hcs]; rfl
  have HRG : Hid (W3.rangeAt g 0 cs) := Lib.hid (range_raw (by rw [hcs]; exact HX3.out))
  have HTH : Hid (W3.there (g + 1) 0 cs.toArray.size) := Lib.hid (by rw [List.size_toArray, hlen]; exact there_raw HR3.out (by decide))
  have HIN : Hid ((Try.prog.info? 95).map (·.size) = some cs.length) := Lib.hid (by rw [hlen]; kernel_rfl)
  have HON : Hid (cs.toArray.all (·.oneCell') = true) := Lib.hid (all_oneCell_toArray (by rw [hcs]; simp only [List.forall_mem_cons]; exact ⟨rfl, rfl, rfl, rfl, rfl, rfl, rfl, rfl, rfl, rfl, rfl, rfl, rfl, rfl, rfl, rfl, rfl, rfl, rfl, rfl, fun v hv => by cases hv⟩))
  have hg2 : W.heap.size ≤ g + 1 := by have := HG.out; omega
  have hg3 : W.heap.size ≤ g + 2 := by have := HG.out; omega
  clear hcs hlen
  go_wp2_with (first | (refine wpList_load_mid rfl 95 (.tmp 1) rfl g 0 rfl cs _ HRG.out Try.underlying95 rfl HIN.out ?_) | (refine wpList_store_mid rfl 95 (.tmp 2) (.tmp 15) rfl (g + 1) 0 cs.toArray rfl rfl HTH.out (HIN.out.trans (by rw [List.size_toArray])) HON.out ?_))
  refine bodyPost_ret (v := .agg cs.toArray) (ret_cells Try.results65 _ _ (g + 1) cs (World.rangeAt_setCells_same _ _ _ _ (by have := HTH.out; rwa [List.size_toArray] at this)) _ Try.underlying95 rfl HIN.out rfl) rfl ?_
  refine ⟨⟨A0, k0, q1, E0, x.bytes.length, k2⟩, by rw [HCS.out]; rfl, ?_, setCells_ok _ _ hg2 _ _ _ HO3.out⟩
  · refine LtL.mono (B := g + 2) ?_ hg3
    refine LtL.hi (w := W3) ⟨HP0_3.out, HS.out.es, HP1_3.out, HP2_3.out⟩ ?_
    exact setCells_hi _ _ (by omega) _ _ _
end Go.Proofs.Ytolfdncmlfnbdaa
