/- Rows of entries, walked: copied, lent. -/
import Derived.Test.YtolfdncmlfnbdaaIe
namespace Go.Proofs.Ytolfdncmlfnbdaa
open Go.RowKit

theorem enA_take (l : List En) (k : Nat) (h : k < l.length) : l.take (k + 1) = l.take k ++ [enA l k] := by
  rw [List.take_succ_eq_append_getElem h]
  congr 1
  simp [enA, List.getD, h]
theorem enA_mem (l : List En) (j : Nat) (h : j < l.length) : enA l j ∈ l := by
  unfold enA
  rw [List.getD_eq_getElem?_getD, List.getElem?_eq_getElem h]
  exact List.getElem_mem h
def CopyEsP (W : World) (l : List En) (x : Ending) (w' : World) : Prop := ∃ A c, x = .returned (.slice A l.length c) ∧ EntsN w' W.heap.size A l.length c l ∧ Ok W w'
def markE (i : Nat) : En := ⟨markI i, 0, [], ⟨[], [], [], []⟩⟩
def marksE (m : Nat) : List EP := (List.range m).map fun i => (er0, markE i)
theorem marksE_len (m : Nat) : (marksE m).length = m := by simp [marksE]
theorem marksE_succ (m : Nat) : marksE (m + 1) = marksE m ++ [(er0, markE m)] := by simp [marksE, List.range_succ]
/-- A row of entries that was lent. -/
def EntsL (w : World) (B : Nat) (A : Option Addr) (n c : Nat) (l : List En) : Prop := ∃ (g : Nat) (ps : List EP), A = some ⟨g, 0, none⟩ ∧ ps.map Prod.snd = l ∧ ps.length = n ∧ n + 12 ≤ c ∧ B ≤ g ∧ w.ownsRow B 208 7 (.slice A (n + 12) c) (n + 12) (flat7 (ps ++ marksE 12)) ∧ ∀ p, p ∈ ps → EnL w B p.1 p.2
def LentEsP (W : World) (l : List En) (x : Ending) (w' : World) : Prop := ∃ A c, x = .returned (.slice A l.length c) ∧ EntsL w' W.heap.size A l.length c l ∧ Ok W w'
set_option maxRecDepth 100000 in
set_option maxHeartbeats 8000000 in
theorem copyEntries_w (A : Option Addr) (n c : Nat) (l : List En) (hl : l.length = n) (hn6 : n ≤ 100000) (W : World) (h : EntsIn W A l) (hs : ∀ e, e ∈ l → EnLe e) : Calls Try.prog 169 #[.slice A n c] W (CopyEsP W l) := by
  have HE := Lib.hid h
  have HL := Lib.hid hl
  have HN6 := Lib.hid hn6
  have HLE := Lib.hid hs
  clear h hl hn6 hs
  go_enter Try.func169, Try.ntmps169
  go_wp2_with fail
  go_loopw [3, 4, 5] (fun v3 v4 _ wr => ∃ (k : Nat) (A2 : Option Addr) (c2 : Nat) (ps : List EP), k ≤ n ∧ v4 = .int .i64 k ∧ v3 = .slice A2 k c2 ∧ ps.map Prod.snd = l.take k ∧ ps.length = k ∧ wr.ownsRow W.heap.size 208 7 (.slice A2 k c2) k (flat7 ps) ∧ (∀ p, p ∈ ps → EnN wr W.heap.size p.1 p.2) ∧ Ok W wr) (fun _ v4 _ _ => n - (intOf v4).toNat)
  case atStart => exact ⟨0, none, 0, [], Nat.zero_le _, rfl, rfl, rfl, rfl, World.ownsRow_nil _ _ _ _, (fun p hp => by cases hp), Ok.refl _⟩
  case round =>
    obtain ⟨k, A2, c2, ps, hk, rfl, rfl, hmp, hpl, how, hall, okr⟩ := hrel
    have HMP := Lib.hid hmp
    have HPL := Lib.hid hpl
    have HOW := Lib.hid how
    have HALL := Lib.hid hall
    have HO := Lib.hid okr
    clear hmp hpl how hall okr
    by_cases hlt : k < n
    · have d1 : decide ((k : Int) < (n : Int)) = true := decide_eq_true (by omega)
      obtain ⟨b, off, r, rfl, hr, hc⟩ := HE.out.ok HO.out k (by rw [HL.out]; exact hlt)
      have HTK := Lib.hid (enA_take l k (by rw [HL.out]; exact hlt))
      have HCP := Lib.hid (copyEntry_w r (enA l k) wr hr (HLE.out _ (enA_mem l k (by rw [HL.out]; exact hlt))))
      generalize enA l k = e at *
      have x0 : wr.cell? ⟨b, off + k * 7, none⟩ = some (.int .i64 e.term) := hc 0 (by decide)
      have x1 : wr.cell? ⟨b, off + k * 7 + 1, none⟩ = some (.int .u8 e.kind) := hc 1 (by decide)
      have x2 : wr.cell? ⟨b, off + k * 7 + 2, none⟩ = some (.slice r.A r.n r.c) := hc 2 (by decide)
      have x3 : wr.cell? ⟨b, off + k * 7 + 3, none⟩ = some (.slice r.s.A0 r.s.n0 r.s.c0) := hc 3 (by decide)
      have x4 : wr.cell? ⟨b, off + k * 7 + 4, none⟩ = some (.slice r.s.A1 r.s.n1 r.s.c1) := hc 4 (by decide)
      have x5 : wr.cell? ⟨b, off + k * 7 + 5, none⟩ = some (.slice r.s.A2 r.s.n2 r.s.c2) := hc 5 (by decide)
      have x6 : wr.cell? ⟨b, off + k * 7 + 6, none⟩ = some (.slice r.s.A3 r.s.n3 r.s.c3) := hc 6 (by decide)
      have i0 : (0 : Int) ≤ (k : Int) := Int.natCast_nonneg _
      have i1 : (k : Int) < (n : Int) := by omega
      have ek : IntKind.i64.wrap ((k : Int) + 1) = (k : Int) + 1 := IntWalk.i64_in _ (by have := HN6.out; omega)
      have HLT : Hid (n - ((k : Int) + 1).toNat < n - (k : Int).toNat) := Lib.hid (by omega)
      clear hc hr
      unfold ER.val ER.cells at HCP
      go_wp2_with fail
      (with_reducible refine HCP.out.mono ?_)
      clear HCP x0 x1 x2 x3 x4 x5 x6
      rintro _ w2 ⟨q, rfl, hq, o2⟩
      have HQ := Lib.hid hq
      have HO2 := Lib.hid o2
      clear hq o2
      unfold ER.val ER.cells
      go_upto_region 6 with fail
      have HB1 : Hid ((w2.alloc (.cells #[.int .i64 e.term, .int .u8 e.kind, .slice q.A q.n q.c, .slice q.s.A0 q.s.n0 q.s.c0, .slice q.s.A1 q.s.n1 q.s.c1, .slice q.s.A2 q.s.n2 q.s.c2, .slice q.s.A3 q.s.n3 q.s.c3] 208)).heap[w2.heap.size]? = some (.cells #[.int .i64 e.term, .int .u8 e.kind, .slice q.A q.n q.c, .slice q.s.A0 q.s.n0 q.s.c0, .slice q.s.A1 q.s.n1 q.s.c1, .slice q.s.A2 q.s.n2 q.s.c2, .slice q.s.A3 q.s.n3 q.s.c3] 208 (0, 0))) := Lib.hid (blk_new rfl)
      have HX2 : Hid (Ok w2 (w2.alloc (.cells #[.int .i64 e.term, .int .u8 e.kind, .slice q.A q.n q.c, .slice q.s.A0 q.s.n0 q.s.c0, .slice q.s.A1 q.s.n1 q.s.c1, .slice q.s.A2 q.s.n2 q.s.c2, .slice q.s.A3 q.s.n3 q.s.c3] 208))) := Lib.hid (Ok.alloc (Ok.refl w2) _)
      obtain ⟨z, hz⟩ : ∃ z, w2.heap.size = z := ⟨_, rfl⟩
      rw [hz] at HB1 ⊢
      clear hz
      generalize (w2.alloc (.cells #[.int .i64 e.term, .int .u8 e.kind, .slice q.A q.n q.c, .slice q.s.A0 q.s.n0 q.s.c0, .slice q.s.A1 q.s.n1 q.s.c1, .slice q.s.A2 q.s.n2 q.s.c2, .slice q.s.A3 q.s.n3 q.s.c3] 208)) = X at *
      have hx := HB1.out
      have c0 : X.cell? ⟨z, 0, none⟩ = some (.int .i64 e.term) := (cell_of_heap hx 0).trans rfl
      have c1 : X.cell? ⟨z, 1, none⟩ = some (.int .u8 e.kind) := (cell_of_heap hx 1).trans rfl
      have c2' : X.cell? ⟨z, 2, none⟩ = some (.slice q.A q.n q.c) := (cell_of_heap hx 2).trans rfl
      have c3' : X.cell? ⟨z, 3, none⟩ = some (.slice q.s.A0 q.s.n0 q.s.c0) := (cell_of_heap hx 3).trans rfl
      have c4 : X.cell? ⟨z, 4, none⟩ = some (.slice q.s.A1 q.s.n1 q.s.c1) := (cell_of_heap hx 4).trans rfl
      have c5 : X.cell? ⟨z, 5, none⟩ = some (.slice q.s.A2 q.s.n2 q.s.c2) := (cell_of_heap hx 5).trans rfl
      have c6 : X.cell? ⟨z, 6, none⟩ = some (.slice q.s.A3 q.s.n3 q.s.c3) := (cell_of_heap hx 6).trans rfl
      clear hx
      have HOX : Hid (Ok wr (X.alloc (.cells #[.int .i64 e.term, .int .u8 e.kind, .slice q.A q.n q.c, .slice q.s.A0 q.s.n0 q.s.c0, .slice q.s.A1 q.s.n1 q.s.c1, .slice q.s.A2 q.s.n2 q.s.c2, .slice q.s.A3 q.s.n3 q.s.c3] 208))) := Lib.hid ((HO2.out.trans HX2.out).alloc _)
      have HOWA := Lib.hid (own_hi HOW.out (Hi.ok HOX.out))
      have HNEW : Hid ((X.alloc (.cells #[.int .i64 e.term, .int .u8 e.kind, .slice q.A q.n q.c, .slice q.s.A0 q.s.n0 q.s.c0, .slice q.s.A1 q.s.n1 q.s.c1, .slice q.s.A2 q.s.n2 q.s.c2, .slice q.s.A3 q.s.n3 q.s.c3] 208)).heap[X.heap.size]? = some (.cells #[.int .i64 e.term, .int .u8 e.kind, .slice q.A q.n q.c, .slice q.s.A0 q.s.n0 q.s.c0, .slice q.s.A1 q.s.n1 q.s.c1, .slice q.s.A2 q.s.n2 q.s.c2, .slice q.s.A3 q.s.n3 q.s.c3] 208 (0, 0))) := Lib.hid (heap_alloc_new X _)
      have HSZ : Hid (W.heap.size ≤ (X.alloc (.cells #[.int .i64 e.term, .int .u8 e.kind, .slice q.A q.n q.c, .slice q.s.A0 q.s.n0 q.s.c0, .slice q.s.A1 q.s.n1 q.s.c1, .slice q.s.A2 q.s.n2 q.s.c2, .slice q.s.A3 q.s.n3 q.s.c3] 208)).heap.size) := Lib.hid (HO.out.trans HOX.out).size
      go_wp2_with (at_builtin; go_must (refine wpList_appE rfl (.tmp 17) (.tmp 19) rfl W.heap.size A2 k c2 ps rfl HOWA.out X.heap.size 1 (q, e) rfl HNEW.out (by have := HN6.out; omega) HSZ.out ?_; intro A3 c3 w3 hown3 hgr3; have HOW3 := Lib.hid hown3; have HGR3 := Lib.hid hgr3; clear hown3 hgr3))
      clear c0 c1 c2' c3' c4 c5 c6
      refine ⟨⟨k + 1, A3, c3, ps ++ [(q, e)], hlt, rfl, rfl, by rw [List.map_append, HMP.out, HTK.out]; rfl, by rw [List.length_append, HPL.out]; rfl, HOW3.out, fun p hp => ?_, Below.trans (HO.out.trans HOX.out) (grownBy_below HGR3.out (fun b e => (HOWA.out.lt b e).1) HSZ.out)⟩, HLT.out⟩
      rcases List.mem_append.1 hp with hp | hp
      · exact ((HALL.out p hp).hi (Hi.ok HOX.out)).keep HOWA.out HGR3.out
      · rw [List.mem_singleton.1 hp]
        exact ((HQ.out.hi (Hi.ok ((HX2.out).alloc _))).mono HO.out.size).keep HOWA.out HGR3.out
    · have d1 : decide ((k : Int) < (n : Int)) = false := decide_eq_false (by omega)
      obtain rfl : k = n := by omega
      have HFIN : Hid (EntsN wr W.heap.size A2 k c2 l) := Lib.hid ⟨ps, by rw [HMP.out, ← HL.out, List.take_length], HPL.out, HOW.out, HALL.out⟩
      clear hlt hk
      go_wp2_with fail
      go_ret
      exact ⟨A2, c2, by rw [HL.out]; rfl, by rw [HL.out]; exact HFIN.out, HO.out⟩
set_option maxRecDepth 100000 in
set_option maxHeartbeats 4000000 in
theorem markEntry_w (i : Nat) (hi : i < 12) (W : World) : Calls Try.prog 168 #[.int .i64 1, .int .i64 (i : Int)] W (Ret W (er0.val (markE i))) := by
  have HM := Lib.hid (fun V => mark1_w i hi V)
  unfold er0 markE ER.val ER.cells
  generalize markI i = y at *
  have HOA : Hid (Ok W (W.alloc (.cells #[.int .i64 0, .int .u8 0, .slice none 0 0, .slice none 0 0, .slice none 0 0, .slice none 0 0, .slice none 0 0] 208))) := Lib.hid ((Ok.refl W).alloc _)
  have HB : Hid ((W.alloc (.cells #[.int .i64 0, .int .u8 0, .slice none 0 0, .slice none 0 0, .slice none 0 0, .slice none 0 0, .slice none 0 0] 208)).heap[W.heap.size]? = some (.cells #[.int .i64 0, .int .u8 0, .slice none 0 0, .slice none 0 0, .slice none 0 0, .slice none 0 0, .slice none 0 0] 208 (0, 0))) := Lib.hid (heap_alloc_new W _)
  go_enter Try.func168, Try.ntmps168
  go_wp2_with fail
  obtain ⟨g, hg⟩ : ∃ g, W.heap.size = g := ⟨_, rfl⟩
  have HG := Lib.hid hg
  rw [hg] at HB ⊢
  clear hg
  generalize (W.alloc (.cells #[.int .i64 0, .int .u8 0, .slice none 0 0, .slice none 0 0, .slice none 0 0, .slice none 0 0, .slice none 0 0] 208)) = w1 at *
  (with_reducible refine (HM.out w1).mono ?_)
  rintro _ w2 ⟨rfl, rfl⟩
  have hx := HB.out
  have c0 : w1.cell? ⟨g, 0, none⟩ = some (.int .i64 0) := (cell_of_heap hx 0).trans rfl
  have c1 : w1.cell? ⟨g, 1, none⟩ = some (.int .u8 0) := (cell_of_heap hx 1).trans rfl
  have c2 : w1.cell? ⟨g, 2, none⟩ = some (.slice none 0 0) := (cell_of_heap hx 2).trans rfl
  have c3 : w1.cell? ⟨g, 3, none⟩ = some (.slice none 0 0) := (cell_of_heap hx 3).trans rfl
  have c4 : w1.cell? ⟨g, 4, none⟩ = some (.slice none 0 0) := (cell_of_heap hx 4).trans rfl
  have c5 : w1.cell? ⟨g, 5, none⟩ = some (.slice none 0 0) := (cell_of_heap hx 5).trans rfl
  have c6 : w1.cell? ⟨g, 6, none⟩ = some (.slice none 0 0) := (cell_of_heap hx 6).trans rfl
  have h0 : w1.frozen? ⟨g, 0, none⟩ = false := frz_raw hx 0
  have h1 : w1.frozen? ⟨g, 1, none⟩ = false := frz_raw hx 1
  have h2 : w1.frozen? ⟨g, 2, none⟩ = false := frz_raw hx 2
  have h3 : w1.frozen? ⟨g, 3, none⟩ = false := frz_raw hx 3
  have h4 : w1.frozen? ⟨g, 4, none⟩ = false := frz_raw hx 4
  have h5 : w1.frozen? ⟨g, 5, none⟩ = false := frz_raw hx 5
  have h6 : w1.frozen? ⟨g, 6, none⟩ = false := frz_raw hx 6
  clear hx
  go_wp2_with fail
  refine bodyPost_ret (v := .agg #[.int .i64 y, .int .u8 0, .slice none 0 0, .slice none 0 0, .slice none 0 0, .slice none 0 0, .slice none 0 0]) (by simp [results, Try.results168, go_sem, c0, c1, c2, c3, c4, c5, c6]; try rfl) rfl ?_
  refine ⟨rfl, ?_⟩
  show Below W.heap.size W _
  have hg2 := Nat.le_of_eq HG.out
  repeat refine Below.setCell ?_ hg2 _
  exact HOA.out
theorem markE_flat (j : Nat) (ps : List EP) : flat7 (ps ++ marksE (j + 1)) = flat7 ((ps ++ marksE j) ++ [(er0, markE j)]) := by rw [marksE_succ, List.append_assoc]
set_option maxRecDepth 100000 in
set_option maxHeartbeats 8000000 in
theorem lentEntries_w (A : Option Addr) (n c : Nat) (l : List En) (hl : l.length = n) (hn6 : n ≤ 100000) (W : World) (h : EntsIn W A l) (hs : ∀ e, e ∈ l → EnLe e) : Calls Try.prog 122 #[.slice A n c] W (LentEsP W l) := by
  have HE := Lib.hid h
  have HL := Lib.hid hl
  have HN6 := Lib.hid hn6
  have HLE := Lib.hid hs
  obtain ⟨i0, hi, hz0, hz1, hz2⟩ := info_parts info208
  have HI := Lib.hid hi
  have HZ0 := Lib.hid hz0
  have HZ1 := Lib.hid hz1
  have HZ2 := Lib.hid hz2
  clear h hl hs hi hz0 hz1 hz2
  go_enter Try.func122, Try.ntmps122
  go_wp2_with (at_make; go_must (refine wpList_make_own _ rfl _ _ 91 rfl W.heap.size 208 i0 (.agg #[.int .i64 0, .int .u8 0, .slice none 0 0, .slice none 0 0, .slice none 0 0, .slice none 0 0, .slice none 0 0]) 7 Try.underlying91 HI.out HZ0.out HZ1.out .i64 .i64 _ (n + 12) rfl rfl (by first | rfl | simp | (push_cast; omega)) (by rw [HZ2.out]; omega) (by unfold maxLen; omega) (Nat.le_refl _) ?_; intro w0 hown0 hgrow0; have HOW0 : Hid (w0.ownsRow W.heap.size 208 7 (.slice (some ⟨W.heap.size, 0, none⟩) 0 (n + 12)) 0 (flat7 [])) := Lib.hid hown0; have HB0 : Hid (Ok W w0) := Lib.hid ((Below.refl _ _).grown hgrow0 (Nat.le_refl _) (fun k hk => by cases hk)); clear hown0 hgrow0))
  clear hn6
  go_loopw [3, 4, 5] (fun v3 v4 _ wr => ∃ (k : Nat) (A2 : Option Addr) (c2 : Nat) (ps : List EP), k ≤ n ∧ v4 = .int .i64 k ∧ v3 = .slice A2 k c2 ∧ ps.map Prod.snd = l.take k ∧ ps.length = k ∧ wr.ownsRow W.heap.size 208 7 (.slice A2 k c2) k (flat7 ps) ∧ (∀ p, p ∈ ps → EnL wr W.heap.size p.1 p.2) ∧ Ok W wr) (fun _ v4 _ _ => n - (intOf v4).toNat)
  case atStart => exact ⟨0, _, _, [], Nat.zero_le _, rfl, rfl, rfl, rfl, HOW0.out, (fun p hp => by cases hp), HB0.out⟩
  case round =>
    obtain ⟨k, A2, c2, ps, hk, rfl, rfl, hmp, hpl, how, hall, okr⟩ := hrel
    have HMP := Lib.hid hmp
    have HPL := Lib.hid hpl
    have HOW := Lib.hid how
    have HALL := Lib.hid hall
    have HO := Lib.hid okr
    clear hmp hpl how hall okr HOW0 HB0 HI HZ0 HZ1 HZ2
    by_cases hlt : k < n
    · have d1 : decide ((k : Int) < (n : Int)) = true := decide_eq_true (by omega)
      obtain ⟨b, off, r, rfl, hr, hc⟩ := HE.out.ok HO.out k (by rw [HL.out]; exact hlt)
      have HTK := Lib.hid (enA_take l k (by rw [HL.out]; exact hlt))
      have HCP := Lib.hid (lentEntry_w r (enA l k) wr hr (HLE.out _ (enA_mem l k (by rw [HL.out]; exact hlt))))
      generalize enA l k = e at *
      have x0 : wr.cell? ⟨b, off + k * 7, none⟩ = some (.int .i64 e.term) := hc 0 (by decide)
      have x1 : wr.cell? ⟨b, off + k * 7 + 1, none⟩ = some (.int .u8 e.kind) := hc 1 (by decide)
      have x2 : wr.cell? ⟨b, off + k * 7 + 2, none⟩ = some (.slice r.A r.n r.c) := hc 2 (by decide)
      have x3 : wr.cell? ⟨b, off + k * 7 + 3, none⟩ = some (.slice r.s.A0 r.s.n0 r.s.c0) := hc 3 (by decide)
      have x4 : wr.cell? ⟨b, off + k * 7 + 4, none⟩ = some (.slice r.s.A1 r.s.n1 r.s.c1) := hc 4 (by decide)
      have x5 : wr.cell? ⟨b, off + k * 7 + 5, none⟩ = some (.slice r.s.A2 r.s.n2 r.s.c2) := hc 5 (by decide)
      have x6 : wr.cell? ⟨b, off + k * 7 + 6, none⟩ = some (.slice r.s.A3 r.s.n3 r.s.c3) := hc 6 (by decide)
      have i0 : (0 : Int) ≤ (k : Int) := Int.natCast_nonneg _
      have i1 : (k : Int) < (n : Int) := by omega
      have ek : IntKind.i64.wrap ((k : Int) + 1) = (k : Int) + 1 := IntWalk.i64_in _ (by have := HN6.out; omega)
      have HLT : Hid (n - ((k : Int) + 1).toNat < n - (k : Int).toNat) := Lib.hid (by omega)
      clear hc hr
      unfold ER.val ER.cells at HCP
      go_wp2_with fail
      (with_reducible refine HCP.out.mono ?_)
      clear HCP x0 x1 x2 x3 x4 x5 x6
      rintro _ w2 ⟨q, rfl, hq, o2⟩
      have HQ := Lib.hid hq
      have HO2 := Lib.hid o2
      clear hq o2
      unfold ER.val ER.cells
      go_upto_region 6 with fail
      have HB1 : Hid ((w2.alloc (.cells #[.int .i64 e.term, .int .u8 e.kind, .slice q.A q.n q.c, .slice q.s.A0 q.s.n0 q.s.c0, .slice q.s.A1 q.s.n1 q.s.c1, .slice q.s.A2 q.s.n2 q.s.c2, .slice q.s.A3 q.s.n3 q.s.c3] 208)).heap[w2.heap.size]? = some (.cells #[.int .i64 e.term, .int .u8 e.kind, .slice q.A q.n q.c, .slice q.s.A0 q.s.n0 q.s.c0, .slice q.s.A1 q.s.n1 q.s.c1, .slice q.s.A2 q.s.n2 q.s.c2, .slice q.s.A3 q.s.n3 q.s.c3] 208 (0, 0))) := Lib.hid (blk_new rfl)
      have HX2 : Hid (Ok w2 (w2.alloc (.cells #[.int .i64 e.term, .int .u8 e.kind, .slice q.A q.n q.c, .slice q.s.A0 q.s.n0 q.s.c0, .slice q.s.A1 q.s.n1 q.s.c1, .slice q.s.A2 q.s.n2 q.s.c2, .slice q.s.A3 q.s.n3 q.s.c3] 208))) := Lib.hid (Ok.alloc (Ok.refl w2) _)
      obtain ⟨z, hz⟩ : ∃ z, w2.heap.size = z := ⟨_, rfl⟩
      rw [hz] at HB1 ⊢
      clear hz
      generalize (w2.alloc (.cells #[.int .i64 e.term, .int .u8 e.kind, .slice q.A q.n q.c, .slice q.s.A0 q.s.n0 q.s.c0, .slice q.s.A1 q.s.n1 q.s.c1, .slice q.s.A2 q.s.n2 q.s.c2, .slice q.s.A3 q.s.n3 q.s.c3] 208)) = X at *
      have hx := HB1.out
      have c0 : X.cell? ⟨z, 0, none⟩ = some (.int .i64 e.term) := (cell_of_heap hx 0).trans rfl
      have c1 : X.cell? ⟨z, 1, none⟩ = some (.int .u8 e.kind) := (cell_of_heap hx 1).trans rfl
      have c2' : X.cell? ⟨z, 2, none⟩ = some (.slice q.A q.n q.c) := (cell_of_heap hx 2).trans rfl
      have c3' : X.cell? ⟨z, 3, none⟩ = some (.slice q.s.A0 q.s.n0 q.s.c0) := (cell_of_heap hx 3).trans rfl
      have c4 : X.cell? ⟨z, 4, none⟩ = some (.slice q.s.A1 q.s.n1 q.s.c1) := (cell_of_heap hx 4).trans rfl
      have c5 : X.cell? ⟨z, 5, none⟩ = some (.slice q.s.A2 q.s.n2 q.s.c2) := (cell_of_heap hx 5).trans rfl
      have c6 : X.cell? ⟨z, 6, none⟩ = some (.slice q.s.A3 q.s.n3 q.s.c3) := (cell_of_heap hx 6).trans rfl
      clear hx
      have HOX : Hid (Ok wr (X.alloc (.cells #[.int .i64 e.term, .int .u8 e.kind, .slice q.A q.n q.c, .slice q.s.A0 q.s.n0 q.s.c0, .slice q.s.A1 q.s.n1 q.s.c1, .slice q.s.A2 q.s.n2 q.s.c2, .slice q.s.A3 q.s.n3 q.s.c3] 208))) := Lib.hid ((HO2.out.trans HX2.out).alloc _)
      have HOWA := Lib.hid (own_hi HOW.out (Hi.ok HOX.out))
      have HNEW : Hid ((X.alloc (.cells #[.int .i64 e.term, .int .u8 e.kind, .slice q.A q.n q.c, .slice q.s.A0 q.s.n0 q.s.c0, .slice q.s.A1 q.s.n1 q.s.c1, .slice q.s.A2 q.s.n2 q.s.c2, .slice q.s.A3 q.s.n3 q.s.c3] 208)).heap[X.heap.size]? = some (.cells #[.int .i64 e.term, .int .u8 e.kind, .slice q.A q.n q.c, .slice q.s.A0 q.s.n0 q.s.c0, .slice q.s.A1 q.s.n1 q.s.c1, .slice q.s.A2 q.s.n2 q.s.c2, .slice q.s.A3 q.s.n3 q.s.c3] 208 (0, 0))) := Lib.hid (heap_alloc_new X _)
      have HSZ : Hid (W.heap.size ≤ (X.alloc (.cells #[.int .i64 e.term, .int .u8 e.kind, .slice q.A q.n q.c, .slice q.s.A0 q.s.n0 q.s.c0, .slice q.s.A1 q.s.n1 q.s.c1, .slice q.s.A2 q.s.n2 q.s.c2, .slice q.s.A3 q.s.n3 q.s.c3] 208)).heap.size) := Lib.hid (HO.out.trans HOX.out).size
      go_wp2_with (at_builtin; go_must (refine wpList_appE rfl (.tmp 22) (.tmp 24) rfl W.heap.size A2 k c2 ps rfl HOWA.out X.heap.size 1 (q, e) rfl HNEW.out (by have := HN6.out; omega) HSZ.out ?_; intro A3 c3 w3 hown3 hgr3; have HOW3 := Lib.hid hown3; have HGR3 := Lib.hid hgr3; clear hown3 hgr3))
      clear c0 c1 c2' c3' c4 c5 c6
      refine ⟨⟨k + 1, A3, c3, ps ++ [(q, e)], hlt, rfl, rfl, by rw [List.map_append, HMP.out, HTK.out]; rfl, by rw [List.length_append, HPL.out]; rfl, HOW3.out, fun p hp => ?_, Below.trans (HO.out.trans HOX.out) (grownBy_below HGR3.out (fun b e => (HOWA.out.lt b e).1) HSZ.out)⟩, HLT.out⟩
      rcases List.mem_append.1 hp with hp | hp
      · exact ((HALL.out p hp).hi (Hi.ok HOX.out)).keep HOWA.out HGR3.out
      · rw [List.mem_singleton.1 hp]
        exact ((HQ.out.hi (Hi.ok ((HX2.out).alloc _))).mono HO.out.size).keep HOWA.out HGR3.out
    · have d1 : decide ((k : Int) < (n : Int)) = false := decide_eq_false (by omega)
      obtain rfl : k = n := by omega
      have HMQ : Hid (ps.map Prod.snd = l) := Lib.hid (by rw [HMP.out, ← HL.out, List.take_length])
      obtain ⟨w1, hw1⟩ : ∃ v, v = wr := ⟨_, rfl⟩
      subst hw1
      clear hlt hk HMP HLE HE
      go_wp2_with fail
      clear d1
      go_loopw [3, 6] (fun v3 v6 wr => ∃ (j : Nat) (A3 : Option Addr) (c3 : Nat), j ≤ 12 ∧ v6 = .int .i64 j ∧ v3 = .slice A3 (k + j) c3 ∧ wr.ownsRow W.heap.size 208 7 (.slice A3 (k + j) c3) (k + j) (flat7 (ps ++ marksE j)) ∧ (∀ p, p ∈ ps → EnL wr W.heap.size p.1 p.2) ∧ Ok W wr) (fun _ v6 _ => 12 - (intOf v6).toNat)
      case atStart => exact ⟨0, A2, c2, Nat.zero_le _, rfl, rfl, by simpa [marksE] using HOW.out, HALL.out, HO.out⟩
      case round =>
        obtain ⟨j, A3, c3, hj, rfl, rfl, how, hall, okr⟩ := hrel
        have HOW3 := Lib.hid how
        have HALL3 := Lib.hid hall
        have HO3 := Lib.hid okr
        clear how hall okr HOW HALL HO
        by_cases hlt : j < 12
        · have d1 : decide ((j : Int) < 12) = true := decide_eq_true (by omega)
          have HMK := Lib.hid (markEntry_w j hlt wr)
          have ek : IntKind.i64.wrap ((j : Int) + 1) = (j : Int) + 1 := IntWalk.i64_in _ (by omega)
          have HLT : Hid (12 - ((j : Int) + 1).toNat < 12 - (j : Int).toNat) := Lib.hid (by omega)
          have HFL := Lib.hid (markE_flat j ps)
          have HEQ : Hid ((er0.cells (markE j)) = [.int .i64 (markE j).term, .int .u8 (markE j).kind, .slice none 0 0, .slice none 0 0, .slice none 0 0, .slice none 0 0, .slice none 0 0]) := Lib.hid rfl
          unfold er0 ER.val ER.cells at HMK
          generalize hme : (markE j).term = tj at *
          generalize hmk : (markE j).kind = tk at *
          clear hme hmk
          go_wp2_with fail
          (with_reducible refine HMK.out.mono ?_)
          rintro _ w2 ⟨rfl, o2⟩
          have HOX : Hid (Ok wr (w2.alloc (.cells #[.int .i64 tj, .int .u8 tk, .slice none 0 0, .slice none 0 0, .slice none 0 0, .slice none 0 0, .slice none 0 0] 208))) := Lib.hid (Ok.alloc o2 _)
          have HOWA := Lib.hid (own_hi HOW3.out (Hi.ok HOX.out))
          have HNEW : Hid ((w2.alloc (.cells #[.int .i64 tj, .int .u8 tk, .slice none 0 0, .slice none 0 0, .slice none 0 0, .slice none 0 0, .slice none 0 0] 208)).heap[w2.heap.size]? = some (.cells (er0.cells (markE j)).toArray 208 (0, 0))) := Lib.hid (by rw [HEQ.out]; exact heap_alloc_new w2 _)
          have HSZ : Hid (W.heap.size ≤ (w2.alloc (.cells #[.int .i64 tj, .int .u8 tk, .slice none 0 0, .slice none 0 0, .slice none 0 0, .slice none 0 0, .slice none 0 0] 208)).heap.size) := Lib.hid (HO3.out.trans HOX.out).size
          clear o2 HMK
          go_wp2_with (at_builtin; go_must (refine wpList_appE rfl (.tmp 30) (.tmp 33) rfl W.heap.size A3 (k + j) c3 (ps ++ marksE j) rfl HOWA.out w2.heap.size 1 (er0, markE j) rfl HNEW.out (by have := HN6.out; omega) HSZ.out ?_; intro A4 c4 w3 hown3 hgr3; have HOW4 := Lib.hid hown3; have HGR3 := Lib.hid hgr3; clear hown3 hgr3))
          refine ⟨⟨j + 1, A4, c4, hlt, by go_num, by rfl, by rw [HFL.out]; exact HOW4.out, fun p hp => ?_, Below.trans (HO3.out.trans HOX.out) (grownBy_below HGR3.out (fun b e => (HOWA.out.lt b e).1) HSZ.out)⟩, HLT.out⟩
          exact ((HALL3.out p hp).hi (Hi.ok HOX.out)).keep HOWA.out HGR3.out
        · have d1 : decide ((j : Int) < 12) = false := decide_eq_false (by omega)
          obtain rfl : j = 12 := by omega
          clear hlt hj
          obtain ⟨g, hA3, hcap, hg⟩ : ∃ g, A3 = some ⟨g, 0, none⟩ ∧ k + 12 ≤ c3 ∧ W.heap.size ≤ g := by
            rcases HOW3.out.2 with ⟨e, h0⟩ | ⟨g, cap, cur, e, h1, h2, h3, _⟩
            · omega
            · simp only [Value.slice.injEq] at e
              exact ⟨g, e.1, by omega, h1⟩
          subst hA3
          have hi1 : (k : Int) ≤ (c3 : Int) := by omega
          have hn0 : (0 : Int) ≤ (k : Int) := by omega
          have HFIN : Hid (EntsL wr W.heap.size (some ⟨g, 0, none⟩) k c3 l) := Lib.hid ⟨g, ps, rfl, HMQ.out, HPL.out, hcap, hg, HOW3.out, HALL3.out⟩
          clear hcap hg
          go_wp2_with fail
          go_ret
          exact ⟨_, c3, by rw [HL.out]; rfl, by rw [HL.out]; exact HFIN.out, HO3.out⟩
end Go.Proofs.Ytolfdncmlfnbdaa
