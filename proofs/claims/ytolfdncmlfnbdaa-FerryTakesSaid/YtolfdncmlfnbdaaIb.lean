/- Entries, bases and letters in memory; two that hold the same are told to be so. -/
import Derived.Test.YtolfdncmlfnbdaaIa
namespace Go.Proofs.Ytolfdncmlfnbdaa
open Go.RowKit

theorem blk_new {w : World} {n : Nat} {o : Obj} (h : w.heap.size = n) : (w.alloc o).heap[n]? = some o := h ▸ heap_alloc_new w o
theorem blk_old {w : World} {n : Nat} {o o' : Obj} (h : w.heap[n]? = some o) : (w.alloc o').heap[n]? = some o := by
  have hn : n < w.heap.size := (Array.getElem?_eq_some_iff.1 h).1
  rw [((Ok.refl w).alloc o').block n hn]; exact h
theorem blk_ok {w w' : World} {n : Nat} {o : Obj} (k : Ok w w') (h : w.heap[n]? = some o) : w'.heap[n]? = some o := by
  have hn : n < w.heap.size := (Array.getElem?_eq_some_iff.1 h).1
  rw [k.block n hn]; exact h
theorem blk2 (w : World) (a b : Obj) : ((w.alloc a).alloc b).heap[w.heap.size]? = some a ∧ ((w.alloc a).alloc b).heap[w.heap.size + 1]? = some b :=
  ⟨blk_old (blk_new rfl), blk_new (World.size_alloc w a)⟩
theorem frz_raw {w : World} {p ty : Nat} {cs : Array Value} (h : w.heap[p]? = some (.cells cs ty (0, 0))) (i : Nat) : w.frozen? ⟨p, i, none⟩ = false := by
  simp [World.frozen?, h]
/-- The four rows of a configuration. -/
structure S4 where
  A0 : Option Addr
  n0 : Nat
  c0 : Nat
  A1 : Option Addr
  n1 : Nat
  c1 : Nat
  A2 : Option Addr
  n2 : Nat
  c2 : Nat
  A3 : Option Addr
  n3 : Nat
  c3 : Nat
def S4.v (s : S4) : Value := .agg #[.slice s.A0 s.n0 s.c0, .slice s.A1 s.n1 s.c1, .slice s.A2 s.n2 s.c2, .slice s.A3 s.n3 s.c3]
structure En where
  term : Int
  kind : Int
  cmd : List B8
  cfg : Cfg
structure ER where
  A : Option Addr
  n : Nat
  c : Nat
  s : S4
def ER.cells (r : ER) (e : En) : List Value := [.int .i64 e.term, .int .u8 e.kind, .slice r.A r.n r.c, .slice r.s.A0 r.s.n0 r.s.c0, .slice r.s.A1 r.s.n1 r.s.c1, .slice r.s.A2 r.s.n2 r.s.c2, .slice r.s.A3 r.s.n3 r.s.c3]
def ER.val (r : ER) (e : En) : Value := .agg (r.cells e).toArray
structure EnAt (w : World) (r : ER) (e : En) : Prop where
  cmd : BytesIn w (.slice r.A r.n r.c) e.cmd
  cfg : CfgIn w r.s.v e.cfg
theorem EnAt.ok {w w' : World} {r : ER} {e : En} (h : EnAt w r e) (k : Ok w w') : EnAt w' r e := ⟨k.bytes h.cmd, k.cfg h.cfg⟩
def en0 : En := ⟨0, 0, [], ⟨[], [], [], []⟩⟩
def enA (l : List En) (j : Nat) : En := l.getD j en0
def EntsIn (w : World) (A : Option Addr) (l : List En) : Prop := ∀ j, j < l.length → ∃ b off r, A = some ⟨b, off, none⟩ ∧ EnAt w r (enA l j) ∧ ∀ k, k < 7 → w.cell? ⟨b, off + j * 7 + k, none⟩ = (r.cells (enA l j))[k]?
theorem EntsIn.ok {w w' : World} {A : Option Addr} {l : List En} (h : EntsIn w A l) (k : Ok w w') : EntsIn w' A l := fun j hj => by
  obtain ⟨b, off, r, e, hr, hc⟩ := h j hj
  exact ⟨b, off, r, e, hr.ok k, fun i hi => by
    have h1 := hc i hi
    have h2 : i < (r.cells (enA l j)).length := hi
    rw [List.getElem?_eq_getElem h2] at h1 ⊢
    exact k.cell h1⟩
/-- A letter: what it holds; where its rows lie. -/
structure Lt where
  kind : Int
  group : Int
  from_ : Int
  to_ : Int
  term : Int
  index : Int
  logterm : Int
  commit : Int
  ok : Bool
  es : List En
  bi : Int
  bt : Int
  cfg : Cfg
  size : Int
  at_ : Int
  tag : Int
  bytes : List B8
structure LR where
  eA : Option Addr
  ec : Nat
  s : S4
  bA : Option Addr
  bn : Nat
  bc : Nat
def LR.cells (r : LR) (x : Lt) : List Value := [.int .u8 x.kind, .int .i64 x.group, .int .i64 x.from_, .int .i64 x.to_, .int .i64 x.term, .int .i64 x.index, .int .i64 x.logterm, .int .i64 x.commit, .bool x.ok, .slice r.eA x.es.length r.ec, .int .i64 x.bi, .int .i64 x.bt, .slice r.s.A0 r.s.n0 r.s.c0, .slice r.s.A1 r.s.n1 r.s.c1, .slice r.s.A2 r.s.n2 r.s.c2, .slice r.s.A3 r.s.n3 r.s.c3, .int .i64 x.size, .int .i64 x.at_, .int .i64 x.tag, .slice r.bA r.bn r.bc]
def LR.val (r : LR) (x : Lt) : Value := .agg (r.cells x).toArray
def baseV (bi bt : Int) (s : S4) : Value := .agg #[.int .i64 bi, .int .i64 bt, .slice s.A0 s.n0 s.c0, .slice s.A1 s.n1 s.c1, .slice s.A2 s.n2 s.c2, .slice s.A3 s.n3 s.c3]
structure LtAt (w : World) (r : LR) (x : Lt) : Prop where
  en6 : x.es.length ≤ 17592186044416
  es : EntsIn w r.eA x.es
  enil : r.eA = none → r.ec = 0
  cfg : CfgIn w r.s.v x.cfg
  bytes : BytesIn w (.slice r.bA r.bn r.bc) x.bytes
theorem LtAt.ok {w w' : World} {r : LR} {x : Lt} (h : LtAt w r x) (k : Ok w w') : LtAt w' r x := ⟨h.en6, h.es.ok k, h.enil, k.cfg h.cfg, k.bytes h.bytes⟩
theorem sameCfg (va vb : Value) (c : Cfg) (W : World) (ha : CfgIn W va c) (hb : CfgIn W vb c) : Calls Try.prog 110 #[va, vb] W (Ret W (.bool true)) :=
  (sameConfig_q va vb c c W ha hb).mono fun e w' h => by rw [sameC_refl] at h; exact h

set_option maxRecDepth 100000 in
set_option maxHeartbeats 4000000 in
theorem sameEntry_w (r q : ER) (e : En) (W : World) (ha : EnAt W r e) (hb : EnAt W q e) : Calls Try.prog 171 #[r.val e, q.val e] W (Ret W (.bool true)) := by
  have HA := Lib.hid ha
  have HB := Lib.hid hb
  clear ha hb
  unfold ER.val ER.cells
  have HX := Lib.hid (blk2 W (.cells #[.int .i64 e.term, .int .u8 e.kind, .slice r.A r.n r.c, .slice r.s.A0 r.s.n0 r.s.c0, .slice r.s.A1 r.s.n1 r.s.c1, .slice r.s.A2 r.s.n2 r.s.c2, .slice r.s.A3 r.s.n3 r.s.c3] 208) (.cells #[.int .i64 e.term, .int .u8 e.kind, .slice q.A q.n q.c, .slice q.s.A0 q.s.n0 q.s.c0, .slice q.s.A1 q.s.n1 q.s.c1, .slice q.s.A2 q.s.n2 q.s.c2, .slice q.s.A3 q.s.n3 q.s.c3] 208))
  have HO : Hid (Ok W ((W.alloc (.cells #[.int .i64 e.term, .int .u8 e.kind, .slice r.A r.n r.c, .slice r.s.A0 r.s.n0 r.s.c0, .slice r.s.A1 r.s.n1 r.s.c1, .slice r.s.A2 r.s.n2 r.s.c2, .slice r.s.A3 r.s.n3 r.s.c3] 208)).alloc (.cells #[.int .i64 e.term, .int .u8 e.kind, .slice q.A q.n q.c, .slice q.s.A0 q.s.n0 q.s.c0, .slice q.s.A1 q.s.n1 q.s.c1, .slice q.s.A2 q.s.n2 q.s.c2, .slice q.s.A3 q.s.n3 q.s.c3] 208))) := Lib.hid (((Ok.refl W).alloc _).alloc _)
  go_enter Try.func171, Try.ntmps171
  go_wp2_with fail
  generalize ((W.alloc (.cells #[.int .i64 e.term, .int .u8 e.kind, .slice r.A r.n r.c, .slice r.s.A0 r.s.n0 r.s.c0, .slice r.s.A1 r.s.n1 r.s.c1, .slice r.s.A2 r.s.n2 r.s.c2, .slice r.s.A3 r.s.n3 r.s.c3] 208)).alloc (.cells #[.int .i64 e.term, .int .u8 e.kind, .slice q.A q.n q.c, .slice q.s.A0 q.s.n0 q.s.c0, .slice q.s.A1 q.s.n1 q.s.c1, .slice q.s.A2 q.s.n2 q.s.c2, .slice q.s.A3 q.s.n3 q.s.c3] 208)) = w0 at *
  refine (sameBytes_v _ _ e.cmd w0 (HO.out.bytes HA.out.cmd) (HO.out.bytes HB.out.cmd)).mono ?_
  rintro _ w1 ⟨rfl, ok⟩
  have HO1 : Hid (Ok w0 w1) := Lib.hid ok
  clear ok
  have b1 := blk_ok HO1.out HX.out.1
  have b2 := blk_ok HO1.out HX.out.2
  have a3 : w1.cell? ⟨W.heap.size, 3, none⟩ = some (.slice r.s.A0 r.s.n0 r.s.c0) := (cell_of_heap b1 3).trans rfl
  have a4 : w1.cell? ⟨W.heap.size, 4, none⟩ = some (.slice r.s.A1 r.s.n1 r.s.c1) := (cell_of_heap b1 4).trans rfl
  have a5 : w1.cell? ⟨W.heap.size, 5, none⟩ = some (.slice r.s.A2 r.s.n2 r.s.c2) := (cell_of_heap b1 5).trans rfl
  have a6 : w1.cell? ⟨W.heap.size, 6, none⟩ = some (.slice r.s.A3 r.s.n3 r.s.c3) := (cell_of_heap b1 6).trans rfl
  have c3 : w1.cell? ⟨(W.heap.size + 1), 3, none⟩ = some (.slice q.s.A0 q.s.n0 q.s.c0) := (cell_of_heap b2 3).trans rfl
  have c4 : w1.cell? ⟨(W.heap.size + 1), 4, none⟩ = some (.slice q.s.A1 q.s.n1 q.s.c1) := (cell_of_heap b2 4).trans rfl
  have c5 : w1.cell? ⟨(W.heap.size + 1), 5, none⟩ = some (.slice q.s.A2 q.s.n2 q.s.c2) := (cell_of_heap b2 5).trans rfl
  have c6 : w1.cell? ⟨(W.heap.size + 1), 6, none⟩ = some (.slice q.s.A3 q.s.n3 q.s.c3) := (cell_of_heap b2 6).trans rfl
  clear b1 b2
  go_wp2_with fail
  clear a3 a4 a5 a6 c3 c4 c5 c6
  refine (sameCfg r.s.v q.s.v e.cfg w1 ((HO.out.trans HO1.out).cfg HA.out.cfg) ((HO.out.trans HO1.out).cfg HB.out.cfg)).mono ?_
  rintro _ w2 ⟨rfl, ok⟩
  go_wp2_with fail
  go_ret
  exact ⟨rfl, (HO.out.trans HO1.out).trans ok⟩
set_option maxRecDepth 100000 in
set_option maxHeartbeats 4000000 in
theorem sameEntries_w (A B : Option Addr) (n c d : Nat) (l : List En) (hl : l.length = n) (hn6 : n ≤ 17592186044416) (W : World) (ha : EntsIn W A l) (hb : EntsIn W B l) : Calls Try.prog 128 #[.slice A n c, .slice B n d] W (Ret W (.bool true)) := by
  have HA := Lib.hid ha
  have HB := Lib.hid hb
  have HL := Lib.hid hl
  have e0 : ((n : Int) != (n : Int)) = false := by simp
  clear ha hb hl
  go_enter Try.func128, Try.ntmps128
  go_wp2_with fail
  go_loopw [5] (fun v wr => ∃ k : Nat, k ≤ n ∧ v = .int .i64 k ∧ Ok W wr) (fun v _ => n - (intOf v).toNat)
  case atStart => exact ⟨0, Nat.zero_le _, rfl, Ok.refl _⟩
  case round =>
    obtain ⟨k, hk, rfl, okr⟩ := hrel
    have HO := Lib.hid okr
    clear okr
    by_cases hlt : k < n
    · have d1 : decide ((k : Int) < (n : Int)) = true := decide_eq_true (by omega)
      obtain ⟨b, off, r, rfl, hr, hc⟩ := HA.out.ok HO.out k (by rw [HL.out]; exact hlt)
      obtain ⟨g, ofg, q, rfl, hr2, hq⟩ := HB.out.ok HO.out k (by rw [HL.out]; exact hlt)
      have HR := Lib.hid (fun V (o : Ok wr V) => sameEntry_w r q (enA l k) V (hr.ok o) (hr2.ok o))
      generalize enA l k = e at *
      have HS : Hid (∀ V, Ok wr V → V.cell? ⟨b, off + k * 7, none⟩ = some (.int .i64 e.term) ∧ V.cell? ⟨b, off + k * 7 + 1, none⟩ = some (.int .u8 e.kind) ∧ V.cell? ⟨b, off + k * 7 + 2, none⟩ = some (.slice r.A r.n r.c) ∧ V.cell? ⟨b, off + k * 7 + 3, none⟩ = some (.slice r.s.A0 r.s.n0 r.s.c0) ∧ V.cell? ⟨b, off + k * 7 + 4, none⟩ = some (.slice r.s.A1 r.s.n1 r.s.c1) ∧ V.cell? ⟨b, off + k * 7 + 5, none⟩ = some (.slice r.s.A2 r.s.n2 r.s.c2) ∧ V.cell? ⟨b, off + k * 7 + 6, none⟩ = some (.slice r.s.A3 r.s.n3 r.s.c3) ∧ V.cell? ⟨g, ofg + k * 7, none⟩ = some (.int .i64 e.term) ∧ V.cell? ⟨g, ofg + k * 7 + 1, none⟩ = some (.int .u8 e.kind) ∧ V.cell? ⟨g, ofg + k * 7 + 2, none⟩ = some (.slice q.A q.n q.c) ∧ V.cell? ⟨g, ofg + k * 7 + 3, none⟩ = some (.slice q.s.A0 q.s.n0 q.s.c0) ∧ V.cell? ⟨g, ofg + k * 7 + 4, none⟩ = some (.slice q.s.A1 q.s.n1 q.s.c1) ∧ V.cell? ⟨g, ofg + k * 7 + 5, none⟩ = some (.slice q.s.A2 q.s.n2 q.s.c2) ∧ V.cell? ⟨g, ofg + k * 7 + 6, none⟩ = some (.slice q.s.A3 q.s.n3 q.s.c3)) := Lib.hid fun V k1 => ⟨k1.cell (hc 0 (by decide)), k1.cell (hc 1 (by decide)), k1.cell (hc 2 (by decide)), k1.cell (hc 3 (by decide)), k1.cell (hc 4 (by decide)), k1.cell (hc 5 (by decide)), k1.cell (hc 6 (by decide)), k1.cell (hq 0 (by decide)), k1.cell (hq 1 (by decide)), k1.cell (hq 2 (by decide)), k1.cell (hq 3 (by decide)), k1.cell (hq 4 (by decide)), k1.cell (hq 5 (by decide)), k1.cell (hq 6 (by decide))⟩
      clear hc hq hr hr2
      unfold ER.val ER.cells at HR
      have i0 : (0 : Int) ≤ (k : Int) := Int.natCast_nonneg _
      have i1 : (k : Int) < (n : Int) := by omega
      have ek : IntKind.i64.wrap ((k : Int) + 1) = (k : Int) + 1 := IntWalk.i64_in _ (by omega)
      have HLT : Hid (n - ((k : Int) + 1).toNat < n - (k : Int).toNat) := Lib.hid (by omega)
      go_upto_region 6 with fail
      go_region_held3 (fun w' => w'.cell? ⟨b, off + k * 7, none⟩ = some (.int .i64 e.term) ∧ w'.cell? ⟨b, off + k * 7 + 1, none⟩ = some (.int .u8 e.kind) ∧ w'.cell? ⟨b, off + k * 7 + 2, none⟩ = some (.slice r.A r.n r.c) ∧ w'.cell? ⟨b, off + k * 7 + 3, none⟩ = some (.slice r.s.A0 r.s.n0 r.s.c0) ∧ w'.cell? ⟨b, off + k * 7 + 4, none⟩ = some (.slice r.s.A1 r.s.n1 r.s.c1) ∧ w'.cell? ⟨b, off + k * 7 + 5, none⟩ = some (.slice r.s.A2 r.s.n2 r.s.c2) ∧ w'.cell? ⟨b, off + k * 7 + 6, none⟩ = some (.slice r.s.A3 r.s.n3 r.s.c3) ∧ w'.cell? ⟨g, ofg + k * 7, none⟩ = some (.int .i64 e.term) ∧ w'.cell? ⟨g, ofg + k * 7 + 1, none⟩ = some (.int .u8 e.kind) ∧ w'.cell? ⟨g, ofg + k * 7 + 2, none⟩ = some (.slice q.A q.n q.c) ∧ w'.cell? ⟨g, ofg + k * 7 + 3, none⟩ = some (.slice q.s.A0 q.s.n0 q.s.c0) ∧ w'.cell? ⟨g, ofg + k * 7 + 4, none⟩ = some (.slice q.s.A1 q.s.n1 q.s.c1) ∧ w'.cell? ⟨g, ofg + k * 7 + 5, none⟩ = some (.slice q.s.A2 q.s.n2 q.s.c2) ∧ w'.cell? ⟨g, ofg + k * 7 + 6, none⟩ = some (.slice q.s.A3 q.s.n3 q.s.c3))
        ((refine HS.out _ ?_; (repeat (first | (with_reducible exact Ok.refl _) | (with_reducible assumption) | (with_reducible refine Ok.drew ?_) | (with_reducible refine Ok.alloc ?_ _) | ((with_reducible apply Ok.trans); rotate_left; (with_reducible assumption)))); done))
        ((go_at_call 171; (with_reducible refine (HR.out _ ?_).mono ?_); (focus ((repeat (first | (with_reducible exact Ok.refl _) | (with_reducible assumption) | (with_reducible refine Ok.drew ?_) | (with_reducible refine Ok.alloc ?_ _) | ((with_reducible apply Ok.trans); rotate_left; (with_reducible assumption)))); done)); rintro _ w2 ⟨rfl, o2⟩))
      all_goals (go_wp2_with fail)
      exact ⟨⟨k + 1, hlt, rfl, HO.out.trans (by (repeat (first | (with_reducible exact Ok.refl _) | (with_reducible assumption) | (with_reducible refine Ok.drew ?_) | (with_reducible refine Ok.alloc ?_ _) | ((with_reducible apply Ok.trans); rotate_left; (with_reducible assumption)))); done)⟩, HLT.out⟩
    · have d1 : decide ((k : Int) < (n : Int)) = false := decide_eq_false (by omega)
      go_wp2_with fail
      go_ret
      exact ⟨rfl, HO.out⟩
end Go.Proofs.Ytolfdncmlfnbdaa
