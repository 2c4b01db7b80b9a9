/- The law FerryTells, walked. -/
import Derived.Test.YtolfdncmlfnbdaaJf
import Derived.Test.YtolfdncmlfnbdaaLm
import Derived.Test.YtolfdncmlfnbdaaIi
import Derived.Test.YtolfdncmlfnbdaaLj
import Derived.Test.YtolfdncmlfnbdaaKr
namespace Go.Proofs.Ytolfdncmlfnbdaa
open Go.RowKit

/-- What the program's own filling, and the document's, tell: refused, or the same piece. -/
def FillB (x : Lt) (m : Im) : Bool := (x.kind != 5) || ((x.bi != m.bi) || ((x.bt != m.bt) || (decide (x.at_ < 0) || decide ((m.bytes.length : Int) < x.at_))))
structure FillA (W : World) (x : Lt) (m : Im) (r2 : LR) (y : Lt) (b : Bool) (w : World) : Prop where
  no : FillB x m = true → b = false ∧ y = lt0
  yes : FillB x m = false → b = true ∧ y = fillL x m x.at_.toNat
  nil : y.es = [] ∧ r2.eA = none ∧ r2.ec = 0
  cfg : CfgN w W.heap.size r2.s y.cfg
  bytes : OwnN w W.heap.size (.slice r2.bA r2.bn r2.bc) y.bytes
  ok : Ok W w
def FillQ (W : World) (x : Lt) (m : Im) (e : Ending) (w : World) : Prop := ∃ (r2 : LR) (y : Lt) (b : Bool), e = .returned (.tuple #[r2.val y, .bool b]) ∧ FillA W x m r2 y b w
theorem fineOf {c : Cfg} (h : cfgL c ≤ 100) : Fine c := by
  unfold cfgL at h
  exact ⟨by omega, by omega, by omega, by omega⟩
theorem fillB_no {x : Lt} {m : Im} (h : FillB x m = true) : (x.kind != 5) = true ∨ (x.bi != m.bi) = true ∨ (x.bt != m.bt) = true ∨ x.at_ < 0 ∨ (m.bytes.length : Int) < x.at_ := by
  unfold FillB at h
  simp only [Bool.or_eq_true, decide_eq_true_eq] at h
  exact h
theorem fillB_yes {x : Lt} {m : Im} (h : FillB x m = false) : (x.kind != 5) = false ∧ (x.bi != m.bi) = false ∧ (x.bt != m.bt) = false ∧ 0 ≤ x.at_ ∧ x.at_ ≤ (m.bytes.length : Int) := by
  unfold FillB at h
  simp only [Bool.or_eq_false_iff, decide_eq_false_iff_not] at h
  exact ⟨h.1, h.2.1, h.2.2.1, by omega, by omega⟩
theorem own_m {w : World} {B : Nat} {v : Value} {xs : List Int} (h : OwnZ w B v xs) (hl : xs.length ≤ 100000) : OwnM w B v xs := ⟨h, hl⟩
theorem zero_is : zeroL = (LR.mk none 0 ⟨none, 0, 0, none, 0, 0, none, 0, 0, none, 0, 0⟩ none 0 0).val lt0 := rfl
theorem zero_ans (W : World) (x : Lt) (m : Im) (h : FillB x m = true) (e : Ending) (w : World) (k : RefP W e w) : FillQ W x m e w := by
  obtain ⟨rfl, hk⟩ := k
  refine ⟨_, lt0, false, by rw [zero_is], fun _ => ⟨rfl, rfl⟩, (fun k => by rw [h] at k; cases k), ⟨rfl, rfl, rfl⟩, ⟨⟨OwnZ.nil _ _, Nat.zero_le _⟩, ⟨OwnZ.nil _ _, Nat.zero_le _⟩, ⟨OwnZ.nil _ _, Nat.zero_le _⟩, ⟨OwnZ.nil _ _, Nat.zero_le _⟩⟩, OwnN.nil _ _, hk⟩
/-- The program's filling. -/
theorem fill_q (r : LR) (x : Lt) (q : IR) (m : Im) (W : World) (hm : ImAt W q m) (hf : Fine m.cfg) (hb : m.bytes.length ≤ 100000) : Calls Try.prog 67 #[r.val x, q.val m] W (FillQ W x m) := by
  have hn := (BytesIn.len' hm.bytes).1
  cases h : FillB x m with
  | true =>
    have h5 := fillB_no h
    rw [hn] at h5
    exact (fillNo_w r x q m W h5).mono fun e w k => zero_ans W x m h e w k
  | false =>
    obtain ⟨h0, h1, h2, h3, h4⟩ := fillB_yes h
    obtain ⟨a, ha⟩ : ∃ a : Nat, x.at_ = (a : Int) := ⟨x.at_.toNat, by omega⟩
    obtain ⟨ok, oi, ot⟩ : x.kind = 5 ∧ x.bi = m.bi ∧ x.bt = m.bt := ⟨by simpa using h0, by simpa using h1, by simpa using h2⟩
    have hc := CfgIn.parts hm.cfg
    have c := fill_f r x m.bi m.bt q.s m.cfg q.A q.n q.c a m.bytes W ⟨hc.1, hc.2.1, hc.2.2.1, hc.2.2.2⟩ hm.bytes (by omega) hb hf.1 hf.2.1 hf.2.2.1 hf.2.2.2
    have hv : r.val x = .agg #[.int .u8 5, .int .i64 x.group, .int .i64 x.from_, .int .i64 x.to_, .int .i64 x.term, .int .i64 x.index, .int .i64 x.logterm, .int .i64 x.commit, .bool x.ok, .slice r.eA x.es.length r.ec, .int .i64 m.bi, .int .i64 m.bt, .slice r.s.A0 r.s.n0 r.s.c0, .slice r.s.A1 r.s.n1 r.s.c1, .slice r.s.A2 r.s.n2 r.s.c2, .slice r.s.A3 r.s.n3 r.s.c3, .int .i64 x.size, .int .i64 (a : Int), .int .i64 x.tag, .slice r.bA r.bn r.bc] := by
      unfold LR.val LR.cells
      rw [ok, oi, ot, ha]
    rw [hv]
    refine c.mono fun e w ⟨s, A, cap, he, hcf, ho, hk⟩ => ⟨⟨none, 0, s, A, ((m.bytes.drop a).take 600).length, cap⟩, fillL x m a, true, ?_, (fun k => by rw [h] at k; cases k), (fun _ => ⟨rfl, by rw [ha]; rfl⟩), ⟨rfl, rfl, rfl⟩, ⟨own_m hcf.h0 hf.1, own_m hcf.h1 hf.2.1, own_m hcf.h2 hf.2.2.1, own_m hcf.h3 hf.2.2.2⟩, ho, hk⟩
    rw [he]
    rfl
/-- The document's. -/
theorem rfill_q (r : LR) (x : Lt) (q : IR) (m : Im) (W : World) (hl : LtAt W r x) (hs : LtLe x) (hm : ImAt W q m) (hf : Fine m.cfg) (hb : m.bytes.length ≤ 100000) : Calls Try.prog 68 #[r.val x, q.val m] W (FillQ W x m) := by
  have hn := (BytesIn.len' hm.bytes).1
  cases h : FillB x m with
  | true =>
    have h5 := fillB_no h
    rw [hn] at h5
    exact (refFillNo_w r x q m W hl hs h5).mono fun e w k => zero_ans W x m h e w k
  | false =>
    obtain ⟨h0, h1, h2, h3, h4⟩ := fillB_yes h
    obtain ⟨a, ha⟩ : ∃ a : Nat, x.at_ = (a : Int) := ⟨x.at_.toNat, by omega⟩
    refine (refFill_w r x q m a W hl hs hm hf hb h0 h1 h2 ha (by omega)).mono fun e w ⟨s, A, N, cap, he, hcf, ho, hk⟩ => ⟨_, fillL x m a, true, he, (fun k => by rw [h] at k; cases k), (fun _ => ⟨rfl, by rw [ha]; rfl⟩), ⟨rfl, rfl, rfl⟩, hcf, ho, hk⟩
end Go.Proofs.Ytolfdncmlfnbdaa
