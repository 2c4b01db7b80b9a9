/- The law FerryTells: what is lent. -/
import Derived.Test.YtolfdncmlfnbdaaJf
import Derived.Test.YtolfdncmlfnbdaaLm
import Derived.Test.YtolfdncmlfnbdaaIi
import Derived.Test.YtolfdncmlfnbdaaLj
import Derived.Test.YtolfdncmlfnbdaaKr
import Derived.Test.YtolfdncmlfnbdaaLa
namespace Go.Proofs.Ytolfdncmlfnbdaa
open Go.RowKit

/-- What the program's own filling, and the document's, tell: refused, or the same piece. -/
def FillB (x : Lt) (m : Im) : Bool := (x.kind != 5) || ((x.bi != m.bi) || ((x.bt != m.bt) || (decide (x.at_ < 0) || decide ((m.bytes.length : Int) < x.at_))))
structure FillA (W : World) (x : Lt) (m : Im) (r2 : LR) (y : Lt) (b : Bool) (w : World) : Prop where
  no : FillB x m = true → b = false ∧ y = lt0
  yes : FillB x m = false → b = true ∧ y = fillL x m x.at_.toNat
  nil : y.es = [] ∧ r2.eA = none ∧ r2.ec = 0
  cfg : CfgN w W.heap.size r2.s y.cfg
  bytes : OwnN w W.heap.size (.slice r2.bA r2.bn r2.bc) y.bytes
  ok : Ok W w
def FillQ (W : World) (x : Lt) (m : Im) (e : Ending) (w : World) : Prop := ∃ (r2 : LR) (y : Lt) (b : Bool), e = .returned (.tuple #[r2.val y, .bool b]) ∧ FillA W x m r2 y b w
theorem fineOf {c : Cfg} (h : cfgL c ≤ 100) : Fine c := by
  unfold cfgL at h
  exact ⟨by omega, by omega, by omega, by omega⟩
theorem fillB_no {x : Lt} {m : Im} (h : FillB x m = true) : (x.kind != 5) = true ∨ (x.bi != m.bi) = true ∨ (x.bt != m.bt) = true ∨ x.at_ < 0 ∨ (m.bytes.length : Int) < x.at_ := by
  unfold FillB at h
  simp only [Bool.or_eq_true, decide_eq_true_eq] at h
  exact h
theorem fillB_yes {x : Lt} {m : Im} (h : FillB x m = false) : (x.kind != 5) = false ∧ (x.bi != m.bi) = false ∧ (x.bt != m.bt) = false ∧ 0 ≤ x.at_ ∧ x.at_ ≤ (m.bytes.length : Int) := by
  unfold FillB at h
  simp only [Bool.or_eq_false_iff, decide_eq_false_iff_not] at h
  exact ⟨h.1, h.2.1, h.2.2.1, by omega, by omega⟩
theorem own_m {w : World} {B : Nat} {v : Value} {xs : List Int} (h : OwnZ w B v xs) (hl : xs.length ≤ 100000) : OwnM w B v xs := ⟨h, hl⟩
theorem zero_is : zeroL = (LR.mk none 0 ⟨none, 0, 0, none, 0, 0, none, 0, 0, none, 0, 0⟩ none 0 0).val lt0 := rfl
theorem zero_ans (W : World) (x : Lt) (m : Im) (h : FillB x m = true) (e : Ending) (w : World) (k : RefP W e w) : FillQ W x m e w := by
  obtain ⟨rfl, hk⟩ := k
  refine ⟨_, lt0, false, by rw [zero_is], fun _ => ⟨rfl, rfl⟩, (fun k => by rw [h] at k; cases k), ⟨rfl, rfl, rfl⟩, ⟨⟨OwnZ.nil _ _, Nat.zero_le _⟩, ⟨OwnZ.nil _ _, Nat.zero_le _⟩, ⟨OwnZ.nil _ _, Nat.zero_le _⟩, ⟨OwnZ.nil _ _, Nat.zero_le _⟩⟩, OwnN.nil _ _, hk⟩
/-- The program's filling. -/
theorem fill_q (r : LR) (x : Lt) (q : IR) (m : Im) (W : World) (hm : ImAt W q m) (hf : Fine m.cfg) (hb : m.bytes.length ≤ 100000) : Calls Try.prog 67 #[r.val x, q.val m] W (FillQ W x m) := by
  have hn := (BytesIn.len' hm.bytes).1
  cases h : FillB x m with
  | true =>
    have h5 := fillB_no h
    rw [hn] at h5
    exact (fillNo_w r x q m W h5).mono fun e w k => zero_ans W x m h e w k
  | false =>
    obtain ⟨h0, h1, h2, h3, h4⟩ := fillB_yes h
    obtain ⟨a, ha⟩ : ∃ a : Nat, x.at_ = (a : Int) := ⟨x.at_.toNat, by omega⟩
    obtain ⟨ok, oi, ot⟩ : x.kind = 5 ∧ x.bi = m.bi ∧ x.bt = m.bt := ⟨by simpa using h0, by simpa using h1, by simpa using h2⟩
    have hc := CfgIn.parts hm.cfg
    have c := fill_f r x m.bi m.bt q.s m.cfg q.A q.n q.c a m.bytes W ⟨hc.1, hc.2.1, hc.2.2.1, hc.2.2.2⟩ hm.bytes (by omega) hb hf.1 hf.2.1 hf.2.2.1 hf.2.2.2
    have hv : r.val x = .agg #[.int .u8 5, .int .i64 x.group, .int .i64 x.from_, .int .i64 x.to_, .int .i64 x.term, .int .i64 x.index, .int .i64 x.logterm, .int .i64 x.commit, .bool x.ok, .slice r.eA x.es.length r.ec, .int .i64 m.bi, .int .i64 m.bt, .slice r.s.A0 r.s.n0 r.s.c0, .slice r.s.A1 r.s.n1 r.s.c1, .slice r.s.A2 r.s.n2 r.s.c2, .slice r.s.A3 r.s.n3 r.s.c3, .int .i64 x.size, .int .i64 (a : Int), .int .i64 x.tag, .slice r.bA r.bn r.bc] := by
      unfold LR.val LR.cells
      rw [ok, oi, ot, ha]
    rw [hv]
    refine c.mono fun e w ⟨s, A, cap, he, hcf, ho, hk⟩ => ⟨⟨none, 0, s, A, ((m.bytes.drop a).take 600).length, cap⟩, fillL x m a, true, ?_, (fun k => by rw [h] at k; cases k), (fun _ => ⟨rfl, by rw [ha]; rfl⟩), ⟨rfl, rfl, rfl⟩, ⟨own_m hcf.h0 hf.1, own_m hcf.h1 hf.2.1, own_m hcf.h2 hf.2.2.1, own_m hcf.h3 hf.2.2.2⟩, ho, hk⟩
    rw [he]
    rfl
/-- The document's. -/
theorem rfill_q (r : LR) (x : Lt) (q : IR) (m : Im) (W : World) (hl : LtAt W r x) (hs : LtLe x) (hm : ImAt W q m) (hf : Fine m.cfg) (hb : m.bytes.length ≤ 100000) : Calls Try.prog 68 #[r.val x, q.val m] W (FillQ W x m) := by
  have hn := (BytesIn.len' hm.bytes).1
  cases h : FillB x m with
  | true =>
    have h5 := fillB_no h
    rw [hn] at h5
    exact (refFillNo_w r x q m W hl hs h5).mono fun e w k => zero_ans W x m h e w k
  | false =>
    obtain ⟨h0, h1, h2, h3, h4⟩ := fillB_yes h
    obtain ⟨a, ha⟩ : ∃ a : Nat, x.at_ = (a : Int) := ⟨x.at_.toNat, by omega⟩
    refine (refFill_w r x q m a W hl hs hm hf hb h0 h1 h2 ha (by omega)).mono fun e w ⟨s, A, N, cap, he, hcf, ho, hk⟩ => ⟨_, fillL x m a, true, he, (fun k => by rw [h] at k; cases k), (fun _ => ⟨rfl, by rw [ha]; rfl⟩), ⟨rfl, rfl, rfl⟩, hcf, ho, hk⟩
end Go.Proofs.Ytolfdncmlfnbdaa
namespace Go.Proofs.Ytolfdncmlfnbdaa
open Go.RowKit

theorem Until.two {P : Program} {ops : Array Oper} {Q : Exit → Act → World → Prop} {md : Region.Mode} {S : World → Prop} {j i k : Nat} {oi ok : Oper} {n : Nat} {listed : Array Bool} {a : Act} {w : World} (hr : Region.ready md ops listed = [i, k]) (hoi : ops[i]? = some oi) (hok : ops[k]? = some ok)
    (h : ∀ K : Act → World → Prop, Shut (∀ a w, ((listed.setIfInBounds i true).getD j true = false → S w) → (((listed.setIfInBounds i true).getD j true = false → S w) → Until P md ops Q S j n (listed.setIfInBounds i true) a w) → K a w) →
      if Region.wanted oi (yielded ops a.tmps) = true then Oper.wp P oi a w K Q else K (a.put oi.dst undef) w)
    (h' : ∀ K : Act → World → Prop, Shut (∀ a w, ((listed.setIfInBounds k true).getD j true = false → S w) → (((listed.setIfInBounds k true).getD j true = false → S w) → Until P md ops Q S j n (listed.setIfInBounds k true) a w) → K a w) →
      if Region.wanted ok (yielded ops a.tmps) = true then Oper.wp P ok a w K Q else K (a.put ok.dst undef) w) : Until P md ops Q S j (n + 1) listed a w :=
  ⟨fun h0 => (by rw [hr] at h0; cases h0), fun m hm => by
    rw [hr] at hm
    rcases List.mem_cons.1 hm with rfl | hm
    · exact wpOp_step hoi (fun K' hK => h K' (fun a w hS hW => hK a w ⟨hS, hW hS⟩))
    · obtain rfl := List.mem_singleton.1 hm
      exact wpOp_step hok (fun K' hK => h' K' (fun a w hS hW => hK a w ⟨hS, hW hS⟩))⟩
theorem Until.three {P : Program} {ops : Array Oper} {Q : Exit → Act → World → Prop} {md : Region.Mode} {S : World → Prop} {j i k l : Nat} {oi ok ol : Oper} {n : Nat} {listed : Array Bool} {a : Act} {w : World} (hr : Region.ready md ops listed = [i, k, l]) (hoi : ops[i]? = some oi) (hok : ops[k]? = some ok) (hol : ops[l]? = some ol)
    (h : ∀ K : Act → World → Prop, Shut (∀ a w, ((listed.setIfInBounds i true).getD j true = false → S w) → (((listed.setIfInBounds i true).getD j true = false → S w) → Until P md ops Q S j n (listed.setIfInBounds i true) a w) → K a w) →
      if Region.wanted oi (yielded ops a.tmps) = true then Oper.wp P oi a w K Q else K (a.put oi.dst undef) w)
    (h' : ∀ K : Act → World → Prop, Shut (∀ a w, ((listed.setIfInBounds k true).getD j true = false → S w) → (((listed.setIfInBounds k true).getD j true = false → S w) → Until P md ops Q S j n (listed.setIfInBounds k true) a w) → K a w) →
      if Region.wanted ok (yielded ops a.tmps) = true then Oper.wp P ok a w K Q else K (a.put ok.dst undef) w)
    (h'' : ∀ K : Act → World → Prop, Shut (∀ a w, ((listed.setIfInBounds l true).getD j true = false → S w) → (((listed.setIfInBounds l true).getD j true = false → S w) → Until P md ops Q S j n (listed.setIfInBounds l true) a w) → K a w) →
      if Region.wanted ol (yielded ops a.tmps) = true then Oper.wp P ol a w K Q else K (a.put ol.dst undef) w) : Until P md ops Q S j (n + 1) listed a w :=
  ⟨fun h0 => (by rw [hr] at h0; cases h0), fun m hm => by
    rw [hr] at hm
    rcases List.mem_cons.1 hm with rfl | hm
    · exact wpOp_step hoi (fun K' hK => h K' (fun a w hS hW => hK a w ⟨hS, hW hS⟩))
    · rcases List.mem_cons.1 hm with rfl | hm
      · exact wpOp_step hok (fun K' hK => h' K' (fun a w hS hW => hK a w ⟨hS, hW hS⟩))
      · obtain rfl := List.mem_singleton.1 hm
        exact wpOp_step hol (fun K' hK => h'' K' (fun a w hS hW => hK a w ⟨hS, hW hS⟩))⟩
theorem fold20 (r : LR) (x : Lt) : List.foldl (fun (cs : Array Value) (x : Value × Nat) => cs.setIfInBounds x.snd x.fst) #[.int .u8 0, .int .i64 0, .int .i64 0, .int .i64 0, .int .i64 0, .int .i64 0, .int .i64 0, .int .i64 0, .bool false, .slice none 0 0, .int .i64 0, .int .i64 0, .slice none 0 0, .slice none 0 0, .slice none 0 0, .slice none 0 0, .int .i64 0, .int .i64 0, .int .i64 0, .slice none 0 0] (r.cells x).zipIdx = (r.cells x).toArray := by kernel_rfl
theorem info97 : (Try.prog.info? 97).map (·.size) = some 7 := by kernel_rfl
def IR.cells (q : IR) (m : Im) : List Value := [.int .i64 m.bi, .int .i64 m.bt, .slice q.s.A0 q.s.n0 q.s.c0, .slice q.s.A1 q.s.n1 q.s.c1, .slice q.s.A2 q.s.n2 q.s.c2, .slice q.s.A3 q.s.n3 q.s.c3, .slice q.A q.n q.c]
theorem IR.val_eq (q : IR) (m : Im) : q.val m = .agg (q.cells m).toArray := rfl
/-- A letter and an image, lent, in their variables. -/
structure LentR (W : World) (x : Lt) (m : Im) (g5 g6 : Nat) (ra : LR) (qa : IR) (w : World) : Prop where
  b5 : w.rangeAt g5 0 (ra.cells x)
  b6 : w.rangeAt g6 0 (qa.cells m)
  lt : LtL w W.heap.size ra x
  im : ImL w W.heap.size qa m
  ok : Ok W w
/-- The rows of entries, numbers and bytes stand. -/
def Ty (w w' : World) : Prop := ∀ (b : Nat) (cs : Array Value) (ty : Nat) (fz : Nat × Nat), w.heap[b]? = some (.cells cs ty fz) → (ty = 208 ∨ ty = 3 ∨ ty = 5) → w'.heap[b]? = some (.cells cs ty fz)
theorem own_T {w w' : World} {B e sz n : Nat} {v : Value} {xs : List Value} (h : w.ownsRow B e sz v n xs) (he : e = 208 ∨ e = 3 ∨ e = 5) (k : Ty w w') : w'.ownsRow B e sz v n xs := by
  refine ⟨h.1, ?_⟩
  rcases h.2 with h0 | ⟨b, cap, cur, rfl, hb, hh, hr⟩
  · exact .inl h0
  · exact .inr ⟨b, cap, cur, rfl, hb, k b cur e _ hh he, hr⟩
theorem LentO.T {w w' : World} {B : Nat} {E : Option Addr} {n k : Nat} {zs : List Int} (h : LentO w B E n k zs) (q : Ty w w') : LentO w' B E n k zs := by
  obtain ⟨g, h1, h2, h3, h4, h5, h6⟩ := h
  exact ⟨g, h1, h2, h3, h4, h5, own_T h6 (.inr (.inl rfl)) q⟩
theorem LentS.T {w w' : World} {B : Nat} {s : S4} {c : Cfg} (h : LentS w B s c) (q : Ty w w') : LentS w' B s c := ⟨h.h0.T q, h.h1.T q, h.h2.T q, h.h3.T q⟩
theorem LentB.T {w w' : World} {B : Nat} {E : Option Addr} {n k : Nat} {zs : List B8} (h : LentB w B E n k zs) (q : Ty w w') : LentB w' B E n k zs := by
  obtain ⟨g, h1, h2, h3, h4, h5, h6⟩ := h
  exact ⟨g, h1, h2, h3, h4, h5, own_T h6 (.inr (.inr rfl)) q⟩
theorem EnL.T {w w' : World} {B : Nat} {r : ER} {e : En} (h : EnL w B r e) (q : Ty w w') : EnL w' B r e := ⟨h.cmd.T q, h.cfg.T q⟩
theorem EntsL.T {w w' : World} {B : Nat} {A : Option Addr} {n c : Nat} {l : List En} (h : EntsL w B A n c l) (q : Ty w w') : EntsL w' B A n c l := by
  obtain ⟨g, ps, h1, h2, h3, h4, h5, h6, h7⟩ := h
  exact ⟨g, ps, h1, h2, h3, h4, h5, own_T h6 (.inl rfl) q, fun p hp => (h7 p hp).T q⟩
theorem LtL.T {w w' : World} {B : Nat} {r : LR} {x : Lt} (h : LtL w B r x) (q : Ty w w') : LtL w' B r x := ⟨h.es.T q, h.en, h.cfg.T q, h.bytes.T q⟩
theorem ImL.T {w w' : World} {B : Nat} {r : IR} {x : Im} (h : ImL w B r x) (q : Ty w w') : ImL w' B r x := ⟨h.cfg.T q, h.bytes.T q⟩
theorem sets_other (g : Nat) : ∀ (vs : List Value) (o : Nat) (w : World) (b : Nat), b ≠ g → (w.setCells g o vs).heap[b]? = w.heap[b]?
  | [], _, _, _, _ => rfl
  | v :: r, o, w, b, h => (sets_other g r (o + 1) _ b h).trans (heap_setCell_other w ⟨g, o, none⟩ b v h)
theorem Ty.sets {w : World} {g ty : Nat} {cs : Array Value} {fz : Nat × Nat} (h : w.heap[g]? = some (.cells cs ty fz)) (ht : ty ≠ 208 ∧ ty ≠ 3 ∧ ty ≠ 5) (o : Nat) (vs : List Value) : Ty w (w.setCells g o vs) := fun b cs' ty' fz' hb hy => by
  by_cases e : b = g
  · subst e
    rw [h] at hb
    simp only [Option.some.injEq, Obj.cells.injEq] at hb
    obtain ⟨-, rfl, -⟩ := hb
    omega
  · rw [sets_other g vs o w b e]; exact hb
theorem range_block {w w' : World} {b o : Nat} {cs : List Value} (h : w.rangeAt b o cs) (k : w'.heap[b]? = w.heap[b]?) : w'.rangeAt b o cs := fun j v hv => by
  rw [World.cell?_of_block (w := w) k]; exact h j v hv
theorem lentR_mk {W V : World} {x : Lt} {m : Im} {g5 g6 : Nat} {ra : LR} {qa : IR} {z5 z6 : Array Value} (h5 : V.heap[g5]? = some (.cells z5 95 (0, 0))) (n5 : z5.size = 20) (h6 : V.heap[g6]? = some (.cells z6 97 (0, 0))) (n6 : z6.size = 7) (hne : g5 ≠ g6)
    (hg : W.heap.size ≤ g5 ∧ W.heap.size ≤ g6) (hl : LtL V W.heap.size ra x) (hi : ImL V W.heap.size qa m) (hk : Ok W V) :
    V.there g5 0 20 ∧ (V.setCells g5 0 (ra.cells x)).there g6 0 7 ∧ LentR W x m g5 g6 ra qa ((V.setCells g5 0 (ra.cells x)).setCells g6 0 (qa.cells m)) := by
  have t5 : V.there g5 0 20 := there_raw h5 (by omega)
  have k6 : (V.setCells g5 0 (ra.cells x)).heap[g6]? = some (.cells z6 97 (0, 0)) := by rw [sets_other g5 _ _ _ _ (fun e => hne e.symm)]; exact h6
  have t6 : (V.setCells g5 0 (ra.cells x)).there g6 0 7 := there_raw k6 (by omega)
  have y5 : Ty V (V.setCells g5 0 (ra.cells x)) := Ty.sets h5 (by decide) _ _
  have y6 : Ty (V.setCells g5 0 (ra.cells x)) ((V.setCells g5 0 (ra.cells x)).setCells g6 0 (qa.cells m)) := Ty.sets k6 (by decide) _ _
  refine ⟨t5, t6, ?_, ?_, (hl.T y5).T y6, (hi.T y5).T y6, setCells_ok g6 W hg.2 _ 0 _ (setCells_ok g5 W hg.1 _ 0 _ hk)⟩
  · exact range_block (World.rangeAt_setCells_same V g5 0 (ra.cells x) t5) (sets_other g6 _ _ _ _ hne)
  · exact World.rangeAt_setCells_same _ g6 0 (qa.cells m) t6
theorem info97' (q : IR) (m : Im) : (Try.prog.info? 97).map (·.size) = some (q.cells m).length := info97
theorem ImL.at {w : World} {B : Nat} {q : IR} {m : Im} (h : ImL w B q m) : ImAt w q m := ⟨h.cfg.cfg, h.bytes.bytes⟩
theorem FillA.far {W w w' : World} {x : Lt} {m : Im} {r2 : LR} {y : Lt} {b : Bool} (h : FillA W x m r2 y b w) (k : Hi W.heap.size w w') (o : Ok W w') : FillA W x m r2 y b w' := ⟨h.no, h.yes, h.nil, h.cfg.hi k, h.bytes.hi k, o⟩
theorem FillA.len {W w : World} {x : Lt} {m : Im} {r2 : LR} {y : Lt} {b : Bool} (h : FillA W x m r2 y b w) : y.bytes.length ≤ 600 := by
  cases e : FillB x m with
  | true => rw [(h.no e).2]; exact Nat.zero_le _
  | false => rw [(h.yes e).2]; show ((m.bytes.drop _).take 600).length ≤ 600; rw [List.length_take]; omega
theorem FillA.at {W w : World} {x : Lt} {m : Im} {r2 : LR} {y : Lt} {b : Bool} (h : FillA W x m r2 y b w) : LtAt w r2 y := by
  obtain ⟨h0, h1, h2⟩ := h.nil
  refine ⟨by rw [h0]; exact Nat.zero_le _, fun j hj => ?_, fun _ => h2, h.cfg.cfg, h.bytes.bytes (by have := h.len; omega)⟩
  rw [h0] at hj
  exact absurd hj (Nat.not_lt_zero _)
theorem fill_eq {W W' w w' : World} {x : Lt} {m : Im} {r r' : LR} {y y' : Lt} {b b' : Bool} (h : FillA W x m r y b w) (k : FillA W' x m r' y' b' w') : b = b' ∧ y = y' := by
  cases e : FillB x m with
  | true => exact ⟨(h.no e).1.trans (k.no e).1.symm, (h.no e).2.trans (k.no e).2.symm⟩
  | false => exact ⟨(h.yes e).1.trans (k.yes e).1.symm, (h.yes e).2.trans (k.yes e).2.symm⟩
def FillV (W : World) (x : Lt) (m : Im) (e : Ending) (w : World) : Prop := ∃ (r2 : LR) (y : Lt) (b : Bool), e = .returned (.tuple #[.agg (r2.cells y).toArray, .bool b]) ∧ FillA W x m r2 y b w
theorem fill_v (r : LR) (x : Lt) (q : IR) (m : Im) (W : World) (hm : ImAt W q m) (hf : Fine m.cfg) (hb : m.bytes.length ≤ 100000) : Calls Try.prog 67 #[.agg (r.cells x).toArray, .agg (q.cells m).toArray] W (FillV W x m) := fill_q r x q m W hm hf hb
theorem rfill_v (r : LR) (x : Lt) (q : IR) (m : Im) (W : World) (hl : LtAt W r x) (hs : LtLe x) (hm : ImAt W q m) (hf : Fine m.cfg) (hb : m.bytes.length ≤ 100000) : Calls Try.prog 68 #[.agg (r.cells x).toArray, .agg (q.cells m).toArray] W (FillV W x m) := rfill_q r x q m W hl hs hm hf hb
theorem same_v (r q : LR) (x : Lt) (W : World) (h : LtAt W r x) (h2 : LtAt W q x) : Calls Try.prog 69 #[.agg (r.cells x).toArray, .agg (q.cells x).toArray] W (Ret W (.bool true)) := sameLetter_w r q x W h h2
theorem kept_v (B : Nat) (r q : LR) (x : Lt) (W : World) (h : LtL W B r x) (h2 : LtAt W q x) : Calls Try.prog 71 #[.agg (r.cells x).toArray, .agg (q.cells x).toArray] W (Ret W (.bool true)) := keptLetter_w B r q x W h h2
theorem keptI_v (B : Nat) (r q : IR) (x : Im) (W : World) (h : ImL W B r x) (h2 : ImAt W q x) : Calls Try.prog 72 #[.agg (r.cells x).toArray, .agg (q.cells x).toArray] W (Ret W (.bool true)) := keptImage_w B r q x W h h2
theorem over_v {W : World} {x : Lt} {m : Im} {b : Bool} (r : LR) (y : Lt) (B : Nat) (w : World) (h : FillA W x m r y b w) (hB : B ≤ w.heap.size) (hW : W.heap.size = B := by rfl) : Calls Try.prog 70 #[.agg (r.cells y).toArray] w fun e w' => e = .returned (.tuple #[]) ∧ Below B w w' := by
  subst hW
  have hl := h.bytes.len'
  exact (overLetter_w r y h.nil.1 h.nil.2.1 h.nil.2.2 W.heap.size w.heap.size w ⟨h.cfg.h0.rowV, h.cfg.h1.rowV, h.cfg.h2.rowV, h.cfg.h3.rowV⟩ (h.bytes.rowV (by have := h.len; omega)) hB (Nat.le_refl _)).mono fun e w' k => ⟨k.1, k.2.1⟩
theorem box_new (w : World) (z : Array Value) (hz : z.size = 20) (r : LR) (y : Lt) : (w.alloc (.cells z 95)).there w.heap.size 0 (r.cells y).toArray.size ∧ Ok w ((w.alloc (.cells z 95)).setCells w.heap.size 0 (r.cells y)) ∧ ((w.alloc (.cells z 95)).setCells w.heap.size 0 (r.cells y)).rangeAt w.heap.size 0 (r.cells y) := by
  have h : (w.alloc (.cells z 95)).there w.heap.size 0 20 := there_raw (heap_alloc_new w _) (by omega)
  exact ⟨h, setCells_ok w.heap.size w (Nat.le_refl _) _ 0 _ ((Ok.refl w).alloc _), World.rangeAt_setCells_same _ w.heap.size 0 (r.cells y) h⟩
theorem ok_le {w w' : World} (h : Ok w w') : w.heap.size ≤ w'.heap.size := Below.size h
theorem info95a (r : LR) (x : Lt) : (Try.prog.info? 95).map (·.size) = some (r.cells x).toArray.size := info95
theorem info97a (q : IR) (m : Im) : (Try.prog.info? 97).map (·.size) = some (q.cells m).toArray.size := info97
theorem cells_one7 (q : IR) (m : Im) : (q.cells m).toArray.all (·.oneCell') = true := by simp [IR.cells, Value.oneCell']
end Go.Proofs.Ytolfdncmlfnbdaa
