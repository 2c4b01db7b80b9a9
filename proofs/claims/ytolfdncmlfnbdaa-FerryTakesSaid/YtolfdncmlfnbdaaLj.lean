/- Letters that are too great. -/
import Derived.Test.YtolfdncmlfnbdaaIi
namespace Go.Proofs.Ytolfdncmlfnbdaa
open Go.RowKit

def cfgL (c : Cfg) : Nat := 1 + c.vs.length + c.os.length + c.ls.length + c.ws.length
def enL (e : En) : Nat := 1 + e.cmd.length / 8 + cfgL e.cfg
theorem InI.len5 {w : World} {A : Option Addr} {n c : Nat} {xs : List Int} (h : InI w (.slice A n c) xs) : xs.length = n ∧ n ≤ 17592186044416 := by
  obtain ⟨_, _, e, hm⟩ := h.form
  simp only [Value.slice.injEq] at e
  omega
theorem BytesIn.len' {w : World} {A : Option Addr} {n c : Nat} {xs : List B8} (h : BytesIn w (.slice A n c) xs) : xs.length = n ∧ n ≤ 140737488351232 := by
  obtain ⟨_, _, e, hm⟩ := h.form
  simp only [Value.slice.injEq] at e
  omega
set_option maxRecDepth 100000 in
set_option maxHeartbeats 4000000 in
theorem configOf_w (s : S4) (c : Cfg) (W : World) (h : CfgIn W s.v c) : Calls Try.prog 64 #[s.v] W (Ret W (.int .i64 (cfgL c : Int))) := by
  obtain ⟨h0, h1, h2, h3⟩ := h.parts
  have l0 := h0.len5
  have l1 := h1.len5
  have l2 := h2.len5
  have l3 := h3.len5
  have HE : Hid ((1 : Int) + s.n0 + s.n1 + s.n2 + s.n3 = (cfgL c : Int)) := Lib.hid (by unfold cfgL; omega)
  have b0 := l0.2
  have b1 := l1.2
  have b2 := l2.2
  have b3 := l3.2
  clear h h0 h1 h2 h3 l0 l1 l2 l3
  unfold S4.v
  have e1 : IntKind.i64.wrap ((1 : Int) + s.n0) = (1 : Int) + s.n0 := IntWalk.i64_in _ (by omega)
  have e2 : IntKind.i64.wrap ((1 : Int) + s.n0 + s.n1) = (1 : Int) + s.n0 + s.n1 := IntWalk.i64_in _ (by omega)
  have e3 : IntKind.i64.wrap ((1 : Int) + s.n0 + s.n1 + s.n2) = (1 : Int) + s.n0 + s.n1 + s.n2 := IntWalk.i64_in _ (by omega)
  have e4 : IntKind.i64.wrap ((1 : Int) + s.n0 + s.n1 + s.n2 + s.n3) = (1 : Int) + s.n0 + s.n1 + s.n2 + s.n3 := IntWalk.i64_in _ (by omega)
  go_enter Try.func64, Try.ntmps64
  go_wp2_with fail
  go_ret
  exact ⟨by rw [← HE.out]; rfl, (Ok.refl W).alloc _⟩
def EntN (l : List En) (w : World) (e : Ending) (w' : World) : Prop := ∃ v : Nat, e = .returned (.int .i64 (v : Int)) ∧ Ok w w' ∧ v ≤ 1000000000000000 ∧ (v ≤ 8000 → l.length ≤ 8000 ∧ ∀ j, j < l.length → enL (enA l j) ≤ 8000)
set_option maxRecDepth 100000 in
set_option maxHeartbeats 4000000 in
theorem entriesOf_w (A : Option Addr) (n c : Nat) (l : List En) (hn : l.length = n) (hn6 : n ≤ 17592186044416) (W : World) (h : EntsIn W A l) : Calls Try.prog 166 #[.slice A n c, .int .i64 8000] W (EntN l W) := by
  have HI := Lib.hid h
  have HN := Lib.hid hn
  clear h hn
  go_enter Try.func166, Try.ntmps166
  go_wp2_with fail
  go_loopw [5, 6] (fun s i wr => ∃ (k v : Nat), k ≤ n ∧ s = .int .i64 (v : Int) ∧ i = .int .i64 k ∧ k ≤ v ∧ v ≤ 900000000000000 ∧ (∀ j, j < k → enL (enA l j) ≤ v) ∧ Ok W wr) (fun _ i _ => n - (intOf i).toNat)
  case atStart => exact ⟨0, 0, Nat.zero_le _, rfl, rfl, Nat.le_refl _, Nat.zero_le _, fun j hj => absurd hj (Nat.not_lt_zero _), Ok.refl _⟩
  case round =>
    obtain ⟨k, v, hk, rfl, rfl, hkv, hv, hall, okr⟩ := hrel
    have HALL := Lib.hid hall
    have HO := Lib.hid okr
    clear hall okr
    by_cases hlt : k < n
    · have d1 : decide ((k : Int) < (n : Int)) = true := decide_eq_true (by omega)
      by_cases hm : v ≤ 8000
      · have d2 : decide ((v : Int) ≤ 8000) = true := decide_eq_true (by omega)
        have d2n : decide (v ≤ 8000) = true := decide_eq_true hm
        obtain ⟨b, off, r, rfl, hr, hc⟩ := HI.out.ok HO.out k (by rw [HN.out]; exact hlt)
        have HS : Hid (∀ V, Ok wr V → V.cell? ⟨b, off + k * 7 + 2, none⟩ = some (.slice r.A r.n r.c) ∧ V.cell? ⟨b, off + k * 7 + 3, none⟩ = some (.slice r.s.A0 r.s.n0 r.s.c0) ∧ V.cell? ⟨b, off + k * 7 + 4, none⟩ = some (.slice r.s.A1 r.s.n1 r.s.c1) ∧ V.cell? ⟨b, off + k * 7 + 5, none⟩ = some (.slice r.s.A2 r.s.n2 r.s.c2) ∧ V.cell? ⟨b, off + k * 7 + 6, none⟩ = some (.slice r.s.A3 r.s.n3 r.s.c3)) := Lib.hid fun V k1 => ⟨k1.cell (hc 2 (by decide)), k1.cell (hc 3 (by decide)), k1.cell (hc 4 (by decide)), k1.cell (hc 5 (by decide)), k1.cell (hc 6 (by decide))⟩
        have HC := Lib.hid (fun V (o : Ok wr V) => configOf_w r.s (enA l k).cfg V (o.cfg hr.cfg))
        obtain ⟨hrn, hb1⟩ := hr.cmd.len'
        obtain ⟨h0, h1, h2, h3⟩ := hr.cfg.parts
        have HV : Hid (enL (enA l k) = 1 + r.n / 8 + cfgL (enA l k).cfg) := Lib.hid (by unfold enL; rw [hrn])
        have hcb : cfgL (enA l k).cfg ≤ 100000000000000 := by
          have l0 := h0.len5
          have l1 := h1.len5
          have l2 := h2.len5
          have l3 := h3.len5
          unfold cfgL
          omega
        clear h0 h1 h2 h3 hr hc hrn
        generalize cfgL (enA l k).cfg = cn at *
        unfold S4.v at HC
        have i0 : (0 : Int) ≤ (k : Int) := Int.natCast_nonneg _
        have i1 : (k : Int) < (n : Int) := by omega
        have w1e : IntKind.i64.wrap ((v : Int) + 1) = (v : Int) + 1 := IntWalk.i64_in _ (by omega)
        have w2e : IntKind.i64.wrap ((r.n : Int) / 8) = (r.n : Int) / 8 := IntWalk.i64_in _ (by omega)
        have w3e : IntKind.i64.wrap ((v : Int) + 1 + (r.n : Int) / 8) = (v : Int) + 1 + (r.n : Int) / 8 := IntWalk.i64_in _ (by omega)
        have w4e : IntKind.i64.wrap ((v : Int) + 1 + (r.n : Int) / 8 + (cn : Int)) = (v : Int) + 1 + (r.n : Int) / 8 + (cn : Int) := IntWalk.i64_in _ (by omega)
        have ek : IntKind.i64.wrap ((k : Int) + 1) = (k : Int) + 1 := IntWalk.i64_in _ (by omega)
        have HLT : Hid (n - ((k : Int) + 1).toNat < n - (k : Int).toNat) := Lib.hid (by omega)
        have HEND : Hid (((v + 1 + r.n / 8 + cn : Nat) : Int) = (v : Int) + 1 + (r.n : Int) / 8 + (cn : Int) ∧ k + 1 ≤ v + 1 + r.n / 8 + cn ∧ v + 1 + r.n / 8 + cn ≤ 900000000000000) := Lib.hid ⟨by omega, by omega, by omega⟩
        go_upto_region 5 with fail
        go_region_held3 (fun w' => w'.cell? ⟨b, off + k * 7 + 2, none⟩ = some (.slice r.A r.n r.c) ∧ w'.cell? ⟨b, off + k * 7 + 3, none⟩ = some (.slice r.s.A0 r.s.n0 r.s.c0) ∧ w'.cell? ⟨b, off + k * 7 + 4, none⟩ = some (.slice r.s.A1 r.s.n1 r.s.c1) ∧ w'.cell? ⟨b, off + k * 7 + 5, none⟩ = some (.slice r.s.A2 r.s.n2 r.s.c2) ∧ w'.cell? ⟨b, off + k * 7 + 6, none⟩ = some (.slice r.s.A3 r.s.n3 r.s.c3))
          ((refine HS.out _ ?_; (repeat (first | (with_reducible exact Ok.refl _) | (with_reducible assumption) | (with_reducible refine Ok.drew ?_) | (with_reducible refine Ok.alloc ?_ _) | ((with_reducible apply Ok.trans); rotate_left; (with_reducible assumption)))); done))
          ((go_at_call 64; (with_reducible refine (HC.out _ ?_).mono ?_); (focus ((repeat (first | (with_reducible exact Ok.refl _) | (with_reducible assumption) | (with_reducible refine Ok.drew ?_) | (with_reducible refine Ok.alloc ?_ _) | ((with_reducible apply Ok.trans); rotate_left; (with_reducible assumption)))); done)); rintro _ w2 ⟨rfl, o2⟩))
        all_goals (go_wp2_with fail)
        refine ⟨⟨k + 1, v + 1 + r.n / 8 + cn, hlt, by rw [HEND.out.1], by go_num, HEND.out.2.1, HEND.out.2.2, fun j hj => ?_, HO.out.trans (by (repeat (first | (with_reducible exact Ok.refl _) | (with_reducible assumption) | (with_reducible refine Ok.drew ?_) | (with_reducible refine Ok.alloc ?_ _) | ((with_reducible apply Ok.trans); rotate_left; (with_reducible assumption)))); done)⟩, HLT.out⟩
        by_cases hjk : j < k
        · have := HALL.out j hjk; omega
        · obtain rfl : j = k := by omega
          rw [HV.out]; omega
      · have d2 : decide ((v : Int) ≤ 8000) = false := decide_eq_false (by omega)
        have d2n : decide (v ≤ 8000) = false := decide_eq_false hm
        go_wp2_with fail
        go_ret
        exact ⟨v, rfl, HO.out, by omega, fun h => absurd h hm⟩
    · have d1 : decide ((k : Int) < (n : Int)) = false := decide_eq_false (by omega)
      obtain rfl : k = n := by omega
      have HFIN : Hid (v ≤ 8000 → l.length ≤ 8000 ∧ ∀ j, j < l.length → enL (enA l j) ≤ 8000) := Lib.hid fun h => ⟨by rw [HN.out]; omega, fun j hj => Nat.le_trans (HALL.out j (by rw [HN.out] at hj; exact hj)) h⟩
      clear hlt hk
      go_wp2_with fail
      go_ret
      exact ⟨v, rfl, HO.out, by omega, HFIN.out⟩
end Go.Proofs.Ytolfdncmlfnbdaa
namespace Go.Proofs.Ytolfdncmlfnbdaa
open Go.RowKit

theorem EnLe.of {e : En} (h : enL e ≤ 8000) : EnLe e := by
  unfold enL cfgL at h
  exact ⟨by omega, by omega, by omega, by omega, by omega⟩
def LtS (x : Lt) : Prop := x.bytes.length / 8 ≤ 8000 ∧ cfgL x.cfg ≤ 8000 ∧ x.es.length ≤ 8000 ∧ ∀ j, j < x.es.length → enL (enA x.es j) ≤ 8000
theorem LtS.le {x : Lt} (h : LtS x) : LtLe x := by
  obtain ⟨h1, h2, h3, h4⟩ := h
  refine ⟨by omega, fun e he => ?_, ?_, by omega⟩
  · obtain ⟨j, hj, rfl⟩ := List.mem_iff_getElem.1 he
    have := h4 j hj
    have e2 : enA x.es j = x.es[j] := by simp [enA, List.getD, hj]
    rw [e2] at this
    exact EnLe.of this
  · unfold cfgL at h2
    exact ⟨by omega, by omega, by omega, by omega⟩
def LetP (x : Lt) (W : World) (e : Ending) (w' : World) : Prop := ∃ v : Nat, e = .returned (.int .i64 (v : Int)) ∧ Ok W w' ∧ (v ≤ 8000 → LtS x)
set_option maxRecDepth 100000 in
set_option maxHeartbeats 4000000 in
theorem letterOf_w (r : LR) (x : Lt) (W : World) (h : LtAt W r x) : Calls Try.prog 121 #[r.val x, .int .i64 8000] W (LetP x W) := by
  obtain ⟨hb, hb2⟩ := h.bytes.len'
  have HC := Lib.hid (fun V (o : Ok W V) => configOf_w r.s x.cfg V (o.cfg h.cfg))
  have HE := Lib.hid (fun V (o : Ok W V) => entriesOf_w r.eA x.es.length r.ec x.es rfl h.en6 V (h.es.ok o))
  obtain ⟨h0, h1, h2, h3⟩ := h.cfg.parts
  have hcb : cfgL x.cfg ≤ 100000000000000 := by
    have l0 := h0.len5
    have l1 := h1.len5
    have l2 := h2.len5
    have l3 := h3.len5
    unfold cfgL
    omega
  have HB := Lib.hid hb
  have HLS : Hid (∀ v : Nat, x.bytes.length / 8 ≤ 8000 → cfgL x.cfg ≤ 8000 → (x.es.length ≤ 8000 ∧ ∀ j, j < x.es.length → enL (enA x.es j) ≤ 8000) → LtS x) := Lib.hid fun _ a b c => ⟨a, b, c.1, c.2⟩
  clear h h0 h1 h2 h3 hb
  unfold LR.val
  have HX0 : Hid ((W.alloc (.cells (r.cells x).toArray 95)).heap[W.heap.size]? = some (.cells (r.cells x).toArray 95 (0, 0))) := Lib.hid (heap_alloc_new W _)
  have HO0 : Hid (Ok W (W.alloc (.cells (r.cells x).toArray 95))) := Lib.hid ((Ok.refl W).alloc _)
  go_enter Try.func121, Try.ntmps121
  go_upto_region 1 with fail
  generalize (W.alloc (.cells (r.cells x).toArray 95)) = w0 at *
  obtain ⟨g, hg⟩ : ∃ g, W.heap.size = g := ⟨_, rfl⟩
  rw [hg] at HX0 ⊢
  clear hg
  have HX := HX0
  have HS : Hid (∀ V, Ok w0 V → V.cell? ⟨g, 9, none⟩ = some (.slice r.eA x.es.length r.ec) ∧ V.cell? ⟨g, 12, none⟩ = some (.slice r.s.A0 r.s.n0 r.s.c0) ∧ V.cell? ⟨g, 13, none⟩ = some (.slice r.s.A1 r.s.n1 r.s.c1) ∧ V.cell? ⟨g, 14, none⟩ = some (.slice r.s.A2 r.s.n2 r.s.c2) ∧ V.cell? ⟨g, 15, none⟩ = some (.slice r.s.A3 r.s.n3 r.s.c3) ∧ V.cell? ⟨g, 19, none⟩ = some (.slice r.bA r.bn r.bc)) := Lib.hid fun V k1 => ⟨((cell_of_heap (blk_ok k1 HX.out) 9).trans rfl), ((cell_of_heap (blk_ok k1 HX.out) 12).trans rfl), ((cell_of_heap (blk_ok k1 HX.out) 13).trans rfl), ((cell_of_heap (blk_ok k1 HX.out) 14).trans rfl), ((cell_of_heap (blk_ok k1 HX.out) 15).trans rfl), ((cell_of_heap (blk_ok k1 HX.out) 19).trans rfl)⟩
  clear HX HX0
  have HO := HO0.out
  unfold S4.v at HC
  obtain ⟨cn, hcn⟩ : ∃ cn, cfgL x.cfg = cn := ⟨_, rfl⟩
  rw [hcn] at HC HLS hcb
  clear hcn
  have w2e : IntKind.i64.wrap ((r.bn : Int) / 8) = (r.bn : Int) / 8 := IntWalk.i64_in _ (by omega)
  have w1e : IntKind.i64.wrap ((1 : Int) + (r.bn : Int) / 8) = (1 : Int) + (r.bn : Int) / 8 := IntWalk.i64_in _ (by omega)
  have w3e : IntKind.i64.wrap ((1 : Int) + (r.bn : Int) / 8 + (cn : Int)) = (1 : Int) + (r.bn : Int) / 8 + (cn : Int) := IntWalk.i64_in _ (by omega)
  have w4e : ∀ v : Nat, v ≤ 1000000000000000 → IntKind.i64.wrap ((1 : Int) + (r.bn : Int) / 8 + (cn : Int) + (v : Int)) = ((1 + r.bn / 8 + cn + v : Nat) : Int) := fun v hv => by
    rw [IntWalk.i64_in _ (by omega)]; omega
  have HW4 := Lib.hid w4e
  clear w4e
  go_region_held3 (fun w' => w'.cell? ⟨g, 9, none⟩ = some (.slice r.eA x.es.length r.ec) ∧ w'.cell? ⟨g, 12, none⟩ = some (.slice r.s.A0 r.s.n0 r.s.c0) ∧ w'.cell? ⟨g, 13, none⟩ = some (.slice r.s.A1 r.s.n1 r.s.c1) ∧ w'.cell? ⟨g, 14, none⟩ = some (.slice r.s.A2 r.s.n2 r.s.c2) ∧ w'.cell? ⟨g, 15, none⟩ = some (.slice r.s.A3 r.s.n3 r.s.c3) ∧ w'.cell? ⟨g, 19, none⟩ = some (.slice r.bA r.bn r.bc))
    ((refine HS.out _ ?_; (repeat (first | (with_reducible exact Ok.refl _) | (with_reducible assumption) | (with_reducible refine Ok.drew ?_) | (with_reducible refine Ok.alloc ?_ _) | ((with_reducible apply Ok.trans); rotate_left; (with_reducible assumption)))); done))
    ((first
      | (go_at_call 64; (with_reducible refine (HC.out _ ?_).mono ?_); (focus ((repeat (first | (with_reducible exact Ok.refl _) | (with_reducible assumption) | (with_reducible refine Ok.drew ?_) | (with_reducible refine Ok.alloc ?_ _) | ((with_reducible apply Ok.trans); rotate_left; (with_reducible assumption)))); done)); rintro _ w2 ⟨rfl, o2⟩)
      | (go_at_call 166; (with_reducible refine (HE.out _ ?_).mono ?_); (focus ((repeat (first | (with_reducible exact Ok.refl _) | (with_reducible assumption) | (with_reducible refine Ok.drew ?_) | (with_reducible refine Ok.alloc ?_ _) | ((with_reducible apply Ok.trans); rotate_left; (with_reducible assumption)))); done)); rintro _ w3 ⟨v, rfl, o3, hv1, hv2⟩; have w4e := HW4.out v hv1)))
  all_goals (go_wp2_with fail)
  go_ret
  refine ⟨1 + r.bn / 8 + cn + v, ret_i64 (by omega), (by (repeat (first | (with_reducible exact Ok.refl _) | (with_reducible assumption) | (with_reducible refine Ok.drew ?_) | (with_reducible refine Ok.alloc ?_ _) | ((with_reducible apply Ok.trans); rotate_left; (with_reducible assumption)))); done), fun hle => HLS.out v ?_ ?_ (hv2 ?_)⟩
  · rw [HB.out]; omega
  · omega
  · omega
end Go.Proofs.Ytolfdncmlfnbdaa
namespace Go.Proofs.Ytolfdncmlfnbdaa
open Go.RowKit

def lt0 : Lt := ⟨0, 0, 0, 0, 0, 0, 0, 0, false, [], 0, 0, ⟨[], [], [], []⟩, 0, 0, 0, []⟩
def ltA (l : List Lt) (j : Nat) : Lt := l.getD j lt0
def LtsIn (w : World) (A : Option Addr) (l : List Lt) : Prop := ∀ j, j < l.length → ∃ b off r, A = some ⟨b, off, none⟩ ∧ LtAt w r (ltA l j) ∧ w.rangeAt b (off + j * 20) (r.cells (ltA l j))
theorem range_ok {w w' : World} {b o : Nat} {cs : List Value} (h : w.rangeAt b o cs) (k : Ok w w') : w'.rangeAt b o cs := fun j v hv => k.cell (h j v hv)
theorem LtsIn.ok {w w' : World} {A : Option Addr} {l : List Lt} (h : LtsIn w A l) (k : Ok w w') : LtsIn w' A l := fun j hj => by
  obtain ⟨b, off, r, e, h1, h2⟩ := h j hj
  exact ⟨b, off, r, e, h1.ok k, range_ok h2 k⟩
def GreatP (l : List Lt) (W : World) (e : Ending) (w' : World) : Prop := ∃ b, e = .returned (.bool b) ∧ Ok W w' ∧ (b = false → l.length ≤ 60 ∧ ∀ j, j < l.length → LtS (ltA l j))
set_option maxRecDepth 100000 in
set_option maxHeartbeats 4000000 in
theorem great_w (A : Option Addr) (n c : Nat) (l : List Lt) (hn : l.length = n) (hn6 : n ≤ 17592186044416) (W : World) (h : LtsIn W A l) : Calls Try.prog 63 #[.slice A n c] W (GreatP l W) := by
  have HI := Lib.hid h
  have HN := Lib.hid hn
  clear h hn
  go_enter Try.func63, Try.ntmps63
  go_wp2_with fail
  go_loopw [3] (fun i wr => ∃ k : Nat, k ≤ n ∧ k ≤ 61 ∧ i = .int .i64 k ∧ (∀ j, j < k → LtS (ltA l j)) ∧ Ok W wr) (fun i _ => n - (intOf i).toNat)
  case atStart => exact ⟨0, Nat.zero_le _, Nat.zero_le _, rfl, fun j hj => absurd hj (Nat.not_lt_zero _), Ok.refl _⟩
  case round =>
    obtain ⟨k, hk, hk61, rfl, hall, okr⟩ := hrel
    have HALL := Lib.hid hall
    have HO := Lib.hid okr
    clear hall okr
    by_cases hlt : k < n ∧ k < 61
    · have d1 : decide ((k : Int) < (n : Int)) = true := decide_eq_true (by omega)
      have d2 : decide ((k : Int) < 61) = true := decide_eq_true (by omega)
      have d2n : decide (k < 61) = true := decide_eq_true hlt.2
      obtain ⟨b, off, r, rfl, hr, hc⟩ := HI.out.ok HO.out k (by rw [HN.out]; exact hlt.1)
      have HRG := Lib.hid hc
      have HLT := Lib.hid (letterOf_w r (ltA l k) wr hr)
      have HIN : Hid ((Try.prog.info? 95).map (·.size) = some (r.cells (ltA l k)).length) := Lib.hid (by show _ = some 20; kernel_rfl)
      have i0 : (0 : Int) ≤ (k : Int) := Int.natCast_nonneg _
      have i1 : (k : Int) < (n : Int) := by omega
      have ek : IntKind.i64.wrap ((k : Int) + 1) = (k : Int) + 1 := IntWalk.i64_in _ (by omega)
      have HLK : Hid (k + 1 ≤ n ∧ k + 1 ≤ 61 ∧ n - ((k : Int) + 1).toNat < n - (k : Int).toNat) := Lib.hid (by omega)
      have HEQ : Hid (∀ j, j < k + 1 → j < k ∨ j = k) := Lib.hid (fun j hj => by omega)
      unfold LR.val at HLT
      generalize hx : ltA l k = x at *
      have HXE := Lib.hid hx
      clear hr hc hlt hk hk61 hx
      go_wp2_with (refine wpList_load_mid rfl 95 (.tmp 16) rfl b (off + k * 20) rfl (r.cells x) _ HRG.out Try.underlying95 rfl HIN.out ?_)
      (with_reducible refine HLT.out.mono ?_)
      rintro _ w2 ⟨v, rfl, o2, hv⟩
      have HV := Lib.hid hv
      have HO2 := Lib.hid (HO.out.trans o2)
      clear o2 hv HLT HRG HIN d1 d2 d2n
      by_cases hbig : 8000 < v
      · have d3 : decide ((v : Int) > 8000) = true := decide_eq_true (by omega)
        have d3n : decide (8000 < v) = true := decide_eq_true hbig
        go_wp2_with fail
        go_ret
        exact ⟨true, rfl, HO2.out, fun h => by cases h⟩
      · have d3 : decide ((v : Int) > 8000) = false := decide_eq_false (by omega)
        have d3n : decide (8000 < v) = false := decide_eq_false hbig
        have HLS := Lib.hid (HV.out (by omega))
        clear hbig
        go_wp2_with fail
        refine ⟨⟨k + 1, HLK.out.1, HLK.out.2.1, rfl, fun j hj => ?_, HO2.out⟩, HLK.out.2.2⟩
        rcases HEQ.out j hj with h | rfl
        · exact HALL.out j h
        · rw [HXE.out]; exact HLS.out
    · by_cases hkn : k < n
      · have d1 : decide ((k : Int) < (n : Int)) = true := decide_eq_true (by omega)
        have d2 : decide ((k : Int) < 61) = false := decide_eq_false (by omega)
        have d2n : decide (k < 61) = false := decide_eq_false (by omega)
        have d4 : decide ((n : Int) > 60) = true := decide_eq_true (by omega)
        have d4n : decide (60 < n) = true := decide_eq_true (by omega)
        go_wp2_with fail
        go_ret
        exact ⟨true, rfl, HO.out, fun h => by cases h⟩
      · have d1 : decide ((k : Int) < (n : Int)) = false := decide_eq_false (by omega)
        obtain rfl : k = n := by omega
        by_cases h60 : 60 < k
        · have d4 : decide ((k : Int) > 60) = true := decide_eq_true (by omega)
          have d4n : decide (60 < k) = true := decide_eq_true h60
          go_wp2_with fail
          go_ret
          exact ⟨true, rfl, HO.out, fun h => by cases h⟩
        · have d4 : decide ((k : Int) > 60) = false := decide_eq_false (by omega)
          have d4n : decide (60 < k) = false := decide_eq_false h60
          have HFIN : Hid (l.length ≤ 60 ∧ ∀ j, j < l.length → LtS (ltA l j)) := Lib.hid ⟨by rw [HN.out]; omega, fun j hj => HALL.out j (by rw [HN.out] at hj; exact hj)⟩
          clear h60 hlt hkn hk hk61
          go_wp2_with fail
          go_ret
          exact ⟨false, rfl, HO.out, fun _ => HFIN.out⟩
end Go.Proofs.Ytolfdncmlfnbdaa
