/- Lists of rows that lie apart are told to. -/
import Derived.Test.YtebhcadolnjplaaGreatYc
import Derived.Test.YtebhcadolnjplaaGreatTk
import Derived.Deep.OwnRows
import Derived.Lib.QuietBelow
import Derived.BigQuiet
import Derived.Test.YtebhcadolnjplaaGreatFa
import Derived.Deep.RegionHeld3
import Derived.Deep.DeepCutAuto
import Derived.Handy
import Derived.Maps.RangeWalk
namespace Go.Proofs.YtebhcadolnjplaaGreat
open Go.RowKit

def csL (k i : Nat) : List Value := [.string (markA k i).key, .string (markA k i).val]
theorem csL_len (k i : Nat) : (csL k i).length = 2 := rfl
theorem mkB_len (k n : Nat) : (mkL csL k n).length = n * 2 := mkL_len csL_len k n
theorem mkB_one (k n : Nat) : ∀ u ∈ mkL csL k n, u.oneCell' = true := fun u hu => by
  obtain ⟨i, _, h⟩ := List.mem_flatMap.1 hu
  simp only [csL, List.mem_cons, List.not_mem_nil, or_false] at h
  rcases h with rfl | rfl <;> rfl
/-- Where the lists stand that are looked at. -/
def LsAt (w : World) (A : Option Addr) (m : Nat) (vs : Nat → Value) : Prop := 0 < m → ∃ b off, A = some ⟨b, off, none⟩ ∧ (∀ j, j < m → w.cell? ⟨b, off + j, none⟩ = some (vs j)) ∧ ∀ j, j < m → (vs j).ownBlock ≠ some b
theorem LsAt.kv {W w : World} {A : Option Addr} {m : Nat} {vs : Nat → Value} (h : LsAt W A m vs) (k : Kv vs m W w) : LsAt w A m vs := fun h0 => by
  obtain ⟨b, off, e, hc, hn⟩ := h h0
  exact ⟨b, off, e, fun j hj => k.cell (hc j hj) hn, hn⟩
theorem own_slice {w : World} {e sz n : Nat} {v : Value} {xs : List Value} (h : w.ownsRow 0 e sz v n xs) : ∃ A c, v = .slice A n c ∧ (0 < n → ∃ g, A = some ⟨g, 0, none⟩) := by
  rcases own_form h with ⟨rfl, rfl⟩ | ⟨g, c, rfl⟩
  · exact ⟨none, 0, rfl, fun h => absurd h (Nat.lt_irrefl _)⟩
  · exact ⟨_, _, rfl, fun _ => ⟨g, rfl⟩⟩
/-- What the first part has marked: all lists ahead of k. -/
def C1 (ns : Nat → Nat) (C : Nat → List Value) (k j : Nat) : List Value := if j < k then mkL csL j (ns j) else C j
def C2 (ns : Nat → Nat) (C : Nat → List Value) (k i j : Nat) : List Value := if j = k then mkL csL k i ++ (C k).drop (i * 2) else C1 ns C k j
theorem C2_zero (ns : Nat → Nat) (C : Nat → List Value) (k j : Nat) : C2 ns C k 0 j = C1 ns C k j := by
  unfold C2
  split
  · rename_i h; subst h; simp [C1, mkL]
  · rfl
theorem C2_all (ns : Nat → Nat) (C : Nat → List Value) (k j : Nat) (h : (C k).length = ns k * 2) : C2 ns C k (ns k) j = C1 ns C (k + 1) j := by
  unfold C2 C1
  by_cases hj : j = k
  · subst hj
    rw [if_pos rfl, if_pos (Nat.lt_succ_self _), List.drop_of_length_le (by omega), List.append_nil]
  · rw [if_neg hj]
    by_cases hl : j < k
    · rw [if_pos hl, if_pos (by omega)]
    · rw [if_neg hl, if_neg (by omega)]
theorem set_two (xs ys : List Value) (q : Nat) (hq : q = xs.length) (a b a' b' : Value) : ((xs ++ a :: b :: ys).set q a').set (q + 1) b' = xs ++ a' :: b' :: ys := by
  subst hq
  rw [List.set_append_right _ _ (Nat.le_refl _), Nat.sub_self, List.set_cons_zero, List.set_append_right _ _ (by omega), Nat.add_sub_cancel_left, List.set_cons_succ, List.set_cons_zero]
theorem drop_two (C : List Value) (q : Nat) (h : q + 1 < C.length) : C.drop q = C[q]'(by omega) :: C[q + 1] :: C.drop (q + 2) := by
  rw [List.drop_eq_getElem_cons (by omega : q < C.length), List.drop_eq_getElem_cons h]
theorem C2_step (ns : Nat → Nat) (C : Nat → List Value) (k i j : Nat) (hi : i * 2 + 1 < (C k).length) : C2 ns C k (i + 1) j = if j = k then ((C2 ns C k i k).set (i * 2) (.string (markA k i).key)).set (i * 2 + 1) (.string (markA k i).val) else C2 ns C k i j := by
  unfold C2
  by_cases hj : j = k
  · subst hj
    rw [if_pos rfl, if_pos rfl, if_pos rfl, mkL_succ, drop_two (C j) (i * 2) hi, set_two _ _ _ (by rw [mkB_len])]
    have : (i + 1) * 2 = i * 2 + 2 := by omega
    rw [this]
    simp [csL]
  · rw [if_neg hj, if_neg hj, if_neg hj]
theorem Fl.store2 {e sz m : Nat} {vs : Nat → Value} {ns : Nat → Nat} {C : Nat → List Value} {gs : Nat → Value} {qs : Nat → Nat} {D : Nat → List Value} {w : World} (h : Fl e sz m vs ns C 0 gs qs D w) {k g n c : Nat} (hk : k < m) (hv : vs k = .slice (some ⟨g, 0, none⟩) n c) (hn : ns k = n) (q : Nat) (u v : Value) (C' : Nat → List Value) (hC : ∀ j, C' j = if j = k then ((C k).set q u).set (q + 1) v else C j) : Fl e sz m vs ns C' 0 gs qs D ((w.setCell ⟨g, q, none⟩ u).setCell ⟨g, q + 1, none⟩ v) := by
  have h1 := h.store hk hv hn q u (fun j => if j = k then (C k).set q u else C j) (fun _ => rfl)
  refine h1.store hk hv hn (q + 1) v C' (fun j => ?_)
  rw [hC]
  by_cases hj : j = k <;> simp [hj]
theorem Kv.store2 {m : Nat} {vs : Nat → Value} {W w : World} (h : Kv vs m W w) {k g : Nat} {n c : Nat} (hk : k < m) (hv : vs k = .slice (some ⟨g, 0, none⟩) n c) (q : Nat) (u v : Value) : Kv vs m W ((w.setCell ⟨g, q, none⟩ u).setCell ⟨g, q + 1, none⟩ v) := (h.store hk hv q u).store hk hv (q + 1) v
theorem cell_two_new (w : World) (x y : Value) (t : TypeId) : ∀ j u, [x, y][j]? = some u → (w.alloc (.cells #[x, y] t)).cell? ((⟨w.heap.size, 0, none⟩ : Addr).add j) = some u := by
  intro j u h
  rw [Addr.add_lit, World.cell?_alloc_at _ _ _ _ rfl, Nat.zero_add]
  simpa using h
theorem run_make2 (t e : TypeId) (i : TypeInfo) (z : Value) (zs : Array Value) (ht : Tryz.prog.underlying t = some (.slice e)) (hi : Tryz.prog.info? e = some i) (hz : i.zero = some z) (hsize : i.size = 2) (hz1 : z.cells = zs)
    (kl kc : IntKind) (n : Nat) (hbytes : i.bytes * n ≤ 281474976710656) (h63 : n ≤ 9223372036854775807) (w : World) :
    (Instr.makeSlice t (.int kl (n : Int)) (.int kc (n : Int))).run Tryz.prog w = .ok (.slice (some ⟨w.heap.size, 0, none⟩) n n) (w.alloc (.cells (madeCells zs (n * 2)) e)) := by
  have hb' : (i.bytes : Int) * (n : Int) ≤ 281474976710656 := by
    have h : ((i.bytes * n : Nat) : Int) ≤ 281474976710656 := by omega
    rwa [Int.natCast_mul] at h
  have hr := run_make (P := Tryz.prog) w t e i z ht hi hz kl kc n n (by omega) (Int.le_refl _) hb' (by omega)
  simp only [Int.toNat_natCast, hsize, hz1] at hr
  exact hr
theorem wpList_make2 (w : World) {ops : Array Oper} {rest : List Oper} {o : Oper} {a : Act} {Q : Exit → Act → World → Prop}
    (hg : o.guard = none) (l c : Operand) (t : TypeId) (hop : o.op = Op.makeSlice t l c)
    (e : TypeId) (i : TypeInfo) (z : Value) (zs : Array Value) (ht : Tryz.prog.underlying t = some (.slice e)) (hi : Tryz.prog.info? e = some i) (hz : i.zero = some z) (hsize : i.size = 2) (hz1 : z.cells = zs)
    (kl kc : IntKind) (n : Nat) (hl : a.eval l = .int kl (n : Int)) (hc : a.eval c = .int kc (n : Int)) (hbytes : i.bytes * n ≤ 281474976710656) (h63 : n ≤ 9223372036854775807)
    (hK : wpList Tryz.prog ops Q rest (a.put o.dst (.slice (some ⟨w.heap.size, 0, none⟩) n n)) (w.alloc (.cells (madeCells zs (n * 2)) e))) :
    wpList Tryz.prog ops Q (o :: rest) a w := by
  refine wpList_plain hg fun K hK' => ?_
  have hrun := run_make2 t e i z zs ht hi hz hsize hz1 kl kc n hbytes h63 w
  unfold Oper.wp
  simp [execOp, hop, hl, hc, hrun, Result.andThen]
  exact hK' _ _ hK
theorem Fl.same {e sz m : Nat} {vs : Nat → Value} {ns : Nat → Nat} {C C' : Nat → List Value} {K : Nat} {gs : Nat → Value} {qs : Nat → Nat} {D : Nat → List Value} {w : World} (h : Fl e sz m vs ns C K gs qs D w) (hC : ∀ j, C' j = C j) : Fl e sz m vs ns C' K gs qs D w := by
  obtain rfl : C' = C := funext hC
  exact h
/-- The row in which what has grown is laid. -/
def GRow (w : World) (q m K : Nat) (gs : Nat → Value) : Prop := ∃ gc : Array Value, w.heap[q]? = some (.cells gc 29 (0, 0)) ∧ gc.size = m ∧ ∀ j, j < K → gc[j]? = some (gs j)
theorem Fl.next2 {e sz m : Nat} {vs : Nat → Value} {ns : Nat → Nat} {C : Nat → List Value} {K : Nat} {gs : Nat → Value} {qs : Nat → Nat} {D : Nat → List Value} {w : World} (h : Fl e sz m vs ns C K gs qs D w) (hk : K < m) {g : Value} (hg : w.ownsRow 0 e sz g (qs K) (D K))
    (ha : ∀ j b, j < m → j ≠ K → Has vs K gs j b → g.ownBlock ≠ some b) : Fl e sz m vs ns C (K + 1) (fun j => if j = K then g else gs j) qs D w := by
  have := h.next hk hg ha
  have e1 : (fun j => if j = K then qs K else qs j) = qs := funext fun j => by split <;> simp_all
  have e2 : (fun j => if j = K then D K else D j) = D := funext fun j => by split <;> simp_all
  rwa [e1, e2] at this
theorem GRow.stays {w w' : World} {q m K : Nat} {gs : Nat → Value} (h : GRow w q m K gs) (k : w'.heap[q]? = w.heap[q]?) : GRow w' q m K gs := by
  obtain ⟨gc, h1, h2, h3⟩ := h
  exact ⟨gc, k.trans h1, h2, h3⟩
theorem GRow.lt {w : World} {q m K : Nat} {gs : Nat → Value} (h : GRow w q m K gs) : q < w.heap.size := by
  obtain ⟨gc, h1, _⟩ := h
  exact (Array.getElem?_eq_some_iff.1 h1).1
theorem GRow.ok {w w' : World} {q m K : Nat} {gs : Nat → Value} (h : GRow w q m K gs) (k : Ok w w') : GRow w' q m K gs := h.stays (k.block q h.lt)
theorem GRow.cell {w : World} {q m K : Nat} {gs : Nat → Value} (h : GRow w q m K gs) (j : Nat) (hj : j < K) : w.cell? ⟨q, j, none⟩ = some (gs j) := by
  obtain ⟨gc, h1, _, h3⟩ := h
  rw [cell_of_heap h1]; exact h3 j hj
theorem GRow.any {w : World} {q m K : Nat} {gs : Nat → Value} (h : GRow w q m K gs) (j : Nat) (hj : j < m) : (∃ x, w.cell? ⟨q, j, none⟩ = some x) ∧ w.frozen? ⟨q, j, none⟩ = false := by
  obtain ⟨gc, h1, h2, _⟩ := h
  refine ⟨⟨gc[j]'(by omega), ?_⟩, ?_⟩
  · rw [cell_of_heap h1]; exact Array.getElem?_eq_getElem (by omega)
  · simp [World.frozen?, h1]
theorem GRow.zero {w : World} {q m K : Nat} {gs gs' : Nat → Value} (h : GRow w q m K gs) : GRow w q m 0 gs' := by
  obtain ⟨gc, h1, h2, _⟩ := h
  exact ⟨gc, h1, h2, fun j hj => absurd hj (Nat.not_lt_zero _)⟩
theorem GRow.store {w : World} {q m K : Nat} {gs : Nat → Value} (h : GRow w q m K gs) (hK : K < m) (v : Value) : GRow (w.setCell ⟨q, K, none⟩ v) q m (K + 1) (fun j => if j = K then v else gs j) := by
  obtain ⟨gc, h1, h2, h3⟩ := h
  refine ⟨gc.setIfInBounds K v, heap_setCell_same w q K gc 29 v h1, by simpa using h2, fun j hj => ?_⟩
  by_cases hjK : j = K
  · subst hjK
    simp [h2, hK]
  · have e : (fun j => if j = K then v else gs j) j = gs j := if_neg hjK
    rw [e, Array.getElem?_setIfInBounds_ne (Ne.symm hjK)]
    exact h3 j (by omega)
/-- A list that is growing, beside the others. -/
structure Gw (m : Nat) (vs : Nat → Value) (ns : Nat → Nat) (q K : Nat) (gs : Nat → Value) (D : Nat → List Value) (W : World) (i : Nat) (xs : List Value) (g : Value) (w : World) : Prop where
  fl : Fl 48 2 m vs ns (fun j => mkL csL j (ns j)) K gs (fun j => ns j + 64) D w
  own : w.ownsRow 0 48 2 g (ns K + i) xs
  apart : ∀ j b, j < m → j ≠ K → Has vs K gs j b → g.ownBlock ≠ some b
  fr : ∀ b, g.ownBlock = some b → b < W.heap.size → (vs K).ownBlock = some b
  row : GRow w q m K gs
  kv : Kv vs m W w
  hk : K < m
section
variable {m : Nat} {vs : Nat → Value} {ns : Nat → Nat} {q K : Nat} {gs : Nat → Value} {D : Nat → List Value} {W : World} {i : Nat} {xs : List Value} {g : Value} {w w' : World}
theorem Gw.ok (h : Gw m vs ns q K gs D W i xs g w) (k : Ok w w') : Gw m vs ns q K gs D W i xs g w' :=
  ⟨h.fl.below k, own_stays h.own fun b hb => k.block b (h.own.lt b hb).2, h.apart, h.fr, h.row.ok k, h.kv.below k, h.hk⟩
theorem Gw.app (h : Gw m vs ns q K gs D W i xs g w) {v' : Value} {n : Nat} {ys : List Value} (h2 : w'.ownsRow 0 48 2 v' (ns K + i + n) ys) (hgr : w.grownBy w' g.ownBlock) (hat : v'.ownBlock = g.ownBlock ∨ v'.ownBlock = some w.heap.size)
    (hkeep : ∀ b k u zs, w.ownsRow b 48 2 u k zs → u.ownBlock = g.ownBlock → k ≤ ns K + i → w'.ownsRow b 48 2 u k zs) : Gw m vs ns q K gs D W (i + n) ys v' w' := by
  have h3 := h.fl.app h.hk (Nat.le_refl _) (Nat.le_add_right _ _) h.apart hgr hat hkeep
  obtain ⟨gc, hgc, _, _⟩ := h.row
  refine ⟨h3.1, by rw [← Nat.add_assoc]; exact h2, h3.2, fun b hb hw => ?_, h.row.stays (hgr.block q h.row.lt (fun e => own_ty h.own hgc (by decide) e.symm)), h.kv.app h.hk hgr h.fr, h.hk⟩
  rcases hat with e | e
  · exact h.fr b (by rw [← e]; exact hb) hw
  · rw [e] at hb
    have := h.kv.size
    simp only [Option.some.injEq] at hb
    omega
theorem Gw.done (h : Gw m vs ns q K gs D W 64 xs g w) (hxs : xs = D K) (hq : W.heap.size ≤ q) : Fl 48 2 m vs ns (fun j => mkL csL j (ns j)) (K + 1) (fun j => if j = K then g else gs j) (fun j => ns j + 64) D (w.setCell ⟨q, K, none⟩ g) ∧
    GRow (w.setCell ⟨q, K, none⟩ g) q m (K + 1) (fun j => if j = K then g else gs j) ∧ Kv vs m W (w.setCell ⟨q, K, none⟩ g) := by
  obtain ⟨gc, hgc, _, _⟩ := h.row
  subst hxs
  have h1 := h.fl.next2 h.hk h.own h.apart
  refine ⟨h1.stays fun j b hj hb => heap_setCell_other w ⟨q, K, none⟩ b g fun e => ?_, h.row.store h.hk g, h.kv.far q K g hq⟩
  have e2 : b = q := e
  subst e2
  exact h1.has_ty hj hgc (by decide) hb
/-- The list itself, before it has grown. -/
theorem Gw.start (h : Fl 48 2 m vs ns (fun j => mkL csL j (ns j)) K gs (fun j => ns j + 64) D w) (hk : K < m) (hr : GRow w q m K gs) (hv : Kv vs m W w) : Gw m vs ns q K gs D W 0 (mkL csL K (ns K)) (vs K) w :=
  ⟨h, h.own K hk, fun j b hj hjk hb e => hjk (h.sep j K b hj hk hb (.inl e)), fun _ hb _ => hb, hr, hv, hk⟩
end
theorem mark_q (k i : Nat) (hk : k ≤ 10000000) (hi : i ≤ 10000000) (w : World) (d : Nat) (os : Array Obj) : Calls Tryz.prog 53 #[.int .i64 (k : Int), .int .i64 (i : Int)] (Go.Sort.grow (redrawn w d) os) fun e w'' => e = .returned (.agg #[.string (markA k i).key, .string (markA k i).val]) ∧ ∃ q : Regrown, w'' = Go.Sort.grow (redrawn w q.d) q.os :=
  Calls.regrown_of (markA_w k i hk hi _)
theorem mkB_get (k n i : Nat) (h : i < n) : (mkL csL k n)[i * 2]? = some (.string (markA k i).key) ∧ (mkL csL k n)[i * 2 + 1]? = some (.string (markA k i).val) := by
  induction n with
  | zero => omega
  | succ n ih =>
    rw [mkL_succ]
    by_cases hi : i < n
    · rw [List.getElem?_append_left (by rw [mkB_len]; omega), List.getElem?_append_left (by rw [mkB_len]; omega)]; exact ih hi
    · obtain rfl : i = n := by omega
      rw [List.getElem?_append_right (by rw [mkB_len]; omega), List.getElem?_append_right (by rw [mkB_len]; omega), mkB_len, Nat.sub_self, Nat.add_sub_cancel_left]
      exact ⟨rfl, rfl⟩
/-- What is read of a list that has these cells. -/
theorem own_reads {w : World} {n : Nat} {v : Value} {xs : List Value} (h : w.ownsRow 0 48 2 v n xs) : ∃ A c, v = .slice A n c ∧ ∀ i, i < n → ∃ g, A = some ⟨g, 0, none⟩ ∧ w.cell? ⟨g, i * 2, none⟩ = xs[i * 2]? ∧ w.cell? ⟨g, i * 2 + 1, none⟩ = xs[i * 2 + 1]? := by
  rcases own_form h with ⟨rfl, rfl⟩ | ⟨g, c, rfl⟩
  · exact ⟨none, 0, rfl, fun i hi => absurd hi (Nat.not_lt_zero _)⟩
  · exact ⟨_, _, rfl, fun i hi => ⟨g, rfl, World.ownsRow.cellAt h (i * 2) (by omega), World.ownsRow.cellAt h (i * 2 + 1) (by omega)⟩⟩
/-- What each has grown to behind that: with other marks. -/
def D2 (ns : Nat → Nat) (m j : Nat) : List Value := mkL csL j (ns j) ++ mkL csL (j + m) 64
def z2 : Array Value := #[.string ⟨#[]⟩, .string ⟨#[]⟩]
theorem own_made (w : World) : (w.alloc (.cells (madeCells z2 (64 * 2)) 48)).ownsRow 0 48 2 (.slice (some ⟨w.heap.size, 0, none⟩) 64 64) 64 (madeCells z2 (64 * 2)).toList :=
  ⟨by rw [Array.length_toList, size_madeCells], .inr ⟨w.heap.size, 64, _, rfl, Nat.zero_le _, heap_alloc_new w _, Nat.le_refl _, by unfold maxLen; omega, by rw [size_madeCells], by rw [List.take_of_length_le (by rw [Array.length_toList, size_madeCells]; exact Nat.le_refl _)]⟩⟩
theorem take_set_next {ys : List Value} {i : Nat} (hi : i * 2 + 1 < ys.length) (x y : Value) : ((ys.set (i * 2) x).set (i * 2 + 1) y).take ((i + 1) * 2) = ys.take (i * 2) ++ [x, y] := by
  have e : ys = ys.take (i * 2) ++ ys.drop (i * 2) := (List.take_append_drop _ _).symm
  have hl : (ys.take (i * 2)).length = i * 2 := by rw [List.length_take]; omega
  have h2 : (i + 1) * 2 = (ys.take (i * 2)).length + 2 := by omega
  conv => lhs; rw [e]
  rw [drop_two ys (i * 2) hi, set_two _ _ _ hl.symm, h2, List.take_append, List.take_of_length_le (by omega)]
  simp [hl]
theorem info23 : (Tryz.prog.info? 29).map (fun i => (i.zero, i.size, i.bytes)) = some (some (.slice none 0 0), 1, 24) := by kernel_rfl
/-- What each has grown to at first: with marks that go on. -/
def D1 (ns : Nat → Nat) (j : Nat) : List Value := mkL csL j (ns j + 64)
set_option maxRecDepth 100000 in
set_option maxHeartbeats 2000000 in
theorem flatLines_w (A : Option Addr) (m c : Nat) (vs : Nat → Value) (ns : Nat → Nat) (C : Nat → List Value) (W : World) (hL : LsAt W A m vs) (hF : Fl 48 2 m vs ns C 0 vs ns C W) (hm : m ≤ 1000000) (hns : ∀ j, j < m → ns j ≤ 1000000) :
    Calls Tryz.prog 70 #[.slice A m c] W (fun e w' => e = .returned (.bool true) ∧ Kv vs m W w') := by
  have HL := Lib.hid hL
  have HM := Lib.hid hm
  have HNS := Lib.hid hns
  have HCL : Hid (∀ j, j < m → (C j).length = ns j * 2) := Lib.hid (fun j hj => (hF.own j hj).1)
  have HVS : Hid (∀ j, j < m → ∃ A c, vs j = .slice A (ns j) c ∧ (0 < ns j → ∃ g, A = some ⟨g, 0, none⟩)) := Lib.hid (fun j hj => own_slice (hF.own j hj))
  have HF := Lib.hid hF
  clear hL hF hm hns
  go_enter Tryz.func70, Tryz.ntmps70
  go_wp2_with fail
  go_loopw [3, 4] (fun v3 _ wr => ∃ k : Nat, k ≤ m ∧ v3 = .int .i64 k ∧ Fl 48 2 m vs ns (C1 ns C k) 0 vs ns C wr ∧ Kv vs m W wr) (fun v3 _ _ => m - (intOf v3).toNat)
  case atStart => exact ⟨0, Nat.zero_le _, rfl, HF.out.same (fun j => if_neg (Nat.not_lt_zero _)), Kv.refl _⟩
  case round =>
    obtain ⟨k, hk, rfl, hf, hkv⟩ := hrel
    have HF1 := Lib.hid hf
    have HKV := Lib.hid hkv
    clear hf hkv
    by_cases hlt : k < m
    · have d1 : decide ((k : Int) < (m : Int)) = true := decide_eq_true (by omega)
      obtain ⟨Ak, ck, hvk, hgk⟩ := HVS.out k hlt
      have HVK := Lib.hid hvk
      have HNK : Hid (ns k ≤ 1000000) := Lib.hid (HNS.out k hlt)
      have HCK : Hid ((C k).length = ns k * 2) := Lib.hid (HCL.out k hlt)
      obtain ⟨pb, po, rfl, hcell, -⟩ := HL.out (by omega)
      have hi0 : (0 : Int) ≤ (k : Int) := Int.natCast_nonneg _
      have hi1 : (k : Int) < (m : Int) := by omega
      have ek : IntKind.i64.wrap ((k : Int) + 1) = (k : Int) + 1 := IntWalk.i64_in _ (by have := HM.out; omega)
      have HLT : Hid (m - ((k : Int) + 1).toNat < m - (k : Int).toNat) := Lib.hid (by omega)
      have HGK := Lib.hid hgk
      clear hcell hvk hgk
      obtain ⟨nk, hnk⟩ : ∃ nk, ns k = nk := ⟨_, rfl⟩
      rw [hnk] at HVK HNK HCK HGK
      have HNE := Lib.hid hnk
      clear hnk
      go_wp2_with fail
      go_loopw [4] (fun v4 w2 => ∃ i : Nat, i ≤ nk ∧ v4 = .int .i64 i ∧ Fl 48 2 m vs ns (C2 ns C k i) 0 vs ns C w2 ∧ Kv vs m W w2) (fun v4 _ => nk - (intOf v4).toNat)
      case atStart => exact ⟨0, Nat.zero_le _, rfl, HF1.out.same (C2_zero ns C k), HKV.out⟩
      case round =>
        obtain ⟨i, hi, rfl, hf, hkv⟩ := hrel
        have HF2 := Lib.hid hf
        have HKV2 := Lib.hid hkv
        clear hf hkv
        obtain ⟨w2, hw2⟩ : ∃ v, v = wr := ⟨_, rfl⟩
        subst hw2
        obtain ⟨pb', po', he, hcell, -⟩ := (HL.out.kv HKV2.out) (by omega)
        have x0 := hcell k hlt
        simp only [Option.some.injEq, Addr.mk.injEq, and_true] at he
        obtain ⟨rfl, rfl⟩ := he
        rw [HVK.out] at x0
        clear hcell
        by_cases hli : i < nk
        · have d2 : decide ((i : Int) < (nk : Int)) = true := decide_eq_true (by omega)
          obtain ⟨g, rfl⟩ := HGK.out (by omega)
          have i0 : (0 : Int) ≤ (i : Int) := Int.natCast_nonneg _
          have i1 : (i : Int) < (nk : Int) := by omega
          have HY : Hid ((w2.cell? ⟨g, i * 2, none⟩ = some ((C2 ns C k i k).getD (i * 2) undef) ∧ w2.frozen? ⟨g, i * 2, none⟩ = false) ∧ w2.cell? ⟨g, i * 2 + 1, none⟩ = some ((C2 ns C k i k).getD (i * 2 + 1) undef) ∧ w2.frozen? ⟨g, i * 2 + 1, none⟩ = false) := Lib.hid (by
            have h := HF2.out.own k hlt
            rw [HVK.out, HNE.out] at h
            have hl := h.1
            refine ⟨⟨?_, World.ownsRow.frozenAt h _⟩, ?_, World.ownsRow.frozenAt h _⟩
            · rw [World.ownsRow.cellAt h (i * 2) (by omega), List.getD_eq_getElem?_getD, List.getElem?_eq_getElem (by omega)]
              rfl
            · rw [World.ownsRow.cellAt h (i * 2 + 1) (by omega), List.getD_eq_getElem?_getD, List.getElem?_eq_getElem (by omega)]
              rfl)
          have ei : IntKind.i64.wrap ((i : Int) + 1) = (i : Int) + 1 := IntWalk.i64_in _ (by have := HNK.out; omega)
          have HLI : Hid (nk - ((i : Int) + 1).toNat < nk - (i : Int).toNat) := Lib.hid (by omega)
          generalize (C2 ns C k i k).getD (i * 2) undef = old at *
          generalize (C2 ns C k i k).getD (i * 2 + 1) undef = old2 at *
          go_upto_region 7 with fail
          rename_i K0 Q0 hK0
          have HK0 := Lib.hid hK0
          clear hK0
          refine Until.begin (S := fun V => V.cell? ⟨pb, po + k, none⟩ = some (.slice (some ⟨g, 0, none⟩) nk ck)) (j := 9) (by kernel_rfl) ?_ ?_
          · exact (Ok.refl w2).drew.cell x0
          intro hS
          have HD : Hid (Ok w2 w2.drew) := Lib.hid ((Ok.refl w2).drew)
          generalize w2.drew = V0 at *
          clear x0
          refine Until.take0 (i := 0) (v := ?v0) rfl (by kernel_rfl) (by kernel_rfl) (by kernel_rfl) (by kernel_rfl) (fun _ _ _ h => h) (Or.inl ⟨by rfl, ?hy0⟩) (fun _ => hS) ?rest0
          case hy0 => ((intro w hSw); clear hSw; go_simp; (try with_reducible rfl))
          try go_frame
          refine Until.take0 (i := 1) (v := ?v1) rfl (by kernel_rfl) (by kernel_rfl) (by kernel_rfl) (by kernel_rfl) (fun _ _ _ h => h) (Or.inl ⟨by rfl, ?hy1⟩) (fun _ => hS) ?rest1
          case hy1 => ((intro w hSw); clear hSw; go_simp; (try with_reducible rfl))
          try go_frame
          refine Until.take0 (i := 2) (v := ?v2) rfl (by kernel_rfl) (by kernel_rfl) (by kernel_rfl) (by kernel_rfl) (fun _ _ _ h => h) (Or.inl ⟨by rfl, ?hy2⟩) (fun _ => hS) ?rest2
          case hy2 => ((intro w hSw); clear hSw; go_simp; (try with_reducible rfl))
          try go_frame
          refine Until.take (i := 3) (v := ?v3) rfl (by kernel_rfl) (by kernel_rfl) (by kernel_rfl) (by kernel_rfl) (fun _ _ _ h => h) (Or.inl ⟨by rfl, ?hy3⟩) hS ?rest3
          case hy3 => ((intro w hSw; (try dsimp only at hSw)); have s0 := hSw; go_simp; (try with_reducible rfl))
          try go_frame
          refine Until.take0 (i := 4) (v := ?v4) rfl (by kernel_rfl) (by kernel_rfl) (by kernel_rfl) (by kernel_rfl) (fun _ _ _ h => h) (Or.inl ⟨by rfl, ?hy4⟩) (fun _ => hS) ?rest4
          case hy4 => ((intro w hSw); clear hSw; go_simp; (try with_reducible rfl))
          try go_frame
          refine Until.take0 (i := 5) (v := ?v5) rfl (by kernel_rfl) (by kernel_rfl) (by kernel_rfl) (by kernel_rfl) (fun _ _ _ h => h) (Or.inl ⟨by rfl, ?hy5⟩) (fun _ => hS) ?rest5
          case hy5 => ((intro w hSw); clear hSw; go_simp; (try with_reducible rfl))
          try go_frame
          refine Until.take0 (i := 6) (v := ?v6) rfl (by kernel_rfl) (by kernel_rfl) (by kernel_rfl) (by kernel_rfl) (fun _ _ _ h => h) (Or.inl ⟨by rfl, ?hy6⟩) (fun _ => hS) ?rest6
          case hy6 => ((intro w hSw); clear hSw; go_simp; (try with_reducible rfl))
          try go_frame
          refine Until.one (i := 7) (by kernel_rfl) rfl (fun K hK => ?_)
          have HK := Lib.hid hK
          clear hK
          go_simp
          refine (markA_w k i (by have := HM.out; omega) (by have := HNK.out; omega) V0).mono ?_
          rintro _ V1 ⟨rfl, o1⟩
          have hS2 := Ok.cell o1 hS
          have HD2 : Hid (Ok w2 V1) := Lib.hid (Ok.trans HD.out o1)
          have y0 := HD2.out.cell HY.out.1.1
          have y1 : V1.frozen? ⟨g, i * 2, none⟩ = false := (Below.frozen HD2.out (p := ⟨g, i * 2, none⟩) (World.block_lt_of_cell? _ _ HY.out.1.1)).trans HY.out.1.2
          have y2 := HD2.out.cell HY.out.2.1
          have y3 : V1.frozen? ⟨g, i * 2 + 1, none⟩ = false := (Below.frozen HD2.out (p := ⟨g, i * 2 + 1, none⟩) (World.block_lt_of_cell? _ _ HY.out.2.1)).trans HY.out.2.2
          clear o1
          refine HK.out.out _ _ (fun _ => hS2) (fun _ => ?_)
          clear hS
          have hS := hS2
          clear HK K
          try go_frame
          refine Until.take0 (i := 8) (v := ?v8) rfl (by kernel_rfl) (by kernel_rfl) (by kernel_rfl) (by kernel_rfl) (fun _ _ _ h => h) (Or.inl ⟨by rfl, ?hy8⟩) (fun _ => hS) ?rest8
          case hy8 => ((intro w hSw); clear hSw; go_simp; (try with_reducible rfl))
          try go_frame
          refine Until.one (i := 9) (by kernel_rfl) rfl (fun K hK => ?_)
          have HK := Lib.hid hK
          clear hK
          go_simp
          refine HK.out.out _ _ (fun h => absurd (h.symm.trans (by kernel_rfl : _ = true)) Bool.false_ne_true) (fun _ => ?_)
          clear HK K
          try go_frame
          refine Until.done (by kernel_rfl) ?_ _
          refine HK0.out _ _ ?_
          clear HK0
          have HF3 : Hid (Fl 48 2 m vs ns (C2 ns C k (i + 1)) 0 vs ns C ((V1.setCell ⟨g, i * 2, none⟩ (.string (markA k i).key)).setCell ⟨g, i * 2 + 1, none⟩ (.string (markA k i).val))) := Lib.hid (Fl.store2 (HF2.out.below HD2.out) hlt HVK.out HNE.out (i * 2) _ _ _ (fun j => C2_step ns C k i j (by rw [HCK.out]; omega)))
          have HKV3 : Hid (Kv vs m W ((V1.setCell ⟨g, i * 2, none⟩ (.string (markA k i).key)).setCell ⟨g, i * 2 + 1, none⟩ (.string (markA k i).val))) := Lib.hid (Kv.store2 (HKV2.out.below HD2.out) hlt HVK.out (i * 2) _ _)
          clear y0 y1 y2 y3 HY
          go_wp2_with fail
          exact ⟨⟨i + 1, hli, rfl, HF3.out, HKV3.out⟩, HLI.out⟩
        · have d2 : decide ((i : Int) < (nk : Int)) = false := decide_eq_false (by omega)
          obtain rfl : i = nk := by omega
          have HF3 : Hid (Fl 48 2 m vs ns (C1 ns C (k + 1)) 0 vs ns C w2) := Lib.hid (HF2.out.same (fun j => by rw [← HNE.out]; exact (C2_all ns C k j (by rw [HCK.out, HNE.out])).symm))
          go_wp2_with fail
          exact ⟨⟨k + 1, hlt, rfl, HF3.out, HKV2.out⟩, HLT.out⟩
    · have d1 : decide ((k : Int) < (m : Int)) = false := decide_eq_false (by omega)
      obtain rfl : k = m := by omega
      have HF2 : Hid (Fl 48 2 k vs ns (fun j => mkL csL j (ns j)) 0 vs ns C wr) := Lib.hid ⟨fun j hj => by
        have := HF1.out.own j hj
        unfold C1 at this
        rwa [if_pos hj] at this, fun j hj => absurd hj (Nat.not_lt_zero _), Nat.zero_le _, HF1.out.sep⟩
      clear HF1 HF HCL
      clear hlt hk
      obtain ⟨i0, hi, hz0, hz1, hz2⟩ := info_parts info23
      have HI := Lib.hid hi
      have HZ0 := Lib.hid hz0
      have HZ1 := Lib.hid hz1
      have HZ2 := Lib.hid hz2
      obtain ⟨i5, hi5, hy0, hy1, hy2⟩ := info_parts info105
      have HI5 := Lib.hid hi5
      have HY0 := Lib.hid hy0
      have HY1 := Lib.hid hy1
      have HY2 := Lib.hid hy2
      clear hi hz0 hz1 hz2 hi5 hy0 hy1 hy2
      have HGR : Hid (GRow (wr.alloc (.cells (madeCells #[.slice none 0 0] k) 29)) wr.heap.size k 0 vs) := Lib.hid ⟨_, heap_alloc_new wr _, size_madeCells _ _, fun j hj => absurd hj (Nat.not_lt_zero _)⟩
      have HF3 : Hid (Fl 48 2 k vs ns (fun j => mkL csL j (ns j)) 0 vs (fun j => ns j + 64) (D1 ns) (wr.alloc (.cells (madeCells #[.slice none 0 0] k) 29))) := Lib.hid ((HF2.out.drop _ _ _).below ((Ok.refl wr).alloc _))
      have HKV3 : Hid (Kv vs k W (wr.alloc (.cells (madeCells #[.slice none 0 0] k) 29))) := Lib.hid (HKV.out.below ((Ok.refl wr).alloc _))
      have HQ : Hid (W.heap.size ≤ wr.heap.size) := Lib.hid HKV.out.size
      clear HF2 HKV
      go_wp2_with (at_make; go_must (refine wpList_make_row _ rfl _ _ 44 rfl 29 i0 (.slice none 0 0) Tryz.underlying44 HI.out HZ0.out HZ1.out rfl .i64 .i64 k rfl rfl (by rw [HZ2.out]; have := HM.out; omega) (by have := HM.out; omega) ?_))
      clear d1
      generalize wr.alloc (.cells (madeCells #[.slice none 0 0] k) 29) = w3 at *
      generalize wr.heap.size = q at *
      go_loopw [6, 7, 8] (fun v6 _ _ wr => ∃ (k2 : Nat) (gs : Nat → Value), k2 ≤ k ∧ v6 = .int .i64 k2 ∧ Fl 48 2 k vs ns (fun j => mkL csL j (ns j)) k2 gs (fun j => ns j + 64) (D1 ns) wr ∧ GRow wr q k k2 gs ∧ Kv vs k W wr) (fun v6 _ _ _ => k - (intOf v6).toNat)
      case atStart => exact ⟨0, vs, Nat.zero_le _, rfl, HF3.out, HGR.out, HKV3.out⟩
      case round =>
        obtain ⟨k2, gs, hk2, rfl, hf, hgr, hkv⟩ := hrel
        have HF4 := Lib.hid hf
        have HGR4 := Lib.hid hgr
        have HKV4 := Lib.hid hkv
        clear hf hgr hkv HF3 HGR HKV3
        by_cases hlt : k2 < k
        · have d1 : decide ((k2 : Int) < (k : Int)) = true := decide_eq_true (by omega)
          have HGW : Hid (Gw k vs ns q k2 gs (D1 ns) W 0 (mkL csL k2 (ns k2)) (vs k2) wr) := Lib.hid (Gw.start HF4.out hlt HGR4.out HKV4.out)
          obtain ⟨Ak, ck, hvk, -⟩ := HVS.out k2 hlt
          have HVK := Lib.hid hvk
          have HNK : Hid (ns k2 ≤ 1000000) := Lib.hid (HNS.out k2 hlt)
          obtain ⟨pb, po, rfl, hcell, -⟩ := (HL.out.kv HKV4.out) (by omega)
          have x0 := hcell k2 hlt
          rw [hvk] at x0
          have i0' : (0 : Int) ≤ (k2 : Int) := Int.natCast_nonneg _
          have i1' : (k2 : Int) < (k : Int) := by omega
          have ek : IntKind.i64.wrap ((k2 : Int) + 1) = (k2 : Int) + 1 := IntWalk.i64_in _ (by have := HM.out; omega)
          have HLT : Hid (k - ((k2 : Int) + 1).toNat < k - (k2 : Int).toNat) := Lib.hid (by omega)
          clear hcell hvk HF4 HGR4 HKV4
          rw [HVK.out] at HGW
          obtain ⟨nk, hnk⟩ : ∃ nk, ns k2 = nk := ⟨_, rfl⟩
          rw [hnk] at x0 HVK HNK HGW
          have HNE := Lib.hid hnk
          clear hnk
          go_wp2_with fail
          clear x0
          go_loopw [7, 8] (fun v7 v8 w2 => ∃ i : Nat, i ≤ 64 ∧ v8 = .int .i64 i ∧ Gw k vs ns q k2 gs (D1 ns) W i (mkL csL k2 (nk + i)) v7 w2) (fun _ v8 _ => 64 - (intOf v8).toNat)
          case atStart => exact ⟨0, Nat.zero_le _, rfl, HGW.out⟩
          case round =>
            obtain ⟨i, hi, rfl, hgw⟩ := hrel
            obtain ⟨w2, hw2⟩ : ∃ v, v = wr := ⟨_, rfl⟩
            subst hw2
            have HG := Lib.hid hgw
            clear hgw HGW
            obtain ⟨pb', po', he, hcell, -⟩ := (HL.out.kv HG.out.kv) (by omega)
            have x0 := hcell k2 hlt
            simp only [Option.some.injEq, Addr.mk.injEq, and_true] at he
            obtain ⟨rfl, rfl⟩ := he
            rw [HVK.out] at x0
            clear hcell
            by_cases hli : i < 64
            · have d2 : decide ((i : Int) < 64) = true := decide_eq_true (by omega)
              have e1 : IntKind.i64.wrap ((nk : Int) + (i : Int)) = (nk : Int) + (i : Int) := IntWalk.i64_in _ (by have := HNK.out; omega)
              have ei : IntKind.i64.wrap ((i : Int) + 1) = (i : Int) + 1 := IntWalk.i64_in _ (by omega)
              have hmb := markA_w k2 (nk + i) (by have := HM.out; omega) (by have := HNK.out; omega) w2
              rw [Int.natCast_add] at hmb
              have HLI : Hid (64 - ((i : Int) + 1).toNat < 64 - (i : Int).toNat) := Lib.hid (by omega)
              have HMK : Hid (mkL csL k2 (nk + i) ++ [.string (markA k2 (nk + i)).key, .string (markA k2 (nk + i)).val] = mkL csL k2 (nk + (i + 1))) := Lib.hid (by rw [← Nat.add_assoc, mkL_succ]; rfl)
              have HML : Hid ((mkL csL k2 (nk + i)).length = (nk + i) * 2) := Lib.hid (mkB_len _ _)
              generalize (markA k2 (nk + i)).key = km at *
              generalize (markA k2 (nk + i)).val = vm at *
              go_wp2_with fail
              refine hmb.mono ?_
              clear hmb x0
              rintro _ V1 ⟨rfl, o1⟩
              have HGA : Hid (Gw k vs ns q k2 gs (D1 ns) W i (mkL csL k2 (nk + i)) u7 (V1.alloc (.cells #[.string km, .string vm] 48))) := Lib.hid (HG.out.ok (o1.alloc _))
              have HOW : Hid ((V1.alloc (.cells #[.string km, .string vm] 48)).ownsRow 0 48 2 u7 (nk + i) (mkL csL k2 (nk + i))) := Lib.hid (by have := HGA.out.own; rwa [HNE.out] at this)
              clear o1
              go_wp2_with (at_builtin; go_must (refine wpList_append_keep rfl (.tmp 57) (.tmp 67) 29 rfl 0 48 i5 (.agg #[.string ⟨#[]⟩, .string ⟨#[]⟩]) 2 32 Tryz.underlying29 HI5.out HY0.out HY1.out HY2.out rfl (by decide) u7 (nk + i) (mkL csL k2 (nk + i)) rfl HOW.out ⟨V1.heap.size, 0, none⟩ 1 1 [.string km, .string vm] rfl rfl (cell_two_new V1 _ _ 48) (fun u hu => by simp only [List.mem_cons, List.not_mem_nil, or_false] at hu; rcases hu with rfl | rfl <;> rfl) (by have := HNK.out; unfold maxLen; omega) (by have := HNK.out; omega) (Nat.zero_le _) ?_; intro v' w' h2 h3 h4 h5; have HAPP : Hid (Gw k vs ns q k2 gs (D1 ns) W (i + 1) (mkL csL k2 (nk + (i + 1))) v' w') := Lib.hid (HGA.out.app (n := 1) (by rw [HNE.out, ← HMK.out]; exact h2) h3 h4 (by rw [HNE.out]; exact h5)); clear h2 h3 h4 h5))
              exact ⟨⟨i + 1, hli, rfl, HAPP.out⟩, HLI.out⟩
            · have d2 : decide ((i : Int) < 64) = false := decide_eq_false (by omega)
              obtain rfl : i = 64 := by omega
              obtain ⟨⟨gx, g0⟩, gf⟩ := HG.out.row.any k2 hlt
              have HDN := Lib.hid (HG.out.done (by rw [D1, HNE.out]) HQ.out)
              obtain ⟨A7, c7, rfl, -⟩ := own_slice HG.out.own
              go_wp2_with fail
              exact ⟨⟨k2 + 1, _, hlt, rfl, HDN.out.1, HDN.out.2.1, HDN.out.2.2⟩, HLT.out⟩
        · have d1 : decide ((k2 : Int) < (k : Int)) = false := decide_eq_false (by omega)
          obtain rfl : k2 = k := by omega
          clear hlt hk2
          obtain ⟨w4, hw4⟩ : ∃ v, v = wr := ⟨_, rfl⟩
          subst hw4
          go_wp2_with fail
          clear d1
          go_loopw [9, 10] (fun v9 _ wr => ∃ j : Nat, j ≤ k2 ∧ v9 = .int .i64 j ∧ Ok w4 wr) (fun v9 _ _ => k2 - (intOf v9).toNat)
          case atStart => exact ⟨0, Nat.zero_le _, rfl, Ok.refl _⟩
          case round =>
            obtain ⟨j, hj, rfl, okr⟩ := hrel
            have HO := Lib.hid okr
            clear okr
            by_cases hlt : j < k2
            · have d1 : decide ((j : Int) < (k2 : Int)) = true := decide_eq_true (by omega)
              obtain ⟨Av, cv, hvk, hrv⟩ := own_reads (HF4.out.own j hlt)
              obtain ⟨Ag, cg, hgk, hrg⟩ := own_reads (HF4.out.grown j hlt)
              have HNK : Hid (ns j ≤ 1000000) := Lib.hid (HNS.out j hlt)
              obtain ⟨pb, po, rfl, hcell, -⟩ := (HL.out.kv HKV4.out) (by omega)
              have hx0 := hcell j hlt
              have hg0 := HGR4.out.cell j hlt
              rw [hvk] at hx0
              rw [hgk] at hg0
              have hrv2 : ∀ i, i < ns j → ∃ g, Av = some ⟨g, 0, none⟩ ∧ w4.cell? ⟨g, i * 2, none⟩ = some (.string (markA j i).key) ∧ w4.cell? ⟨g, i * 2 + 1, none⟩ = some (.string (markA j i).val) := fun i hi => by
                obtain ⟨g, e, h, h'⟩ := hrv i hi
                exact ⟨g, e, h.trans (mkB_get j _ i hi).1, h'.trans (mkB_get j _ i hi).2⟩
              have hrg2 : ∀ i, i < ns j + 64 → ∃ g, Ag = some ⟨g, 0, none⟩ ∧ w4.cell? ⟨g, i * 2, none⟩ = some (.string (markA j i).key) ∧ w4.cell? ⟨g, i * 2 + 1, none⟩ = some (.string (markA j i).val) := fun i hi => by
                obtain ⟨g, e, h, h'⟩ := hrg i hi
                exact ⟨g, e, h.trans (mkB_get j _ i hi).1, h'.trans (mkB_get j _ i hi).2⟩
              clear hvk hrv hgk hrg hcell
              obtain ⟨nk, hnk⟩ : ∃ nk, ns j = nk := ⟨_, rfl⟩
              rw [hnk] at hx0 HNK hrv2 hrg2
              have HX0 := Lib.hid hx0
              have HG0 : Hid (w4.cell? ⟨q, j, none⟩ = some (.slice Ag (nk + 64) cg)) := Lib.hid (by rw [← hnk]; exact hg0)
              have HRV := Lib.hid hrv2
              have HRG := Lib.hid hrg2
              clear hnk hx0 hg0 hrv2 hrg2
              obtain ⟨n64, hn64⟩ : ∃ n, nk + 64 = n := ⟨_, rfl⟩
              rw [hn64] at HG0 HRG
              have HN64 := Lib.hid hn64
              clear hn64
              have i0' : (0 : Int) ≤ (j : Int) := Int.natCast_nonneg _
              have i1' : (j : Int) < (k2 : Int) := by omega
              have ek : IntKind.i64.wrap ((j : Int) + 1) = (j : Int) + 1 := IntWalk.i64_in _ (by have := HM.out; omega)
              have HLT : Hid (k2 - ((j : Int) + 1).toNat < k2 - (j : Int).toNat) := Lib.hid (by omega)
              go_wp2_with fail
              go_loopw [10] (fun v10 w2 => ∃ i : Nat, i ≤ n64 ∧ v10 = .int .i64 i ∧ Ok w4 w2) (fun v10 _ => n64 - (intOf v10).toNat)
              case atStart => exact ⟨0, Nat.zero_le _, rfl, HO.out⟩
              case round =>
                obtain ⟨i, hi, rfl, okr⟩ := hrel
                obtain ⟨w5, hw5⟩ : ∃ v, v = wr := ⟨_, rfl⟩
                subst hw5
                have HO3 := Lib.hid okr
                clear okr
                have x0 := HO3.out.cell HX0.out
                have g0 := HO3.out.cell HG0.out
                by_cases hli : i < n64
                · have d2 : decide ((i : Int) < (n64 : Int)) = true := decide_eq_true (by omega)
                  obtain ⟨gg, rfl, hgc⟩ := HRG.out i hli
                  have g1 := HO3.out.cell hgc.1
                  have g2 := HO3.out.cell hgc.2
                  clear hgc
                  have j0 : (0 : Int) ≤ (i : Int) := Int.natCast_nonneg _
                  have j1 : (i : Int) < (n64 : Int) := by omega
                  have ei : IntKind.i64.wrap ((i : Int) + 1) = (i : Int) + 1 := IntWalk.i64_in _ (by have := HNK.out; have := HN64.out; omega)
                  have HLI : Hid (n64 - ((i : Int) + 1).toNat < n64 - (i : Int).toNat) := Lib.hid (by omega)
                  have q23 := fun d os => mark_q j i (by have := HM.out; omega) (by have := HNK.out; have := HN64.out; omega) w5 d os
                  by_cases hli2 : i < nk
                  · have d3 : decide ((i : Int) < (nk : Int)) = true := decide_eq_true (by omega)
                    obtain ⟨gv, rfl, hvc⟩ := HRV.out i hli2
                    have x1 := HO3.out.cell hvc.1
                    have x2 := HO3.out.cell hvc.2
                    clear hvc
                    have j2 : (i : Int) < (nk : Int) := by omega
                    have heq := fun w => eq105 (markA j i).key (markA j i).val w
                    generalize (markA j i).key = km at *
                    generalize (markA j i).val = vm at *
                    go_upto_region 24 with fail
                    have r0 := cell_regrown x0
                    have r1 := cell_regrown g0
                    have r2 := cell_regrown x1
                    have r5 := cell_regrown x2
                    have r3 := cell_regrown g1
                    have r4 := cell_regrown g2
                    clear x0 g0 x1 g1 x2 g2
                    refine wp_region_quiet_below (by kernel_rfl) (by kernel_rfl) ?_
                    refine HeldU.out ?_
                    repeat (
                      refine hqU_step (fun K hK => ?_)
                      go_simp
                      first
                        | (refine hK _ ?_; clear hK K)
                        | (apply Exists.intro
                           refine ⟨fun _ => ?_, hK _ ?_⟩
                           (with_reducible first
                             | exact q23 _ _)
                           clear hK K))
                    refine HeldU.mk (wpQuiet_nil ?_)
                    intro _ hw'
                    obtain ⟨⟨dq, osq⟩, hw''⟩ := hw'
                    subst hw''
                    have HO5 := Lib.hid (Ok.trans HO3.out (below_regrown w5 dq osq))
                    clear q23 r0 r1 r2 r3 r4 r5 heq
                    generalize Go.Sort.grow (redrawn w5 dq) osq = w6 at *
                    go_wp2_with fail
                    exact ⟨⟨i + 1, hli, rfl, HO5.out⟩, HLI.out⟩
                  · have d3 : decide ((i : Int) < (nk : Int)) = false := decide_eq_false (by omega)
                    have heq := fun w => eq105 (markA j i).key (markA j i).val w
                    generalize (markA j i).key = km at *
                    generalize (markA j i).val = vm at *
                    go_upto_region 24 with fail
                    have r0 := cell_regrown x0
                    have r1 := cell_regrown g0
                    have r3 := cell_regrown g1
                    have r4 := cell_regrown g2
                    clear x0 g0 g1 g2
                    refine wp_region_quiet_below (by kernel_rfl) (by kernel_rfl) ?_
                    refine HeldU.out ?_
                    repeat (
                      refine hqU_step (fun K hK => ?_)
                      go_simp
                      first
                        | (refine hK _ ?_; clear hK K)
                        | (apply Exists.intro
                           refine ⟨fun _ => ?_, hK _ ?_⟩
                           (with_reducible first
                             | exact q23 _ _)
                           clear hK K))
                    refine HeldU.mk (wpQuiet_nil ?_)
                    intro _ hw'
                    obtain ⟨⟨dq, osq⟩, hw''⟩ := hw'
                    subst hw''
                    have HO5 := Lib.hid (Ok.trans HO3.out (below_regrown w5 dq osq))
                    clear q23 r0 r1 r3 r4 heq
                    generalize Go.Sort.grow (redrawn w5 dq) osq = w6 at *
                    go_wp2_with fail
                    exact ⟨⟨i + 1, hli, rfl, HO5.out⟩, HLI.out⟩
                · have d2 : decide ((i : Int) < (n64 : Int)) = false := decide_eq_false (by omega)
                  obtain rfl : i = n64 := by omega
                  go_wp2_with fail
                  exact ⟨⟨j + 1, hlt, rfl, HO3.out⟩, HLT.out⟩
            · have d1 : decide ((j : Int) < (k2 : Int)) = false := decide_eq_false (by omega)
              obtain rfl : j = k2 := by omega
              clear hlt hj
              have HFA : Hid (Fl 48 2 j vs ns (fun j => mkL csL j (ns j)) 0 vs (fun j => ns j + 64) (D2 ns j) wr) := Lib.hid ((HF4.out.drop _ _ _).below HO.out)
              have HGA : Hid (GRow wr q j 0 vs) := Lib.hid (HGR4.out.ok HO.out).zero
              have HKA : Hid (Kv vs j W wr) := Lib.hid (HKV4.out.below HO.out)
              clear HF4 HGR4 HKV4 HO
              go_wp2_with fail
              clear d1
              go_loopw [11, 12, 13] (fun v11 _ _ wr => ∃ (k3 : Nat) (gs : Nat → Value), k3 ≤ j ∧ v11 = .int .i64 k3 ∧ Fl 48 2 j vs ns (fun j => mkL csL j (ns j)) k3 gs (fun j => ns j + 64) (D2 ns j) wr ∧ GRow wr q j k3 gs ∧ Kv vs j W wr) (fun v11 _ _ _ => j - (intOf v11).toNat)
              case atStart => exact ⟨0, vs, Nat.zero_le _, rfl, HFA.out, HGA.out, HKA.out⟩
              case round =>
                obtain ⟨k3, gs, hk3, rfl, hf, hgr, hkv⟩ := hrel
                obtain ⟨w7, hw7⟩ : ∃ v, v = wr := ⟨_, rfl⟩
                subst hw7
                have HF4 := Lib.hid hf
                have HGR4 := Lib.hid hgr
                have HKV4 := Lib.hid hkv
                clear hf hgr hkv HFA HGA HKA
                by_cases hlt : k3 < j
                · have d1 : decide ((k3 : Int) < (j : Int)) = true := decide_eq_true (by omega)
                  have HOW : Hid ((w7.alloc (.cells (madeCells z2 (64 * 2)) 48)).ownsRow 0 48 2 (.slice (some ⟨w7.heap.size, 0, none⟩) 64 64) 64 (madeCells z2 (64 * 2)).toList) := Lib.hid (own_made w7)
                  have HOA : Hid (Ok w7 (w7.alloc (.cells (madeCells z2 (64 * 2)) 48))) := Lib.hid ((Ok.refl w7).alloc _)
                  have i0' : (0 : Int) ≤ (k3 : Int) := Int.natCast_nonneg _
                  have i1' : (k3 : Int) < (j : Int) := by omega
                  have ek : IntKind.i64.wrap ((k3 : Int) + 1) = (k3 : Int) + 1 := IntWalk.i64_in _ (by have := HM.out; omega)
                  have em : IntKind.i64.wrap ((k3 : Int) + (j : Int)) = (k3 : Int) + (j : Int) := IntWalk.i64_in _ (by have := HM.out; omega)
                  have HLT : Hid (j - ((k3 : Int) + 1).toNat < j - (k3 : Int).toNat) := Lib.hid (by omega)
                  obtain ⟨z, hz⟩ : ∃ z, w7.heap.size = z := ⟨_, rfl⟩
                  have HZ := Lib.hid hz
                  rw [hz] at HOW
                  go_wp2_with (at_make; go_must (refine wpList_make2 _ rfl _ _ 29 rfl 48 i5 (.agg #[.string ⟨#[]⟩, .string ⟨#[]⟩]) z2 Tryz.underlying29 HI5.out HY0.out HY1.out rfl .i64 .i64 64 rfl rfl (by rw [HY2.out]; decide) (by decide) ?_))
                  clear hz
                  generalize w7.alloc (.cells (madeCells z2 (64 * 2)) 48) = w8 at *
                  go_loopw [13] (fun v13 w2 => ∃ (i : Nat) (ys : List Value), i ≤ 64 ∧ v13 = .int .i64 i ∧ w2.ownsRow 0 48 2 (.slice (some ⟨z, 0, none⟩) 64 64) 64 ys ∧ ys.take (i * 2) = mkL csL (k3 + j) i ∧ Ok w7 w2) (fun v13 _ => 64 - (intOf v13).toNat)
                  case atStart => exact ⟨0, _, Nat.zero_le _, rfl, HOW.out, rfl, HOA.out⟩
                  case round =>
                    obtain ⟨i, ys, hi, rfl, hown, hys, okr⟩ := hrel
                    obtain ⟨w9, hw9⟩ : ∃ v, v = wr := ⟨_, rfl⟩
                    subst hw9
                    have HW := Lib.hid hown
                    have HYS := Lib.hid hys
                    have HO3 := Lib.hid okr
                    have HYL : Hid (ys.length = 128) := Lib.hid hown.1
                    clear hown hys okr HOW HOA
                    by_cases hli : i < 64
                    · have d2 : decide ((i : Int) < 64) = true := decide_eq_true (by omega)
                      have j0 : (0 : Int) ≤ (i : Int) := Int.natCast_nonneg _
                      have j1 : (i : Int) < 64 := by omega
                      have ei : IntKind.i64.wrap ((i : Int) + 1) = (i : Int) + 1 := IntWalk.i64_in _ (by omega)
                      have HLI : Hid (64 - ((i : Int) + 1).toNat < 64 - (i : Int).toNat) := Lib.hid (by omega)
                      have hmb := markA_w (k3 + j) i (by have := HM.out; omega) (by omega) w9
                      rw [Int.natCast_add] at hmb
                      have HMS : Hid (mkL csL (k3 + j) (i + 1) = mkL csL (k3 + j) i ++ [.string (markA (k3 + j) i).key, .string (markA (k3 + j) i).val]) := Lib.hid (by rw [mkL_succ]; rfl)
                      generalize (markA (k3 + j) i).key = km at *
                      generalize (markA (k3 + j) i).val = vm at *
                      go_wp2_with fail
                      refine hmb.mono ?_
                      clear hmb
                      rintro _ V1 ⟨rfl, o1⟩
                      have HW2 : Hid (V1.ownsRow 0 48 2 (.slice (some ⟨z, 0, none⟩) 64 64) 64 ys) := Lib.hid (own_stays HW.out fun b hb => o1.block b (HW.out.lt b hb).2)
                      have y0 : V1.cell? ⟨z, i * 2, none⟩ = some (ys[i * 2]'(by rw [HYL.out]; omega)) := by
                        rw [World.ownsRow.cellAt HW2.out (i * 2) (by omega)]
                        exact List.getElem?_eq_getElem _
                      have y1 : V1.frozen? ⟨z, i * 2, none⟩ = false := World.ownsRow.frozenAt HW2.out (i * 2)
                      have y2 : V1.cell? ⟨z, i * 2 + 1, none⟩ = some (ys[i * 2 + 1]'(by rw [HYL.out]; omega)) := by
                        rw [World.ownsRow.cellAt HW2.out (i * 2 + 1) (by omega)]
                        exact List.getElem?_eq_getElem _
                      have y3 : V1.frozen? ⟨z, i * 2 + 1, none⟩ = false := World.ownsRow.frozenAt HW2.out (i * 2 + 1)
                      have HN2 : Hid (((V1.setCell ⟨z, i * 2, none⟩ (.string km)).setCell ⟨z, i * 2 + 1, none⟩ (.string vm)).ownsRow 0 48 2 (.slice (some ⟨z, 0, none⟩) 64 64) 64 ((ys.set (i * 2) (.string km)).set (i * 2 + 1) (.string vm)) ∧ ((ys.set (i * 2) (.string km)).set (i * 2 + 1) (.string vm)).take ((i + 1) * 2) = mkL csL (k3 + j) (i + 1) ∧ Ok w7 ((V1.setCell ⟨z, i * 2, none⟩ (.string km)).setCell ⟨z, i * 2 + 1, none⟩ (.string vm))) :=
                        Lib.hid ⟨(World.ownsRow.stored (World.ownsRow.stored HW2.out _ _).1 _ _).1, by rw [take_set_next (by rw [HYL.out]; omega), HYS.out, HMS.out], Below.setCell (Below.setCell (HO3.out.trans o1) (by rw [HZ.out]; exact Nat.le_refl _) _) (by rw [HZ.out]; exact Nat.le_refl _) _⟩
                      generalize ys[i * 2]'(by rw [HYL.out]; omega) = old at *
                      generalize ys[i * 2 + 1]'(by rw [HYL.out]; omega) = old2 at *
                      clear o1
                      go_wp2_with fail
                      exact ⟨⟨i + 1, _, hli, rfl, HN2.out.1, HN2.out.2.1, HN2.out.2.2⟩, HLI.out⟩
                    · have d2 : decide ((i : Int) < 64) = false := decide_eq_false (by omega)
                      obtain rfl : i = 64 := by omega
                      have HNW : Hid (ys = mkL csL (k3 + j) 64) := Lib.hid (by
                        have := HYS.out
                        rwa [List.take_of_length_le (by rw [HYL.out]; exact Nat.le_refl _)] at this)
                      have HGW : Hid (Gw j vs ns q k3 gs (D2 ns j) W 0 (mkL csL k3 (ns k3)) (vs k3) w9) := Lib.hid (Gw.ok (Gw.start HF4.out hlt HGR4.out HKV4.out) HO3.out)
                      obtain ⟨Ak, ck, hvk, -⟩ := HVS.out k3 hlt
                      obtain ⟨pb, po, rfl, hcell, -⟩ := (HL.out.kv HGW.out.kv) (by omega)
                      have x0 := hcell k3 hlt
                      rw [hvk] at x0 HGW
                      have HNK : Hid (ns k3 ≤ 1000000) := Lib.hid (HNS.out k3 hlt)
                      have HD2 : Hid (mkL csL k3 (ns k3) ++ ys = D2 ns j k3) := Lib.hid (by rw [HNW.out]; rfl)
                      have HON : Hid (∀ u ∈ ys, u.oneCell' = true) := Lib.hid (by rw [HNW.out]; exact mkB_one _ _)
                      clear hcell hvk HF4 HGR4 HKV4
                      obtain ⟨nk, hnk⟩ : ∃ nk, ns k3 = nk := ⟨_, rfl⟩
                      rw [hnk] at x0 HNK HGW HD2
                      have HNE := Lib.hid hnk
                      have HOG : Hid (w9.ownsRow 0 48 2 (.slice Ak nk ck) nk (mkL csL k3 nk)) := Lib.hid (by have := HGW.out.own; rwa [Nat.add_zero, hnk] at this)
                      clear hnk
                      go_upto_region 34 with fail
                      go_wp2_with (at_builtin; go_must (refine wpList_append_keep rfl (.tmp 148) (.tmp 149) 29 rfl 0 48 i5 (.agg #[.string ⟨#[]⟩, .string ⟨#[]⟩]) 2 32 Tryz.underlying29 HI5.out HY0.out HY1.out HY2.out rfl (by decide) (.slice Ak nk ck) nk (mkL csL k3 nk) rfl HOG.out ⟨z, 0, none⟩ 64 64 ys rfl (by rw [HYL.out]) (World.ownsRow.cells HW.out rfl) HON.out (by have := HNK.out; unfold maxLen; omega) (by have := HNK.out; omega) (Nat.zero_le _) ?_; intro v' w' h2 h3 h4 h5; have HAPP : Hid (Gw j vs ns q k3 gs (D2 ns j) W 64 (D2 ns j k3) v' w') := Lib.hid (HGW.out.app (n := 64) (by rw [HNE.out, ← HD2.out]; exact h2) h3 h4 (by rw [HNE.out]; exact h5)); obtain ⟨A7, c7, rfl, -⟩ := own_slice h2; clear h2 h3 h4 h5; obtain ⟨⟨gx, g0⟩, gf⟩ := HAPP.out.row.any k3 hlt; have HDN := Lib.hid (HAPP.out.done rfl HQ.out)))
                      exact ⟨⟨k3 + 1, _, hlt, rfl, HDN.out.1, HDN.out.2.1, HDN.out.2.2⟩, HLT.out⟩
                · have d1 : decide ((k3 : Int) < (j : Int)) = false := decide_eq_false (by omega)
                  obtain rfl : k3 = j := by omega
                  clear hlt hk3
                  go_wp2_with fail
                  clear d1
                  go_loopw [14, 15] (fun v9 _ wr => ∃ j : Nat, j ≤ k3 ∧ v9 = .int .i64 j ∧ Ok w7 wr) (fun v9 _ _ => k3 - (intOf v9).toNat)
                  case atStart => exact ⟨0, Nat.zero_le _, rfl, Ok.refl _⟩
                  case round =>
                    obtain ⟨j, hj, rfl, okr⟩ := hrel
                    have HO := Lib.hid okr
                    clear okr
                    by_cases hlt : j < k3
                    · have d1 : decide ((j : Int) < (k3 : Int)) = true := decide_eq_true (by omega)
                      obtain ⟨Av, cv, hvk, hrv⟩ := own_reads (HF4.out.own j hlt)
                      obtain ⟨Ag, cg, hgk, hrg⟩ := own_reads (HF4.out.grown j hlt)
                      have HNK : Hid (ns j ≤ 1000000) := Lib.hid (HNS.out j hlt)
                      obtain ⟨pb, po, rfl, hcell, -⟩ := (HL.out.kv HKV4.out) (by omega)
                      have hx0 := hcell j hlt
                      have hg0 := HGR4.out.cell j hlt
                      rw [hvk] at hx0
                      rw [hgk] at hg0
                      have hrv2 : ∀ i, i < ns j → ∃ g, Av = some ⟨g, 0, none⟩ ∧ w7.cell? ⟨g, i * 2, none⟩ = some (.string (markA j i).key) ∧ w7.cell? ⟨g, i * 2 + 1, none⟩ = some (.string (markA j i).val) := fun i hi => by
                        obtain ⟨g, e, h, h'⟩ := hrv i hi
                        exact ⟨g, e, h.trans (mkB_get j _ i hi).1, h'.trans (mkB_get j _ i hi).2⟩
                      have hrg2 : ∀ i, i < ns j → ∃ g, Ag = some ⟨g, 0, none⟩ ∧ w7.cell? ⟨g, i * 2, none⟩ = some (.string (markA j i).key) ∧ w7.cell? ⟨g, i * 2 + 1, none⟩ = some (.string (markA j i).val) := fun i hi => by
                        obtain ⟨g, e, h, h'⟩ := hrg i (by omega)
                        refine ⟨g, e, h.trans ?_, h'.trans ?_⟩
                        · unfold D2
                          rw [List.getElem?_append_left (by rw [mkB_len]; omega)]
                          exact (mkB_get j _ i hi).1
                        · unfold D2
                          rw [List.getElem?_append_left (by rw [mkB_len]; omega)]
                          exact (mkB_get j _ i hi).2
                      clear hvk hrv hgk hrg hcell
                      obtain ⟨nk, hnk⟩ : ∃ nk, ns j = nk := ⟨_, rfl⟩
                      rw [hnk] at hx0 HNK hrv2 hrg2
                      have HX0 := Lib.hid hx0
                      have HG0 : Hid (w7.cell? ⟨q, j, none⟩ = some (.slice Ag (nk + 64) cg)) := Lib.hid (by rw [← hnk]; exact hg0)
                      have HRV := Lib.hid hrv2
                      have HRG := Lib.hid hrg2
                      clear hnk hx0 hg0 hrv2 hrg2
                      obtain ⟨n64, hn64⟩ : ∃ n, nk + 64 = n := ⟨_, rfl⟩
                      rw [hn64] at HG0
                      have HN64 := Lib.hid hn64
                      clear hn64
                      have i0' : (0 : Int) ≤ (j : Int) := Int.natCast_nonneg _
                      have i1' : (j : Int) < (k3 : Int) := by omega
                      have ek : IntKind.i64.wrap ((j : Int) + 1) = (j : Int) + 1 := IntWalk.i64_in _ (by have := HM.out; omega)
                      have HLT : Hid (k3 - ((j : Int) + 1).toNat < k3 - (j : Int).toNat) := Lib.hid (by omega)
                      go_wp2_with fail
                      go_loopw [15] (fun v10 w2 => ∃ i : Nat, i ≤ nk ∧ v10 = .int .i64 i ∧ Ok w7 w2) (fun v10 _ => nk - (intOf v10).toNat)
                      case atStart => exact ⟨0, Nat.zero_le _, rfl, HO.out⟩
                      case round =>
                        obtain ⟨i, hi, rfl, okr⟩ := hrel
                        obtain ⟨w5, hw5⟩ : ∃ v, v = wr := ⟨_, rfl⟩
                        subst hw5
                        have HO3 := Lib.hid okr
                        clear okr
                        have x0 := HO3.out.cell HX0.out
                        have g0 := HO3.out.cell HG0.out
                        by_cases hli : i < nk
                        · have d2 : decide ((i : Int) < (nk : Int)) = true := decide_eq_true (by omega)
                          obtain ⟨gg, rfl, hgc⟩ := HRG.out i hli
                          have g1 := HO3.out.cell hgc.1
                          have g2 := HO3.out.cell hgc.2
                          clear hgc
                          obtain ⟨gv, rfl, hvc⟩ := HRV.out i hli
                          have x1 := HO3.out.cell hvc.1
                          have x2 := HO3.out.cell hvc.2
                          clear hvc
                          have j0 : (0 : Int) ≤ (i : Int) := Int.natCast_nonneg _
                          have j1 : (i : Int) < (nk : Int) := by omega
                          have j2 : (i : Int) < (n64 : Int) := by have := HN64.out; omega
                          have ei : IntKind.i64.wrap ((i : Int) + 1) = (i : Int) + 1 := IntWalk.i64_in _ (by have := HNK.out; omega)
                          have HLI : Hid (nk - ((i : Int) + 1).toNat < nk - (i : Int).toNat) := Lib.hid (by omega)
                          have q23 := fun d os => mark_q j i (by have := HM.out; omega) (by have := HNK.out; omega) w5 d os
                          have heq := fun w => eq105 (markA j i).key (markA j i).val w
                          generalize (markA j i).key = km at *
                          generalize (markA j i).val = vm at *
                          go_upto_region 41 with fail
                          have r0 := cell_regrown x0
                          have r1 := cell_regrown g0
                          have r2 := cell_regrown x1
                          have r5 := cell_regrown x2
                          have r3 := cell_regrown g1
                          have r4 := cell_regrown g2
                          clear x0 g0 x1 g1 x2 g2
                          refine wp_region_quiet_below (by kernel_rfl) (by kernel_rfl) ?_
                          refine HeldU.out ?_
                          repeat (
                            refine hqU_step (fun K hK => ?_)
                            go_simp
                            first
                              | (refine hK _ ?_; clear hK K)
                              | (apply Exists.intro
                                 refine ⟨fun _ => ?_, hK _ ?_⟩
                                 (with_reducible first
                                   | exact q23 _ _)
                                 clear hK K))
                          refine HeldU.mk (wpQuiet_nil ?_)
                          intro _ hw'
                          obtain ⟨⟨dq, osq⟩, hw''⟩ := hw'
                          subst hw''
                          have HO5 := Lib.hid (Ok.trans HO3.out (below_regrown w5 dq osq))
                          clear q23 r0 r1 r2 r3 r4 r5 heq
                          generalize Go.Sort.grow (redrawn w5 dq) osq = w6 at *
                          go_wp2_with fail
                          exact ⟨⟨i + 1, hli, rfl, HO5.out⟩, HLI.out⟩
                        · have d2 : decide ((i : Int) < (nk : Int)) = false := decide_eq_false (by omega)
                          obtain rfl : i = nk := by omega
                          go_wp2_with fail
                          exact ⟨⟨j + 1, hlt, rfl, HO3.out⟩, HLT.out⟩
                    · have d1 : decide ((j : Int) < (k3 : Int)) = false := decide_eq_false (by omega)
                      obtain rfl : j = k3 := by omega
                      clear hlt hj
                      go_wp2_with fail
                      go_ret
                      exact ⟨rfl, HKV4.out.below HO.out⟩
end Go.Proofs.YtebhcadolnjplaaGreat
