/- A piece, filled. -/
import Derived.Test.YtolfdncmlfnbdaaJb
import Derived.Deep.MidRow
import Derived.OrdersHeld
import Derived.Laws.ResultCell
namespace Go.Proofs.Ytolfdncmlfnbdaa
open Go.RowKit

theorem bytes_take {w : World} {A : Option Addr} {n c N : Nat} {xs : List B8} (h : BytesIn w (.slice A n c) xs) (hN : N ≤ xs.length) : BytesIn w (.slice A N c) (xs.take N) := by
  rcases h with ⟨rfl, A', c', e, hA⟩ | ⟨b, o, c', e, hn, hm, hc⟩
  · simp only [Value.slice.injEq] at e
    obtain ⟨rfl, rfl, rfl⟩ := e
    obtain rfl : N = 0 := by simpa using hN
    exact .inl ⟨rfl, _, _, rfl, hA⟩
  · simp only [Value.slice.injEq] at e
    obtain ⟨rfl, rfl, rfl⟩ := e
    refine .inr ⟨b, o, c, by rw [List.length_take, Nat.min_eq_left hN], by rw [List.length_take]; omega, by rw [List.length_take]; omega, fun i hi => ?_⟩
    rw [List.length_take, Nat.min_eq_left hN] at hi
    rw [hc i (by omega)]
    simp [hi]
theorem bytes_drop {w : World} {A : Option Addr} {n c N : Nat} {xs : List B8} (h : BytesIn w (.slice A n c) xs) (hN : N ≤ xs.length) : BytesIn w (.slice (if c = N then A else A.map (·.add N)) (n - N) (c - N)) (xs.drop N) := by
  rcases h with ⟨rfl, A', c', e, hA⟩ | ⟨b, o, c', e, hn, hm, hc⟩
  · simp only [Value.slice.injEq] at e
    obtain ⟨rfl, rfl, rfl⟩ := e
    obtain rfl : N = 0 := by simpa using hN
    refine .inl ⟨rfl, _, _, rfl, fun e => ?_⟩
    have : A = none := by
      split at e
      · exact e
      · simpa using e
    have := hA this
    omega
  · simp only [Value.slice.injEq] at e
    obtain ⟨rfl, rfl, rfl⟩ := e
    by_cases h0 : N = xs.length
    · refine .inl ⟨by simp [h0], (if c = N then some ⟨b, o, none⟩ else (some (⟨b, o, none⟩ : Addr)).map (·.add N)), c - N, by rw [h0]; simp, fun e => ?_⟩
      split at e <;> cases e
    · have hne : c ≠ N := by omega
      rw [if_neg hne]
      refine .inr ⟨b, o + N, c - N, by simp only [Option.map, Addr.add]; split <;> simp_all, by rw [List.length_drop]; omega, by rw [List.length_drop]; omega, fun i hi => ?_⟩
      rw [List.length_drop] at hi
      rw [show o + N + i = o + (N + i) from by omega, hc (N + i) (by omega)]
      simp


theorem info95 : (Try.prog.info? 95).map (·.size) = some 20 := by kernel_rfl
theorem there_new (w : World) (cs : Array Value) (t : TypeId) : (w.alloc (.cells cs t)).there w.heap.size 0 cs.size := fun j hj => by
  rw [Nat.zero_add]
  exact ⟨by rw [box_cell w cs t j _ (Array.getElem?_eq_getElem hj)]; rfl, by rw [World.frozen?, heap_alloc_new]; simp⟩
theorem range_new (w : World) (cs : List Value) (t : TypeId) : (w.alloc (.cells cs.toArray t)).rangeAt w.heap.size 0 cs := fun j v hv => by
  rw [Nat.zero_add]
  exact box_cell w _ t j v (by simpa using hv)
theorem Ok.sets {W : World} {b : Nat} (hb : W.heap.size ≤ b) : ∀ (vs : List Value) (o : Nat) (w : World), Ok W w → Ok W (w.setCells b o vs)
  | [], _, _, h => h
  | v :: r, o, _, h => Ok.sets hb r (o + 1) _ (Below.setCell (p := ⟨b, o, none⟩) h hb v)
theorem slice_ok {A : Option Addr} {n c : Nat} {xs : List B8} {W0 : World} (h : BytesIn W0 (.slice A n c) xs) : n = xs.length ∧ n ≤ c := by
  rcases h with ⟨rfl, A', c', eq, hA⟩ | ⟨b, o, c', eq, h1, h2, h3⟩
  · simp only [Value.slice.injEq] at eq
    exact ⟨by simp [eq.2.1], by omega⟩
  · simp only [Value.slice.injEq] at eq
    exact ⟨eq.2.1, by omega⟩
theorem slice_sub (A : Option Addr) (n c a e : Nat) (xs : List B8) (W0 : World) (h : BytesIn W0 (.slice A n c) xs) (hae : a ≤ e) (hen : e ≤ n) :
    ∃ A2, (∀ w, (Instr.slice 26 (.slice A n c) (some (.int .i64 (a : Int))) (some (.int .i64 (e : Int))) none).run Try.prog w = .ok (.slice A2 (e - a) (c - a)) w) ∧ BytesIn W0 (.slice A2 (e - a) (c - a)) ((xs.take e).drop a) := by
  have hn := slice_ok h
  have hb := bytes_drop (bytes_take h (N := e) (by omega)) (N := a) (by rw [List.length_take]; omega)
  refine ⟨_, fun w => ?_, hb⟩
  simp [go_sem, Instr.slice]
  rw [if_pos (show e ≤ c by omega), if_pos hae]
theorem slice_from (A : Option Addr) (n c a : Nat) (xs : List B8) (W0 : World) (h : BytesIn W0 (.slice A n c) xs) (hae : a ≤ n) :
    ∃ A2, (∀ w, (Instr.slice 26 (.slice A n c) (some (.int .i64 (a : Int))) none none).run Try.prog w = .ok (.slice A2 (n - a) (c - a)) w) ∧ BytesIn W0 (.slice A2 (n - a) (c - a)) (xs.drop a) := by
  have hn := slice_ok h
  have hb := bytes_drop h (N := a) (by omega)
  refine ⟨_, fun w => ?_, hb⟩
  simp [go_sem, Instr.slice]
  omega
theorem sets_own {b : Nat} : ∀ (vs : List Value) (o : Nat) (w : World) (base : Nat), b < base → (∀ {s : S4} {c : Cfg}, CfgOwn w base s c → CfgOwn (w.setCells b o vs) base s c) ∧ (∀ {v : Value} {xs : List B8}, OwnN w base v xs → OwnN (w.setCells b o vs) base v xs)
  | [], _, _, _, _ => ⟨id, id⟩
  | v :: r, o, _, base, hb => ⟨fun h => (sets_own r (o + 1) _ base hb).1 (h.set b o v hb), fun h => (sets_own r (o + 1) _ base hb).2 (h.set b o v hb)⟩
theorem rangeSix (w : World) (v0 v1 v2 v3 v4 v5 v6 : Value) (t : TypeId) : Six w.heap.size v0 v1 v2 v3 v4 v5 (w.alloc (.cells #[v0, v1, v2, v3, v4, v5, v6] t)) :=
  ⟨box_cell _ _ _ _ _ rfl, box_cell _ _ _ _ _ rfl, box_cell _ _ _ _ _ rfl, box_cell _ _ _ _ _ rfl, box_cell _ _ _ _ _ rfl, box_cell _ _ _ _ _ rfl, fun j => by rw [World.frozen?, heap_alloc_new]; simp⟩
theorem Ok.frozenNew (W : World) (cs : Array Value) (t : TypeId) {w' : World} (k : Ok (W.alloc (.cells cs t)) w') (j : Nat) : w'.frozen? ⟨W.heap.size, j, none⟩ = false := by
  rw [Below.frozen k (p := ⟨W.heap.size, j, none⟩) (by rw [World.size_alloc]; exact Nat.lt_succ_self _), World.frozen?, heap_alloc_new]; simp
theorem range_set {w : World} {b : Nat} {cs : List Value} (h : w.rangeAt b 0 cs) (k : Nat) (v : Value) (hk : k < cs.length) : (w.setCell ⟨b, k, none⟩ v).rangeAt b 0 (cs.set k v) := fun j u hu => by
  rw [Nat.zero_add]
  by_cases e : j = k
  · subst e
    have hc := h j _ (List.getElem?_eq_getElem hk)
    rw [Nat.zero_add] at hc
    rw [World.cell?_setCell_same _ _ _ hc, ← hu]
    simp [hk]
  · rw [List.getElem?_set_ne (fun h => e h.symm)] at hu
    have hc := h j u hu
    rw [Nat.zero_add] at hc
    rw [World.cell?_setCell_other _ _ _ _ (fun h => e (by simpa using h.symm))]
    exact hc

/-- What the filling reads. -/
def SF (g : Nat) (i t : Int) (s : S4) (A : Option Addr) (L c a : Nat) (w : World) : Prop :=
  (w.cell? ⟨g + 1, 0, none⟩ = some (.int .i64 i) ∧ w.cell? ⟨g + 1, 1, none⟩ = some (.int .i64 t) ∧ w.cell? ⟨g + 1, 2, none⟩ = some (.slice s.A0 s.n0 s.c0) ∧ w.cell? ⟨g + 1, 3, none⟩ = some (.slice s.A1 s.n1 s.c1) ∧ w.cell? ⟨g + 1, 4, none⟩ = some (.slice s.A2 s.n2 s.c2) ∧ w.cell? ⟨g + 1, 5, none⟩ = some (.slice s.A3 s.n3 s.c3)) ∧ w.cell? ⟨g + 1, 6, none⟩ = some (.slice A L c) ∧ w.cell? ⟨g, 17, none⟩ = some (.int .i64 (a : Int))
theorem there_ok {w w' : World} {b n : Nat} (h : w.there b 0 n) (k : Ok w w') : w'.there b 0 n := fun j hj => by
  obtain ⟨h1, h2⟩ := h j hj
  obtain ⟨u, hu⟩ := Option.isSome_iff_exists.1 h1
  exact ⟨by rw [k.cell hu]; rfl, by rw [Below.frozen k (p := ⟨b, 0 + j, none⟩) (World.block_lt_of_cell? _ _ hu)]; exact h2⟩
theorem thereSet {w : World} {g b n : Nat} (hne : g ≠ b) (h : w.there b 0 n) (o : Nat) (v : Value) : (w.setCell ⟨g, o, none⟩ v).there b 0 n := fun j hj => by
  obtain ⟨h1, h2⟩ := h j hj
  exact ⟨by rw [World.cell?_setCell_other _ _ _ _ (fun e => hne (congrArg Addr.block e))]; exact h1, by rw [World.frozen?_setCell]; exact h2⟩
theorem SF.set {g : Nat} {i t : Int} {s : S4} {A : Option Addr} {L c a : Nat} {w : World} (h : SF g i t s A L c a w) (k : Nat) (v : Value) (hk : k ≠ 17) : SF g i t s A L c a (w.setCell ⟨g, k, none⟩ v) := by
  obtain ⟨⟨h0, h1, h2, h3, h4, h5⟩, h6, h7⟩ := h
  have far : ∀ o u, w.cell? ⟨g + 1, o, none⟩ = some u → (w.setCell ⟨g, k, none⟩ v).cell? ⟨g + 1, o, none⟩ = some u := fun o u hc => by
    rw [World.cell?_setCell_other _ _ _ _ (fun e => by simp at e)]; exact hc
  exact ⟨⟨far _ _ h0, far _ _ h1, far _ _ h2, far _ _ h3, far _ _ h4, far _ _ h5⟩, far _ _ h6, by rw [World.cell?_setCell_other _ _ _ _ (fun e => hk (congrArg Addr.off e))]; exact h7⟩

/-- A piece: of the image's base, and these bytes of it. -/
def FillP (x : Lt) (W : World) (i t : Int) (c : Cfg) (a : Nat) (bs : List B8) (e : Ending) (w' : World) : Prop :=
  ∃ (s : S4) (A : Option Addr) (cap : Nat), e = .returned (.tuple #[.agg #[.int .u8 5, .int .i64 x.group, .int .i64 x.from_, .int .i64 x.to_, .int .i64 x.term, .int .i64 x.index, .int .i64 x.logterm, .int .i64 x.commit, .bool x.ok, .slice none 0 0, .int .i64 i, .int .i64 t, .slice s.A0 s.n0 s.c0, .slice s.A1 s.n1 s.c1, .slice s.A2 s.n2 s.c2, .slice s.A3 s.n3 s.c3, .int .i64 (bs.length : Int), .int .i64 (a : Int), .int .i64 x.tag, .slice A ((bs.drop a).take 600).length cap], .bool true]) ∧ CfgOwn w' W.heap.size s c ∧ OwnN w' W.heap.size (.slice A ((bs.drop a).take 600).length cap) ((bs.drop a).take 600) ∧ Ok W w'

set_option maxRecDepth 100000 in
set_option maxHeartbeats 8000000 in
theorem fill_f (r : LR) (x : Lt) (i t : Int) (s : S4) (cf : Cfg) (A : Option Addr) (n c a : Nat) (bs : List B8) (W : World) (h : CfgAt W s cf) (hb : BytesIn W (.slice A n c) bs) (ha : a ≤ bs.length) (hl : bs.length ≤ 100000)
    (l0 : cf.vs.length ≤ 100000) (l1 : cf.os.length ≤ 100000) (l2 : cf.ls.length ≤ 100000) (l3 : cf.ws.length ≤ 100000) :
    Calls Try.prog 67 #[.agg #[.int .u8 5, .int .i64 x.group, .int .i64 x.from_, .int .i64 x.to_, .int .i64 x.term, .int .i64 x.index, .int .i64 x.logterm, .int .i64 x.commit, .bool x.ok, .slice r.eA x.es.length r.ec, .int .i64 i, .int .i64 t, .slice r.s.A0 r.s.n0 r.s.c0, .slice r.s.A1 r.s.n1 r.s.c1, .slice r.s.A2 r.s.n2 r.s.c2, .slice r.s.A3 r.s.n3 r.s.c3, .int .i64 x.size, .int .i64 (a : Int), .int .i64 x.tag, .slice r.bA r.bn r.bc], .agg #[.int .i64 i, .int .i64 t, .slice s.A0 s.n0 s.c0, .slice s.A1 s.n1 s.c1, .slice s.A2 s.n2 s.c2, .slice s.A3 s.n3 s.c3, .slice A n c]] W (FillP x W i t cf a bs) := by
  obtain ⟨hn, hnc⟩ := slice_ok hb
  subst hn
  have HC := Lib.hid h
  have HB := Lib.hid hb
  clear h hb
  have HEQ : Hid ((bs.drop a).take 600 = (bs.take (min (a + 600) bs.length)).drop a) := Lib.hid (by
    rw [List.drop_take, List.take_eq_take_iff]; simp; omega)
  have hae : a ≤ min (a + 600) bs.length := by omega
  have hen : min (a + 600) bs.length ≤ bs.length := Nat.min_le_right _ _
  obtain ⟨A2, hrun, hb2⟩ := slice_sub A bs.length c a (min (a + 600) bs.length) bs W HB.out hae hen
  have HR := Lib.hid hrun
  have HB2 := Lib.hid hb2
  clear hrun hb2
  have HE : Hid ((if (bs.length : Int) < (a : Int) + 600 then (bs.length : Int) else (a : Int) + 600) = ((min (a + 600) bs.length : Nat) : Int)) := Lib.hid (by split <;> omega)
  generalize he : min (a + 600) bs.length = e at *
  have HPL : Hid (((bs.take e).drop a).length ≤ 100000) := Lib.hid (by rw [List.length_drop, List.length_take]; omega)
  generalize (bs.take e).drop a = ps at *
  generalize hL : bs.length = L at *
  have HL := Lib.hid hL
  have HEE := Lib.hid he
  clear hL he
  have d1 : decide ((a : Int) < (0 : Int)) = false := decide_eq_false (by omega)
  have d2 : decide (L < a) = false := decide_eq_false (by omega)
  have e1 : (i != i) = false := by simp
  have e2 : (t != t) = false := by simp
  have h0 := HE.out
  have HA : Hid (Six (W.heap.size + 1) (.int .i64 i) (.int .i64 t) (.slice s.A0 s.n0 s.c0) (.slice s.A1 s.n1 s.c1) (.slice s.A2 s.n2 s.c2) (.slice s.A3 s.n3 s.c3) (((W.alloc (.cells #[.int .u8 5, .int .i64 x.group, .int .i64 x.from_, .int .i64 x.to_, .int .i64 x.term, .int .i64 x.index, .int .i64 x.logterm, .int .i64 x.commit, .bool x.ok, .slice r.eA x.es.length r.ec, .int .i64 i, .int .i64 t, .slice r.s.A0 r.s.n0 r.s.c0, .slice r.s.A1 r.s.n1 r.s.c1, .slice r.s.A2 r.s.n2 r.s.c2, .slice r.s.A3 r.s.n3 r.s.c3, .int .i64 x.size, .int .i64 (a : Int), .int .i64 x.tag, .slice r.bA r.bn r.bc] 95)).alloc (.cells #[.int .i64 i, .int .i64 t, .slice s.A0 s.n0 s.c0, .slice s.A1 s.n1 s.c1, .slice s.A2 s.n2 s.c2, .slice s.A3 s.n3 s.c3, .slice A L c] 97)).alloc (.cells #[.int .u8 0, .int .i64 0, .int .i64 0, .int .i64 0, .int .i64 0, .int .i64 0, .int .i64 0, .int .i64 0, .bool false, .slice none 0 0, .int .i64 0, .int .i64 0, .slice none 0 0, .slice none 0 0, .slice none 0 0, .slice none 0 0, .int .i64 0, .int .i64 0, .int .i64 0, .slice none 0 0] 95))) := Lib.hid (by
    have := (rangeSix (W.alloc (.cells #[.int .u8 5, .int .i64 x.group, .int .i64 x.from_, .int .i64 x.to_, .int .i64 x.term, .int .i64 x.index, .int .i64 x.logterm, .int .i64 x.commit, .bool x.ok, .slice r.eA x.es.length r.ec, .int .i64 i, .int .i64 t, .slice r.s.A0 r.s.n0 r.s.c0, .slice r.s.A1 r.s.n1 r.s.c1, .slice r.s.A2 r.s.n2 r.s.c2, .slice r.s.A3 r.s.n3 r.s.c3, .int .i64 x.size, .int .i64 (a : Int), .int .i64 x.tag, .slice r.bA r.bn r.bc] 95)) (.int .i64 i) (.int .i64 t) (.slice s.A0 s.n0 s.c0) (.slice s.A1 s.n1 s.c1) (.slice s.A2 s.n2 s.c2) (.slice s.A3 s.n3 s.c3) (.slice A L c) 97).ok ((Ok.refl _).alloc (.cells #[.int .u8 0, .int .i64 0, .int .i64 0, .int .i64 0, .int .i64 0, .int .i64 0, .int .i64 0, .int .i64 0, .bool false, .slice none 0 0, .int .i64 0, .int .i64 0, .slice none 0 0, .slice none 0 0, .slice none 0 0, .slice none 0 0, .int .i64 0, .int .i64 0, .int .i64 0, .slice none 0 0] 95)); rwa [World.size_alloc] at this)
  have HM6 : Hid ((((W.alloc (.cells #[.int .u8 5, .int .i64 x.group, .int .i64 x.from_, .int .i64 x.to_, .int .i64 x.term, .int .i64 x.index, .int .i64 x.logterm, .int .i64 x.commit, .bool x.ok, .slice r.eA x.es.length r.ec, .int .i64 i, .int .i64 t, .slice r.s.A0 r.s.n0 r.s.c0, .slice r.s.A1 r.s.n1 r.s.c1, .slice r.s.A2 r.s.n2 r.s.c2, .slice r.s.A3 r.s.n3 r.s.c3, .int .i64 x.size, .int .i64 (a : Int), .int .i64 x.tag, .slice r.bA r.bn r.bc] 95)).alloc (.cells #[.int .i64 i, .int .i64 t, .slice s.A0 s.n0 s.c0, .slice s.A1 s.n1 s.c1, .slice s.A2 s.n2 s.c2, .slice s.A3 s.n3 s.c3, .slice A L c] 97)).alloc (.cells #[.int .u8 0, .int .i64 0, .int .i64 0, .int .i64 0, .int .i64 0, .int .i64 0, .int .i64 0, .int .i64 0, .bool false, .slice none 0 0, .int .i64 0, .int .i64 0, .slice none 0 0, .slice none 0 0, .slice none 0 0, .slice none 0 0, .int .i64 0, .int .i64 0, .int .i64 0, .slice none 0 0] 95)).cell? ⟨W.heap.size + 1, 6, none⟩ = some (.slice A L c)) := Lib.hid (by
    have := ((Ok.refl _).alloc (.cells #[.int .u8 0, .int .i64 0, .int .i64 0, .int .i64 0, .int .i64 0, .int .i64 0, .int .i64 0, .int .i64 0, .bool false, .slice none 0 0, .int .i64 0, .int .i64 0, .slice none 0 0, .slice none 0 0, .slice none 0 0, .slice none 0 0, .int .i64 0, .int .i64 0, .int .i64 0, .slice none 0 0] 95)).cell (box_cell (W.alloc (.cells #[.int .u8 5, .int .i64 x.group, .int .i64 x.from_, .int .i64 x.to_, .int .i64 x.term, .int .i64 x.index, .int .i64 x.logterm, .int .i64 x.commit, .bool x.ok, .slice r.eA x.es.length r.ec, .int .i64 i, .int .i64 t, .slice r.s.A0 r.s.n0 r.s.c0, .slice r.s.A1 r.s.n1 r.s.c1, .slice r.s.A2 r.s.n2 r.s.c2, .slice r.s.A3 r.s.n3 r.s.c3, .int .i64 x.size, .int .i64 (a : Int), .int .i64 x.tag, .slice r.bA r.bn r.bc] 95)) #[.int .i64 i, .int .i64 t, .slice s.A0 s.n0 s.c0, .slice s.A1 s.n1 s.c1, .slice s.A2 s.n2 s.c2, .slice s.A3 s.n3 s.c3, .slice A L c] 97 6 _ rfl); rwa [World.size_alloc] at this)
  have HRG : Hid ((((W.alloc (.cells #[.int .u8 5, .int .i64 x.group, .int .i64 x.from_, .int .i64 x.to_, .int .i64 x.term, .int .i64 x.index, .int .i64 x.logterm, .int .i64 x.commit, .bool x.ok, .slice r.eA x.es.length r.ec, .int .i64 i, .int .i64 t, .slice r.s.A0 r.s.n0 r.s.c0, .slice r.s.A1 r.s.n1 r.s.c1, .slice r.s.A2 r.s.n2 r.s.c2, .slice r.s.A3 r.s.n3 r.s.c3, .int .i64 x.size, .int .i64 (a : Int), .int .i64 x.tag, .slice r.bA r.bn r.bc] 95)).alloc (.cells #[.int .i64 i, .int .i64 t, .slice s.A0 s.n0 s.c0, .slice s.A1 s.n1 s.c1, .slice s.A2 s.n2 s.c2, .slice s.A3 s.n3 s.c3, .slice A L c] 97)).alloc (.cells #[.int .u8 0, .int .i64 0, .int .i64 0, .int .i64 0, .int .i64 0, .int .i64 0, .int .i64 0, .int .i64 0, .bool false, .slice none 0 0, .int .i64 0, .int .i64 0, .slice none 0 0, .slice none 0 0, .slice none 0 0, .slice none 0 0, .int .i64 0, .int .i64 0, .int .i64 0, .slice none 0 0] 95)).rangeAt W.heap.size 0 [.int .u8 5, .int .i64 x.group, .int .i64 x.from_, .int .i64 x.to_, .int .i64 x.term, .int .i64 x.index, .int .i64 x.logterm, .int .i64 x.commit, .bool x.ok, .slice r.eA x.es.length r.ec, .int .i64 i, .int .i64 t, .slice r.s.A0 r.s.n0 r.s.c0, .slice r.s.A1 r.s.n1 r.s.c1, .slice r.s.A2 r.s.n2 r.s.c2, .slice r.s.A3 r.s.n3 r.s.c3, .int .i64 x.size, .int .i64 (a : Int), .int .i64 x.tag, .slice r.bA r.bn r.bc]) := Lib.hid (World.rangeAt_alloc (World.rangeAt_alloc (range_new W [.int .u8 5, .int .i64 x.group, .int .i64 x.from_, .int .i64 x.to_, .int .i64 x.term, .int .i64 x.index, .int .i64 x.logterm, .int .i64 x.commit, .bool x.ok, .slice r.eA x.es.length r.ec, .int .i64 i, .int .i64 t, .slice r.s.A0 r.s.n0 r.s.c0, .slice r.s.A1 r.s.n1 r.s.c1, .slice r.s.A2 r.s.n2 r.s.c2, .slice r.s.A3 r.s.n3 r.s.c3, .int .i64 x.size, .int .i64 (a : Int), .int .i64 x.tag, .slice r.bA r.bn r.bc] 95) _) _)
  have HFG : Hid (∀ k, (((W.alloc (.cells #[.int .u8 5, .int .i64 x.group, .int .i64 x.from_, .int .i64 x.to_, .int .i64 x.term, .int .i64 x.index, .int .i64 x.logterm, .int .i64 x.commit, .bool x.ok, .slice r.eA x.es.length r.ec, .int .i64 i, .int .i64 t, .slice r.s.A0 r.s.n0 r.s.c0, .slice r.s.A1 r.s.n1 r.s.c1, .slice r.s.A2 r.s.n2 r.s.c2, .slice r.s.A3 r.s.n3 r.s.c3, .int .i64 x.size, .int .i64 (a : Int), .int .i64 x.tag, .slice r.bA r.bn r.bc] 95)).alloc (.cells #[.int .i64 i, .int .i64 t, .slice s.A0 s.n0 s.c0, .slice s.A1 s.n1 s.c1, .slice s.A2 s.n2 s.c2, .slice s.A3 s.n3 s.c3, .slice A L c] 97)).alloc (.cells #[.int .u8 0, .int .i64 0, .int .i64 0, .int .i64 0, .int .i64 0, .int .i64 0, .int .i64 0, .int .i64 0, .bool false, .slice none 0 0, .int .i64 0, .int .i64 0, .slice none 0 0, .slice none 0 0, .slice none 0 0, .slice none 0 0, .int .i64 0, .int .i64 0, .int .i64 0, .slice none 0 0] 95)).frozen? ⟨W.heap.size, k, none⟩ = false) := Lib.hid (fun k => by
    have h1 := Ok.frozenNew W #[.int .u8 5, .int .i64 x.group, .int .i64 x.from_, .int .i64 x.to_, .int .i64 x.term, .int .i64 x.index, .int .i64 x.logterm, .int .i64 x.commit, .bool x.ok, .slice r.eA x.es.length r.ec, .int .i64 i, .int .i64 t, .slice r.s.A0 r.s.n0 r.s.c0, .slice r.s.A1 r.s.n1 r.s.c1, .slice r.s.A2 r.s.n2 r.s.c2, .slice r.s.A3 r.s.n3 r.s.c3, .int .i64 x.size, .int .i64 (a : Int), .int .i64 x.tag, .slice r.bA r.bn r.bc] 95 (((Ok.refl _).alloc (.cells #[.int .i64 i, .int .i64 t, .slice s.A0 s.n0 s.c0, .slice s.A1 s.n1 s.c1, .slice s.A2 s.n2 s.c2, .slice s.A3 s.n3 s.c3, .slice A L c] 97)).alloc (.cells #[.int .u8 0, .int .i64 0, .int .i64 0, .int .i64 0, .int .i64 0, .int .i64 0, .int .i64 0, .int .i64 0, .bool false, .slice none 0 0, .int .i64 0, .int .i64 0, .slice none 0 0, .slice none 0 0, .slice none 0 0, .slice none 0 0, .int .i64 0, .int .i64 0, .int .i64 0, .slice none 0 0] 95)) k
    exact h1)
  have HT : Hid ((((W.alloc (.cells #[.int .u8 5, .int .i64 x.group, .int .i64 x.from_, .int .i64 x.to_, .int .i64 x.term, .int .i64 x.index, .int .i64 x.logterm, .int .i64 x.commit, .bool x.ok, .slice r.eA x.es.length r.ec, .int .i64 i, .int .i64 t, .slice r.s.A0 r.s.n0 r.s.c0, .slice r.s.A1 r.s.n1 r.s.c1, .slice r.s.A2 r.s.n2 r.s.c2, .slice r.s.A3 r.s.n3 r.s.c3, .int .i64 x.size, .int .i64 (a : Int), .int .i64 x.tag, .slice r.bA r.bn r.bc] 95)).alloc (.cells #[.int .i64 i, .int .i64 t, .slice s.A0 s.n0 s.c0, .slice s.A1 s.n1 s.c1, .slice s.A2 s.n2 s.c2, .slice s.A3 s.n3 s.c3, .slice A L c] 97)).alloc (.cells #[.int .u8 0, .int .i64 0, .int .i64 0, .int .i64 0, .int .i64 0, .int .i64 0, .int .i64 0, .int .i64 0, .bool false, .slice none 0 0, .int .i64 0, .int .i64 0, .slice none 0 0, .slice none 0 0, .slice none 0 0, .slice none 0 0, .int .i64 0, .int .i64 0, .int .i64 0, .slice none 0 0] 95)).there (W.heap.size + 2) 0 20) := Lib.hid (by have := there_new ((W.alloc (.cells #[.int .u8 5, .int .i64 x.group, .int .i64 x.from_, .int .i64 x.to_, .int .i64 x.term, .int .i64 x.index, .int .i64 x.logterm, .int .i64 x.commit, .bool x.ok, .slice r.eA x.es.length r.ec, .int .i64 i, .int .i64 t, .slice r.s.A0 r.s.n0 r.s.c0, .slice r.s.A1 r.s.n1 r.s.c1, .slice r.s.A2 r.s.n2 r.s.c2, .slice r.s.A3 r.s.n3 r.s.c3, .int .i64 x.size, .int .i64 (a : Int), .int .i64 x.tag, .slice r.bA r.bn r.bc] 95)).alloc (.cells #[.int .i64 i, .int .i64 t, .slice s.A0 s.n0 s.c0, .slice s.A1 s.n1 s.c1, .slice s.A2 s.n2 s.c2, .slice s.A3 s.n3 s.c3, .slice A L c] 97)) #[.int .u8 0, .int .i64 0, .int .i64 0, .int .i64 0, .int .i64 0, .int .i64 0, .int .i64 0, .int .i64 0, .bool false, .slice none 0 0, .int .i64 0, .int .i64 0, .slice none 0 0, .slice none 0 0, .slice none 0 0, .slice none 0 0, .int .i64 0, .int .i64 0, .int .i64 0, .slice none 0 0] 95; rwa [World.size_alloc, World.size_alloc] at this)
  have HO : Hid (Ok W (((W.alloc (.cells #[.int .u8 5, .int .i64 x.group, .int .i64 x.from_, .int .i64 x.to_, .int .i64 x.term, .int .i64 x.index, .int .i64 x.logterm, .int .i64 x.commit, .bool x.ok, .slice r.eA x.es.length r.ec, .int .i64 i, .int .i64 t, .slice r.s.A0 r.s.n0 r.s.c0, .slice r.s.A1 r.s.n1 r.s.c1, .slice r.s.A2 r.s.n2 r.s.c2, .slice r.s.A3 r.s.n3 r.s.c3, .int .i64 x.size, .int .i64 (a : Int), .int .i64 x.tag, .slice r.bA r.bn r.bc] 95)).alloc (.cells #[.int .i64 i, .int .i64 t, .slice s.A0 s.n0 s.c0, .slice s.A1 s.n1 s.c1, .slice s.A2 s.n2 s.c2, .slice s.A3 s.n3 s.c3, .slice A L c] 97)).alloc (.cells #[.int .u8 0, .int .i64 0, .int .i64 0, .int .i64 0, .int .i64 0, .int .i64 0, .int .i64 0, .int .i64 0, .bool false, .slice none 0 0, .int .i64 0, .int .i64 0, .slice none 0 0, .slice none 0 0, .slice none 0 0, .slice none 0 0, .int .i64 0, .int .i64 0, .int .i64 0, .slice none 0 0] 95))) := Lib.hid ((((Ok.refl W).alloc _).alloc _).alloc _)
  have HZ : Hid (W.heap.size + 3 ≤ (((W.alloc (.cells #[.int .u8 5, .int .i64 x.group, .int .i64 x.from_, .int .i64 x.to_, .int .i64 x.term, .int .i64 x.index, .int .i64 x.logterm, .int .i64 x.commit, .bool x.ok, .slice r.eA x.es.length r.ec, .int .i64 i, .int .i64 t, .slice r.s.A0 r.s.n0 r.s.c0, .slice r.s.A1 r.s.n1 r.s.c1, .slice r.s.A2 r.s.n2 r.s.c2, .slice r.s.A3 r.s.n3 r.s.c3, .int .i64 x.size, .int .i64 (a : Int), .int .i64 x.tag, .slice r.bA r.bn r.bc] 95)).alloc (.cells #[.int .i64 i, .int .i64 t, .slice s.A0 s.n0 s.c0, .slice s.A1 s.n1 s.c1, .slice s.A2 s.n2 s.c2, .slice s.A3 s.n3 s.c3, .slice A L c] 97)).alloc (.cells #[.int .u8 0, .int .i64 0, .int .i64 0, .int .i64 0, .int .i64 0, .int .i64 0, .int .i64 0, .int .i64 0, .bool false, .slice none 0 0, .int .i64 0, .int .i64 0, .slice none 0 0, .slice none 0 0, .slice none 0 0, .slice none 0 0, .int .i64 0, .int .i64 0, .int .i64 0, .slice none 0 0] 95)).heap.size) := Lib.hid (by rw [World.size_alloc, World.size_alloc, World.size_alloc]; omega)
  go_enter Try.func67, Try.ntmps67
  go_upto_region 4 with fail
  rename_i K0 hK0
  have HK0 := Lib.hid hK0
  clear hK0
  generalize (((W.alloc (.cells #[.int .u8 5, .int .i64 x.group, .int .i64 x.from_, .int .i64 x.to_, .int .i64 x.term, .int .i64 x.index, .int .i64 x.logterm, .int .i64 x.commit, .bool x.ok, .slice r.eA x.es.length r.ec, .int .i64 i, .int .i64 t, .slice r.s.A0 r.s.n0 r.s.c0, .slice r.s.A1 r.s.n1 r.s.c1, .slice r.s.A2 r.s.n2 r.s.c2, .slice r.s.A3 r.s.n3 r.s.c3, .int .i64 x.size, .int .i64 (a : Int), .int .i64 x.tag, .slice r.bA r.bn r.bc] 95)).alloc (.cells #[.int .i64 i, .int .i64 t, .slice s.A0 s.n0 s.c0, .slice s.A1 s.n1 s.c1, .slice s.A2 s.n2 s.c2, .slice s.A3 s.n3 s.c3, .slice A L c] 97)).alloc (.cells #[.int .u8 0, .int .i64 0, .int .i64 0, .int .i64 0, .int .i64 0, .int .i64 0, .int .i64 0, .int .i64 0, .bool false, .slice none 0 0, .int .i64 0, .int .i64 0, .slice none 0 0, .slice none 0 0, .slice none 0 0, .slice none 0 0, .int .i64 0, .int .i64 0, .int .i64 0, .slice none 0 0] 95)) = W1 at *
  obtain ⟨g, hg⟩ : ∃ g, W.heap.size = g := ⟨_, rfl⟩
  have HG := Lib.hid hg
  rw [hg] at HA HM6 HRG HFG HT HZ ⊢
  clear hg h0
  have hRun := HR.out
  refine wp_region_held_drew (S := fun w => (w.cell? ⟨g + 1, 0, none⟩ = some (.int .i64 i) ∧ w.cell? ⟨g + 1, 1, none⟩ = some (.int .i64 t) ∧ w.cell? ⟨g + 1, 2, none⟩ = some (.slice s.A0 s.n0 s.c0) ∧ w.cell? ⟨g + 1, 3, none⟩ = some (.slice s.A1 s.n1 s.c1) ∧ w.cell? ⟨g + 1, 4, none⟩ = some (.slice s.A2 s.n2 s.c2) ∧ w.cell? ⟨g + 1, 5, none⟩ = some (.slice s.A3 s.n3 s.c3)) ∧ w.cell? ⟨g + 1, 6, none⟩ = some (.slice A L c) ∧ w.cell? ⟨g, 17, none⟩ = some (.int .i64 (a : Int))) (by kernel_rfl) ?_ ?_
  · have k := HA.out.ok ((Ok.refl W1).drew)
    exact ⟨⟨k.c0, k.c1, k.c2, k.c3, k.c4, k.c5⟩, ((Ok.refl W1).drew).cell HM6.out, ((Ok.refl W1).drew).cell (by have := HRG.out 17 _ rfl; rwa [Nat.zero_add] at this)⟩
  intro hS
  have HW0 : Hid (Ok W1 W1.drew) := Lib.hid ((Ok.refl W1).drew)
  generalize W1.drew = w0 at *
  refine wpAnyH_take (i := 0) (v := ?v0) rfl (by kernel_rfl) (by kernel_rfl) (by kernel_rfl) (fun _ _ _ h => h) (Or.inl ⟨by rfl, ?hy0⟩) hS ?rest0
  case hy0 => ((intro w hSw); clear hSw; go_simp; (try with_reducible rfl))
  try go_frame
  refine wpAnyH_take (i := 1) (v := ?v1) rfl (by kernel_rfl) (by kernel_rfl) (by kernel_rfl) (fun _ _ _ h => h) (Or.inl ⟨by rfl, ?hy1⟩) hS ?rest1
  case hy1 => ((intro w hSw; (try dsimp only at hSw)); go_simp; (try with_reducible rfl))
  try go_frame
  refine wpAnyH_take (i := 3) (v := ?v3) rfl (by kernel_rfl) (by kernel_rfl) (by kernel_rfl) (fun _ _ _ h => h) (Or.inl ⟨by rfl, ?hy3⟩) hS ?rest3
  case hy3 => ((intro w hSw); clear hSw; go_simp; (try with_reducible rfl))
  try go_frame
  refine wpAnyH_take (i := 4) (v := ?v4) rfl (by kernel_rfl) (by kernel_rfl) (by kernel_rfl) (fun _ _ _ h => h) (Or.inl ⟨by rfl, ?hy4⟩) hS ?rest4
  case hy4 => ((intro w hSw; (try dsimp only at hSw)); go_simp; (try with_reducible rfl))
  try go_frame
  refine wpAnyH_take (i := 5) (v := ?v5) rfl (by kernel_rfl) (by kernel_rfl) (by kernel_rfl) (fun _ _ _ h => h) (Or.inl ⟨by rfl, ?hy5⟩) hS ?rest5
  case hy5 => ((intro w hSw); clear hSw; go_simp; (try with_reducible rfl))
  try go_frame
  refine wpAnyH_take (i := 6) (v := ?v6) rfl (by kernel_rfl) (by kernel_rfl) (by kernel_rfl) (fun _ _ _ h => h) (Or.inl ⟨by rfl, ?hy6⟩) hS ?rest6
  case hy6 => ((intro w hSw); clear hSw; go_simp; (try with_reducible rfl))
  try go_frame
  refine wpAnyH_take (i := 7) (v := ?v7) rfl (by kernel_rfl) (by kernel_rfl) (by kernel_rfl) (fun _ _ _ h => h) (Or.inl ⟨by rfl, ?hy7⟩) hS ?rest7
  case hy7 => ((intro w hSw; (try dsimp only at hSw)); go_simp; (try with_reducible rfl))
  try go_frame
  refine wpAnyH_take (i := 8) (v := ?v8) rfl (by kernel_rfl) (by kernel_rfl) (by kernel_rfl) (fun _ _ _ h => h) (Or.inl ⟨by rfl, ?hy8⟩) hS ?rest8
  case hy8 => ((intro w hSw); clear hSw; go_simp; (try with_reducible rfl))
  try go_frame
  refine wpAnyH_take (i := 9) (v := ?v9) rfl (by kernel_rfl) (by kernel_rfl) (by kernel_rfl) (fun _ _ _ h => h) (Or.inl ⟨by rfl, ?hy9⟩) hS ?rest9
  case hy9 => ((intro w hSw; (try dsimp only at hSw)); go_simp; (try with_reducible rfl))
  try go_frame
  refine wpAnyH_take (i := 10) (v := ?v10) rfl (by kernel_rfl) (by kernel_rfl) (by kernel_rfl) (fun _ _ _ h => h) (Or.inl ⟨by rfl, ?hy10⟩) hS ?rest10
  case hy10 => ((intro w hSw); clear hSw; go_simp; (try with_reducible rfl))
  try go_frame
  refine wpAnyH_take (i := 11) (v := ?v11) rfl (by kernel_rfl) (by kernel_rfl) (by kernel_rfl) (fun _ _ _ h => h) (Or.inl ⟨by rfl, ?hy11⟩) hS ?rest11
  case hy11 => ((intro w hSw); clear hSw; go_simp; (try with_reducible rfl))
  try go_frame
  refine wpAnyH_ready (rs := [2]) (by kernel_rfl) (by simp) (AllReadyH.cons rfl (fun K hK => ?_) AllReadyH.nil)
  have HK := Lib.hid hK
  clear hK
  go_simp
  refine (copyBase_f i t s cf _ (HC.out.ok (HO.out.trans HW0.out)) l0 l1 l2 l3).mono ?_
  rintro _ w1 ⟨s', rfl, hcf, ok⟩
  have HC1 := Lib.hid hcf
  clear hcf
  have HS1 : Hid ((_ ∧ _ ∧ _ ∧ _ ∧ _ ∧ _) ∧ _ ∧ _) := Lib.hid ⟨⟨ok.cell hS.1.1, ok.cell hS.1.2.1, ok.cell hS.1.2.2.1, ok.cell hS.1.2.2.2.1, ok.cell hS.1.2.2.2.2.1, ok.cell hS.1.2.2.2.2.2⟩, ok.cell hS.2.1, ok.cell hS.2.2⟩
  have HW1 : Hid (Ok W1 w1) := Lib.hid (HW0.out.trans ok)
  have HD1 : Hid (Ok w0 w1) := Lib.hid ok
  clear ok hS
  refine HK.out.out _ _ HS1.out (fun _ => ?_)
  have hS := HS1.out
  clear HS1 HK K
  try go_frame
  refine wpAnyH_take (i := 13) (v := ?v13) rfl (by kernel_rfl) (by kernel_rfl) (by kernel_rfl) (fun _ _ _ h => h) (Or.inl ⟨by rfl, ?hy13⟩) hS ?rest13
  case hy13 => ((intro w hSw); clear hSw; go_simp; (try with_reducible rfl))
  try go_frame
  refine wpAnyH_ready (rs := [12]) (by kernel_rfl) (by simp) (AllReadyH.cons rfl (fun K hK => ?_) AllReadyH.nil)
  have HK := Lib.hid hK
  clear hK
  go_simp
  refine (cloneB_f _ _ _ ((HO.out.trans HW1.out).bytes HB2.out) (by have := HPL.out; omega)).mono ?_
  rintro _ w2 ⟨⟨D2, d2', rfl, hz⟩, ok⟩
  have HZ2 := Lib.hid hz
  clear hz
  have HS2 : Hid ((_ ∧ _ ∧ _ ∧ _ ∧ _ ∧ _) ∧ _ ∧ _) := Lib.hid ⟨⟨ok.cell hS.1.1, ok.cell hS.1.2.1, ok.cell hS.1.2.2.1, ok.cell hS.1.2.2.2.1, ok.cell hS.1.2.2.2.2.1, ok.cell hS.1.2.2.2.2.2⟩, ok.cell hS.2.1, ok.cell hS.2.2⟩
  have HW2 : Hid (Ok W1 w2) := Lib.hid (HW1.out.trans ok)
  have HD2 : Hid (Ok w1 w2) := Lib.hid ok
  clear ok hS
  refine HK.out.out _ _ HS2.out (fun _ => ?_)
  have hS := HS2.out
  clear HS2 HK K
  try go_frame
  have HS2 := Lib.hid hS
  have HRG2 := Lib.hid (fun (cs : List Value) (h : W1.rangeAt g 0 cs) (j : Nat) (v : Value) (hv : cs[j]? = some v) => HW2.out.cell (h j v hv))
  have hgl : g < W1.heap.size := by have := HZ.out; omega
  have hff : ∀ k, w2.frozen? ⟨g, k, none⟩ = false := fun k => by rw [Below.frozen HW2.out (p := ⟨g, k, none⟩) hgl]; exact HFG.out k
  have HF2 := Lib.hid hff
  have HRQ : Hid (w2.rangeAt g 0 [.int .u8 5, .int .i64 x.group, .int .i64 x.from_, .int .i64 x.to_, .int .i64 x.term, .int .i64 x.index, .int .i64 x.logterm, .int .i64 x.commit, .bool x.ok, .slice r.eA x.es.length r.ec, .int .i64 i, .int .i64 t, .slice r.s.A0 r.s.n0 r.s.c0, .slice r.s.A1 r.s.n1 r.s.c1, .slice r.s.A2 r.s.n2 r.s.c2, .slice r.s.A3 r.s.n3 r.s.c3, .int .i64 x.size, .int .i64 (a : Int), .int .i64 x.tag, .slice r.bA r.bn r.bc]) := Lib.hid (HRG2.out _ HRG.out)
  clear hff HRG2 hS
  have hc9 : w2.cell? ⟨g, 9, none⟩ = some (.slice r.eA x.es.length r.ec) := by have := HRQ.out 9 _ rfl; rwa [Nat.zero_add] at this
  have hc10 : w2.cell? ⟨g, 10, none⟩ = some (.int .i64 i) := by have := HRQ.out 10 _ rfl; rwa [Nat.zero_add] at this
  have hc11 : w2.cell? ⟨g, 11, none⟩ = some (.int .i64 t) := by have := HRQ.out 11 _ rfl; rwa [Nat.zero_add] at this
  have hc12 : w2.cell? ⟨g, 12, none⟩ = some (.slice r.s.A0 r.s.n0 r.s.c0) := by have := HRQ.out 12 _ rfl; rwa [Nat.zero_add] at this
  have hc13 : w2.cell? ⟨g, 13, none⟩ = some (.slice r.s.A1 r.s.n1 r.s.c1) := by have := HRQ.out 13 _ rfl; rwa [Nat.zero_add] at this
  have hc14 : w2.cell? ⟨g, 14, none⟩ = some (.slice r.s.A2 r.s.n2 r.s.c2) := by have := HRQ.out 14 _ rfl; rwa [Nat.zero_add] at this
  have hc15 : w2.cell? ⟨g, 15, none⟩ = some (.slice r.s.A3 r.s.n3 r.s.c3) := by have := HRQ.out 15 _ rfl; rwa [Nat.zero_add] at this
  have hc16 : w2.cell? ⟨g, 16, none⟩ = some (.int .i64 x.size) := by have := HRQ.out 16 _ rfl; rwa [Nat.zero_add] at this
  have hc19 : w2.cell? ⟨g, 19, none⟩ = some (.slice r.bA r.bn r.bc) := by have := HRQ.out 19 _ rfl; rwa [Nat.zero_add] at this
  have hf9 := HF2.out 9
  have hf10 := HF2.out 10
  have hf11 := HF2.out 11
  have hf12 := HF2.out 12
  have hf13 := HF2.out 13
  have hf14 := HF2.out 14
  have hf15 := HF2.out 15
  have hf16 := HF2.out 16
  have hf19 := HF2.out 19
  refine wpAnyH_ready (rs := [14]) (by kernel_rfl) (by simp) (AllReadyH.cons rfl (fun K hK => ?_) AllReadyH.nil)
  have HK := Lib.hid hK
  clear hK
  go_simp
  refine HK.out.out _ _ ((((((SF.set (g := g) (i := i) (t := t) (s := s) (A := A) (L := L) (c := c) (a := a) HS2.out 10 _ (by decide)).set 11 _ (by decide)).set 12 _ (by decide)).set 13 _ (by decide)).set 14 _ (by decide)).set 15 _ (by decide)) (fun _ => ?_)
  clear HK K
  try go_frame
  refine wpAnyH_take (i := 15) (v := ?v15) rfl (by kernel_rfl) (by kernel_rfl) (by kernel_rfl) (fun _ _ _ h => h) (Or.inl ⟨by rfl, ?hy15⟩) ((((((SF.set (g := g) (i := i) (t := t) (s := s) (A := A) (L := L) (c := c) (a := a) HS2.out 10 _ (by decide)).set 11 _ (by decide)).set 12 _ (by decide)).set 13 _ (by decide)).set 14 _ (by decide)).set 15 _ (by decide)) ?rest15
  case hy15 => ((intro w hSw); clear hSw; go_simp; (try with_reducible rfl))
  try go_frame
  refine wpAnyH_ready (rs := [16]) (by kernel_rfl) (by simp) (AllReadyH.cons rfl (fun K hK => ?_) AllReadyH.nil)
  have HK := Lib.hid hK
  clear hK
  go_simp
  refine HK.out.out _ _ (((((((SF.set (g := g) (i := i) (t := t) (s := s) (A := A) (L := L) (c := c) (a := a) HS2.out 10 _ (by decide)).set 11 _ (by decide)).set 12 _ (by decide)).set 13 _ (by decide)).set 14 _ (by decide)).set 15 _ (by decide)).set 16 _ (by decide)) (fun _ => ?_)
  clear HK K
  try go_frame
  refine wpAnyH_take (i := 17) (v := ?v17) rfl (by kernel_rfl) (by kernel_rfl) (by kernel_rfl) (fun _ _ _ h => h) (Or.inl ⟨by rfl, ?hy17⟩) (((((((SF.set (g := g) (i := i) (t := t) (s := s) (A := A) (L := L) (c := c) (a := a) HS2.out 10 _ (by decide)).set 11 _ (by decide)).set 12 _ (by decide)).set 13 _ (by decide)).set 14 _ (by decide)).set 15 _ (by decide)).set 16 _ (by decide)) ?rest17
  case hy17 => ((intro w hSw); clear hSw; go_simp; (try with_reducible rfl))
  try go_frame
  refine wpAnyH_ready (rs := [18]) (by kernel_rfl) (by simp) (AllReadyH.cons rfl (fun K hK => ?_) AllReadyH.nil)
  have HK := Lib.hid hK
  clear hK
  go_simp
  refine HK.out.out _ _ ((((((((SF.set (g := g) (i := i) (t := t) (s := s) (A := A) (L := L) (c := c) (a := a) HS2.out 10 _ (by decide)).set 11 _ (by decide)).set 12 _ (by decide)).set 13 _ (by decide)).set 14 _ (by decide)).set 15 _ (by decide)).set 16 _ (by decide)).set 9 _ (by decide)) (fun _ => ?_)
  clear HK K
  try go_frame
  refine wpAnyH_take (i := 19) (v := ?v19) rfl (by kernel_rfl) (by kernel_rfl) (by kernel_rfl) (fun _ _ _ h => h) (Or.inl ⟨by rfl, ?hy19⟩) ((((((((SF.set (g := g) (i := i) (t := t) (s := s) (A := A) (L := L) (c := c) (a := a) HS2.out 10 _ (by decide)).set 11 _ (by decide)).set 12 _ (by decide)).set 13 _ (by decide)).set 14 _ (by decide)).set 15 _ (by decide)).set 16 _ (by decide)).set 9 _ (by decide)) ?rest19
  case hy19 => ((intro w hSw); clear hSw; go_simp; (try with_reducible rfl))
  try go_frame
  refine wpAnyH_ready (rs := [20]) (by kernel_rfl) (by simp) (AllReadyH.cons rfl (fun K hK => ?_) AllReadyH.nil)
  have HK := Lib.hid hK
  clear hK
  go_simp
  refine HK.out.out _ _ (((((((((SF.set (g := g) (i := i) (t := t) (s := s) (A := A) (L := L) (c := c) (a := a) HS2.out 10 _ (by decide)).set 11 _ (by decide)).set 12 _ (by decide)).set 13 _ (by decide)).set 14 _ (by decide)).set 15 _ (by decide)).set 16 _ (by decide)).set 9 _ (by decide)).set 19 _ (by decide)) (fun _ => ?_)
  clear HK K
  try go_frame
  refine wpAnyH_done (by kernel_rfl) ?_ _
  refine HK0.out _ _ ?_
  clear HK0 hc9 hc10 hc11 hc12 hc13 hc14 hc15 hc16 hc19 hf9 hf10 hf11 hf12 hf13 hf14 hf15 hf16 hf19 hRun d1 d2 e1 e2
  have hz0 : g < w0.heap.size := by have := HZ.out; have := HW0.out.size; omega
  have hz1 : g < w1.heap.size := by have := HD1.out.size; omega
  have hy0 : g + 2 < w0.heap.size := by have := HZ.out; have := HW0.out.size; omega
  have hy1 : g + 2 < w1.heap.size := by have := HD1.out.size; omega
  have hgW : W.heap.size ≤ g := Nat.le_of_eq HG.out
  have HR9 : Hid ((((((((((w2.setCell ⟨g, 10, none⟩ (.int .i64 i)).setCell ⟨g, 11, none⟩ (.int .i64 t)).setCell ⟨g, 12, none⟩ (.slice s'.A0 s'.n0 s'.c0)).setCell ⟨g, 13, none⟩ (.slice s'.A1 s'.n1 s'.c1)).setCell ⟨g, 14, none⟩ (.slice s'.A2 s'.n2 s'.c2)).setCell ⟨g, 15, none⟩ (.slice s'.A3 s'.n3 s'.c3)).setCell ⟨g, 16, none⟩ (.int .i64 (L : Int))).setCell ⟨g, 9, none⟩ (.slice none 0 0)).setCell ⟨g, 19, none⟩ (.slice D2 ps.length d2')).rangeAt g 0 [.int .u8 5, .int .i64 x.group, .int .i64 x.from_, .int .i64 x.to_, .int .i64 x.term, .int .i64 x.index, .int .i64 x.logterm, .int .i64 x.commit, .bool x.ok, .slice none 0 0, .int .i64 i, .int .i64 t, .slice s'.A0 s'.n0 s'.c0, .slice s'.A1 s'.n1 s'.c1, .slice s'.A2 s'.n2 s'.c2, .slice s'.A3 s'.n3 s'.c3, .int .i64 (L : Int), .int .i64 (a : Int), .int .i64 x.tag, .slice D2 ps.length d2']) := Lib.hid (range_set (range_set (range_set (range_set (range_set (range_set (range_set (range_set (range_set HRQ.out 10 (.int .i64 i) (by simp)) 11 (.int .i64 t) (by simp)) 12 (.slice s'.A0 s'.n0 s'.c0) (by simp)) 13 (.slice s'.A1 s'.n1 s'.c1) (by simp)) 14 (.slice s'.A2 s'.n2 s'.c2) (by simp)) 15 (.slice s'.A3 s'.n3 s'.c3) (by simp)) 16 (.int .i64 (L : Int)) (by simp)) 9 (.slice none 0 0) (by simp)) 19 (.slice D2 ps.length d2') (by simp))
  have HC9 : Hid (CfgOwn (((((((((w2.setCell ⟨g, 10, none⟩ (.int .i64 i)).setCell ⟨g, 11, none⟩ (.int .i64 t)).setCell ⟨g, 12, none⟩ (.slice s'.A0 s'.n0 s'.c0)).setCell ⟨g, 13, none⟩ (.slice s'.A1 s'.n1 s'.c1)).setCell ⟨g, 14, none⟩ (.slice s'.A2 s'.n2 s'.c2)).setCell ⟨g, 15, none⟩ (.slice s'.A3 s'.n3 s'.c3)).setCell ⟨g, 16, none⟩ (.int .i64 (L : Int))).setCell ⟨g, 9, none⟩ (.slice none 0 0)).setCell ⟨g, 19, none⟩ (.slice D2 ps.length d2')) w0.heap.size s' cf) := Lib.hid (CfgOwn.set (CfgOwn.set (CfgOwn.set (CfgOwn.set (CfgOwn.set (CfgOwn.set (CfgOwn.set (CfgOwn.set (CfgOwn.set (HC1.out.ok HD2.out) g 10 (.int .i64 i) hz0) g 11 (.int .i64 t) hz0) g 12 (.slice s'.A0 s'.n0 s'.c0) hz0) g 13 (.slice s'.A1 s'.n1 s'.c1) hz0) g 14 (.slice s'.A2 s'.n2 s'.c2) hz0) g 15 (.slice s'.A3 s'.n3 s'.c3) hz0) g 16 (.int .i64 (L : Int)) hz0) g 9 (.slice none 0 0) hz0) g 19 (.slice D2 ps.length d2') hz0)
  have HN9 : Hid (OwnN (((((((((w2.setCell ⟨g, 10, none⟩ (.int .i64 i)).setCell ⟨g, 11, none⟩ (.int .i64 t)).setCell ⟨g, 12, none⟩ (.slice s'.A0 s'.n0 s'.c0)).setCell ⟨g, 13, none⟩ (.slice s'.A1 s'.n1 s'.c1)).setCell ⟨g, 14, none⟩ (.slice s'.A2 s'.n2 s'.c2)).setCell ⟨g, 15, none⟩ (.slice s'.A3 s'.n3 s'.c3)).setCell ⟨g, 16, none⟩ (.int .i64 (L : Int))).setCell ⟨g, 9, none⟩ (.slice none 0 0)).setCell ⟨g, 19, none⟩ (.slice D2 ps.length d2')) w1.heap.size (.slice D2 ps.length d2') ps) := Lib.hid (OwnN.set (OwnN.set (OwnN.set (OwnN.set (OwnN.set (OwnN.set (OwnN.set (OwnN.set (OwnN.set (HZ2.out) g 10 (.int .i64 i) hz1) g 11 (.int .i64 t) hz1) g 12 (.slice s'.A0 s'.n0 s'.c0) hz1) g 13 (.slice s'.A1 s'.n1 s'.c1) hz1) g 14 (.slice s'.A2 s'.n2 s'.c2) hz1) g 15 (.slice s'.A3 s'.n3 s'.c3) hz1) g 16 (.int .i64 (L : Int)) hz1) g 9 (.slice none 0 0) hz1) g 19 (.slice D2 ps.length d2') hz1)
  have HO9 : Hid (Ok W (((((((((w2.setCell ⟨g, 10, none⟩ (.int .i64 i)).setCell ⟨g, 11, none⟩ (.int .i64 t)).setCell ⟨g, 12, none⟩ (.slice s'.A0 s'.n0 s'.c0)).setCell ⟨g, 13, none⟩ (.slice s'.A1 s'.n1 s'.c1)).setCell ⟨g, 14, none⟩ (.slice s'.A2 s'.n2 s'.c2)).setCell ⟨g, 15, none⟩ (.slice s'.A3 s'.n3 s'.c3)).setCell ⟨g, 16, none⟩ (.int .i64 (L : Int))).setCell ⟨g, 9, none⟩ (.slice none 0 0)).setCell ⟨g, 19, none⟩ (.slice D2 ps.length d2'))) := Lib.hid ((Below.setCell (p := ⟨g, 19, none⟩) ((Below.setCell (p := ⟨g, 9, none⟩) ((Below.setCell (p := ⟨g, 16, none⟩) ((Below.setCell (p := ⟨g, 15, none⟩) ((Below.setCell (p := ⟨g, 14, none⟩) ((Below.setCell (p := ⟨g, 13, none⟩) ((Below.setCell (p := ⟨g, 12, none⟩) ((Below.setCell (p := ⟨g, 11, none⟩) ((Below.setCell (p := ⟨g, 10, none⟩) (HO.out.trans HW2.out) hgW (.int .i64 i))) hgW (.int .i64 t))) hgW (.slice s'.A0 s'.n0 s'.c0))) hgW (.slice s'.A1 s'.n1 s'.c1))) hgW (.slice s'.A2 s'.n2 s'.c2))) hgW (.slice s'.A3 s'.n3 s'.c3))) hgW (.int .i64 (L : Int)))) hgW (.slice none 0 0))) hgW (.slice D2 ps.length d2')))
  have HT9 : Hid ((((((((((w2.setCell ⟨g, 10, none⟩ (.int .i64 i)).setCell ⟨g, 11, none⟩ (.int .i64 t)).setCell ⟨g, 12, none⟩ (.slice s'.A0 s'.n0 s'.c0)).setCell ⟨g, 13, none⟩ (.slice s'.A1 s'.n1 s'.c1)).setCell ⟨g, 14, none⟩ (.slice s'.A2 s'.n2 s'.c2)).setCell ⟨g, 15, none⟩ (.slice s'.A3 s'.n3 s'.c3)).setCell ⟨g, 16, none⟩ (.int .i64 (L : Int))).setCell ⟨g, 9, none⟩ (.slice none 0 0)).setCell ⟨g, 19, none⟩ (.slice D2 ps.length d2')).there (g + 2) 0 20) := Lib.hid (by (repeat (refine thereSet (by omega) ?_ _ _)); exact there_ok HT.out HW2.out)
  generalize (((((((((w2.setCell ⟨g, 10, none⟩ (.int .i64 i)).setCell ⟨g, 11, none⟩ (.int .i64 t)).setCell ⟨g, 12, none⟩ (.slice s'.A0 s'.n0 s'.c0)).setCell ⟨g, 13, none⟩ (.slice s'.A1 s'.n1 s'.c1)).setCell ⟨g, 14, none⟩ (.slice s'.A2 s'.n2 s'.c2)).setCell ⟨g, 15, none⟩ (.slice s'.A3 s'.n3 s'.c3)).setCell ⟨g, 16, none⟩ (.int .i64 (L : Int))).setCell ⟨g, 9, none⟩ (.slice none 0 0)).setCell ⟨g, 19, none⟩ (.slice D2 ps.length d2')) = w9 at *
  clear HRQ HF2 HS2 HZ2 HC1 HA HM6 HRG HFG
  go_upto_region 5 with fail
  rename_i K1 hK1
  have HK1 := Lib.hid hK1
  clear hK1
  refine wp_region_lit ?_
  refine wpList_load_mid rfl 95 (.tmp 2) rfl g 0 rfl [.int .u8 5, .int .i64 x.group, .int .i64 x.from_, .int .i64 x.to_, .int .i64 x.term, .int .i64 x.index, .int .i64 x.logterm, .int .i64 x.commit, .bool x.ok, .slice none 0 0, .int .i64 i, .int .i64 t, .slice s'.A0 s'.n0 s'.c0, .slice s'.A1 s'.n1 s'.c1, .slice s'.A2 s'.n2 s'.c2, .slice s'.A3 s'.n3 s'.c3, .int .i64 (L : Int), .int .i64 (a : Int), .int .i64 x.tag, .slice D2 ps.length d2'] _ HR9.out Try.underlying95 rfl info95 ?_
  try go_frame
  refine wpList_store_mid rfl 95 (.tmp 4) (.tmp 66) rfl (g + 2) 0 #[.int .u8 5, .int .i64 x.group, .int .i64 x.from_, .int .i64 x.to_, .int .i64 x.term, .int .i64 x.index, .int .i64 x.logterm, .int .i64 x.commit, .bool x.ok, .slice none 0 0, .int .i64 i, .int .i64 t, .slice s'.A0 s'.n0 s'.c0, .slice s'.A1 s'.n1 s'.c1, .slice s'.A2 s'.n2 s'.c2, .slice s'.A3 s'.n3 s'.c3, .int .i64 (L : Int), .int .i64 (a : Int), .int .i64 x.tag, .slice D2 ps.length d2'] rfl rfl HT9.out info95 (by simp [Value.oneCell']) ?_
  have HR10 := Lib.hid (World.rangeAt_setCells_same w9 (g + 2) 0 [.int .u8 5, .int .i64 x.group, .int .i64 x.from_, .int .i64 x.to_, .int .i64 x.term, .int .i64 x.index, .int .i64 x.logterm, .int .i64 x.commit, .bool x.ok, .slice none 0 0, .int .i64 i, .int .i64 t, .slice s'.A0 s'.n0 s'.c0, .slice s'.A1 s'.n1 s'.c1, .slice s'.A2 s'.n2 s'.c2, .slice s'.A3 s'.n3 s'.c3, .int .i64 (L : Int), .int .i64 (a : Int), .int .i64 x.tag, .slice D2 ps.length d2'] HT9.out)
  have HO10 := Lib.hid (Ok.sets (b := g + 2) (by omega) [.int .u8 5, .int .i64 x.group, .int .i64 x.from_, .int .i64 x.to_, .int .i64 x.term, .int .i64 x.index, .int .i64 x.logterm, .int .i64 x.commit, .bool x.ok, .slice none 0 0, .int .i64 i, .int .i64 t, .slice s'.A0 s'.n0 s'.c0, .slice s'.A1 s'.n1 s'.c1, .slice s'.A2 s'.n2 s'.c2, .slice s'.A3 s'.n3 s'.c3, .int .i64 (L : Int), .int .i64 (a : Int), .int .i64 x.tag, .slice D2 ps.length d2'] 0 w9 HO9.out)
  have HC10 := Lib.hid ((sets_own [.int .u8 5, .int .i64 x.group, .int .i64 x.from_, .int .i64 x.to_, .int .i64 x.term, .int .i64 x.index, .int .i64 x.logterm, .int .i64 x.commit, .bool x.ok, .slice none 0 0, .int .i64 i, .int .i64 t, .slice s'.A0 s'.n0 s'.c0, .slice s'.A1 s'.n1 s'.c1, .slice s'.A2 s'.n2 s'.c2, .slice s'.A3 s'.n3 s'.c3, .int .i64 (L : Int), .int .i64 (a : Int), .int .i64 x.tag, .slice D2 ps.length d2'] 0 w9 w0.heap.size hy0).1 HC9.out)
  have HN10 := Lib.hid ((sets_own [.int .u8 5, .int .i64 x.group, .int .i64 x.from_, .int .i64 x.to_, .int .i64 x.term, .int .i64 x.index, .int .i64 x.logterm, .int .i64 x.commit, .bool x.ok, .slice none 0 0, .int .i64 i, .int .i64 t, .slice s'.A0 s'.n0 s'.c0, .slice s'.A1 s'.n1 s'.c1, .slice s'.A2 s'.n2 s'.c2, .slice s'.A3 s'.n3 s'.c3, .int .i64 (L : Int), .int .i64 (a : Int), .int .i64 x.tag, .slice D2 ps.length d2'] 0 w9 w1.heap.size hy1).2 HN9.out)
  generalize World.setCells w9 _ _ _ = w10 at *
  clear HR9 HO9 HC9 HN9 HT9
  try go_frame
  refine wpList_plain rfl (fun K hK => ?_)
  go_simp
  refine hK _ _ ?_
  clear hK K
  try go_frame
  refine wpList_nil ?_
  refine HK1.out _ _ ?_
  clear HK1
  go_wp2_with fail
  refine bodyPost_ret (v := .tuple #[.agg #[.int .u8 5, .int .i64 x.group, .int .i64 x.from_, .int .i64 x.to_, .int .i64 x.term, .int .i64 x.index, .int .i64 x.logterm, .int .i64 x.commit, .bool x.ok, .slice none 0 0, .int .i64 i, .int .i64 t, .slice s'.A0 s'.n0 s'.c0, .slice s'.A1 s'.n1 s'.c1, .slice s'.A2 s'.n2 s'.c2, .slice s'.A3 s'.n3 s'.c3, .int .i64 (L : Int), .int .i64 (a : Int), .int .i64 x.tag, .slice D2 ps.length d2'], .bool true]) ?_ rfl ?_
  · rw [results_cell_tmp Try.results67]
    show ((loadVar 95 ⟨g + 2, 0, none⟩).run Try.prog w10).andThen (fun v w₂ => Result.ok (Value.tuple #[v, Value.bool true]) w₂) = _
    rw [run_loadVar_mid _ _ _ 95 _ _ HR10.out Try.underlying95 rfl info95]
    rfl
  · refine ⟨s', D2, d2', ?_, HC10.out.lower (by have := HZ.out; have := HW0.out.size; omega), ?_, HO10.out⟩
    · rw [HEQ.out, HL.out]
    · rw [HEQ.out]
      exact HN10.out.lower (by have := HZ.out; have := HW0.out.size; have := HD1.out.size; omega)
end Go.Proofs.Ytolfdncmlfnbdaa
