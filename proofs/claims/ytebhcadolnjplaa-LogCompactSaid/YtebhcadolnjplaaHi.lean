/- The configuration in force. -/
import Derived.Test.YtebhcadolnjplaaHh
import Derived.Test.YtebhcadolnjplaaHg
namespace Go.Proofs.Ytebhcadolnjplaa
open Go.RowKit Go.Shelf

attribute [local go_sem] Oper.semAt_some

/-- A log, the configuration of its base, and which of its entries are configurations. -/
structure LogC (S : Nat → Prop) (L : LG) (c0 : Cfg) (w : World) : Prop where
  log : LogAt S L w
  cfg : CfgAt w L.s c0
  off : CfgOff S L.s
  xs : L.xs = mk (L.i + 1) L.es
  le : CfgLe c0
theorem LogC.ok {S : Nat → Prop} {L : LG} {c0 : Cfg} {w w' : World} (h : LogC S L c0 w) (k : Ok w w') : LogC S L c0 w' := ⟨h.log.ok k, h.cfg.ok k, h.off, h.xs, h.le⟩
theorem LogC.kp {S S' : Nat → Prop} {L : LG} {c0 : Cfg} {w w' : World} (h : LogC S L c0 w) (k : Kp S' w w') (hs : ∀ b, S' b → S b) (hn : ∀ b, Ow L.p L.AE L.AC b → ¬ S' b) : LogC S L c0 w' :=
  ⟨h.log.kp k hs hn, h.cfg.kp k ⟨h.off.o0.mono hs, h.off.o1.mono hs, h.off.o2.mono hs, h.off.o3.mono hs⟩, h.off, h.xs, h.le⟩
theorem mk_mem (l : List En) : ∀ (b y : Int), y ∈ mk b l → ∃ j : Nat, j < l.length ∧ y = b + j ∧ (enA l j).kind = 3 := by
  induction l with
  | nil => intro b y h; cases h
  | cons e l ih =>
    intro b y h
    rcases List.mem_append.1 h with h | h
    · by_cases he : e.kind = 3
      · rw [if_pos he] at h
        obtain rfl := List.mem_singleton.1 h
        exact ⟨0, by simp, by simp, by simpa [enA] using he⟩
      · rw [if_neg he] at h; cases h
    · obtain ⟨j, hj, e1, e2⟩ := ih (b + 1) y h
      exact ⟨j + 1, by simpa using hj, by push_cast; omega, by simpa [enA] using e2⟩
/-- The configuration in force at an index, and its own. -/
def forceE (c : Cfg) (k : Int) (x : Int) (b : Int) : List En → Cfg × Int
  | [] => (c, k)
  | e :: l => if e.kind = 3 ∧ b ≤ x then forceE e.cfg b x (b + 1) l else forceE c k x (b + 1) l
theorem force_none (x : Int) (l : List En) : ∀ (b : Int) (c : Cfg) (k : Int), (∀ y ∈ mk b l, x < y) → forceE c k x b l = (c, k) := by
  induction l with
  | nil => intro b c k _; rfl
  | cons e l ih =>
    intro b c k h
    have hn : ¬ (e.kind = 3 ∧ b ≤ x) := fun ⟨h1, h2⟩ => by
      have := h b (List.mem_append.2 (.inl (by rw [if_pos h1]; exact List.mem_singleton.2 rfl)))
      omega
    rw [forceE, if_neg hn]
    exact ih (b + 1) c k fun y hy => h y (List.mem_append.2 (.inr hy))
theorem force_some (x y : Int) (post : List Int) (l : List En) : ∀ (b : Int) (c : Cfg) (k : Int) (pre : List Int), mk b l = pre ++ y :: post → y ≤ x → (∀ z ∈ post, x < z) → forceE c k x b l = ((enA l (y - b).toNat).cfg, y) := by
  induction l with
  | nil => intro b c k pre h; cases pre <;> cases h
  | cons e l ih =>
    intro b c k pre h hy hp
    rw [mk] at h
    by_cases he : e.kind = 3
    · rw [if_pos he] at h
      cases pre with
      | nil =>
        simp only [List.singleton_append, List.nil_append, List.cons.injEq] at h
        obtain ⟨rfl, h⟩ := h
        rw [forceE, if_pos ⟨he, hy⟩, force_none x l _ _ _ (by rw [h]; exact hp)]
        simp [enA]
      | cons p pre =>
        simp only [List.cons_append, List.nil_append, List.cons.injEq] at h
        obtain ⟨-, h⟩ := h
        have hm : y ∈ mk (b + 1) l := by rw [h]; simp
        obtain ⟨j, _, e1, _⟩ := mk_mem l (b + 1) y hm
        have e2 : (enA (e :: l) (y - b).toNat).cfg = (enA l (y - (b + 1)).toNat).cfg := by
          rw [show (y - b).toNat = (y - (b + 1)).toNat + 1 from by omega]; simp [enA]
        rw [forceE, e2]
        split
        · exact ih (b + 1) _ _ pre h hy hp
        · exact ih (b + 1) _ _ pre h hy hp
    · rw [if_neg he, List.nil_append] at h
      have hm : y ∈ mk (b + 1) l := by rw [h]; simp
      obtain ⟨j, _, e1, _⟩ := mk_mem l (b + 1) y hm
      have e2 : (enA (e :: l) (y - b).toNat).cfg = (enA l (y - (b + 1)).toNat).cfg := by
        rw [show (y - b).toNat = (y - (b + 1)).toNat + 1 from by omega]; simp [enA]
      rw [forceE, if_neg (fun q => he q.1), e2]
      exact ih (b + 1) c k pre h hy hp
def inF (L : LG) (c0 : Cfg) (x : Int) : Cfg × Int := forceE c0 L.i x (L.i + 1) L.es
def CfgAtP (L : LG) (c0 : Cfg) (x : Int) (w : World) (e : Ending) (w' : World) : Prop :=
  ∃ s : S4, e = .returned (.tuple #[.agg #[.slice s.A0 s.n0 s.c0, .slice s.A1 s.n1 s.c1, .slice s.A2 s.n2 s.c2, .slice s.A3 s.n3 s.c3], .int .i64 (inF L c0 x).2]) ∧ CfgAt w' s (inF L c0 x).1 ∧ Ok w w'
set_option maxRecDepth 100000 in
theorem backward_f (A : Option Addr) (n c : Nat) (w : World) : Calls Try.prog 105 #[.slice A n c] w fun e w' => e = .returned (.func (.func 151) #[] #[.pointer (some ⟨w.heap.size, 0, none⟩)]) ∧ w' = w.alloc (.cells #[.slice A n c] 23) := by
  go_enter Try.func105, Try.ntmps105
  go_wp2_with fail
  go_ret
  exact ⟨rfl, rfl⟩
/-- The blocks that the search lays. -/
structure Fv (p : Nat) (x : Int) (sv : Value) (B : Nat) (W : World) : Prop where
  c0 : W.cell? ⟨B, 0, none⟩ = some (.pointer (some ⟨p, 0, none⟩))
  c1 : W.cell? ⟨B + 1, 0, none⟩ = some (.int .i64 x)
  cf : Fo (B + 2) (.slice none 0 0) (.slice none 0 0) (.slice none 0 0) (.slice none 0 0) W
  c3 : W.cell? ⟨B + 3, 0, none⟩ = some (.int .i64 0)
  f3 : W.frozen? ⟨B + 3, 0, none⟩ = false
  c4 : W.cell? ⟨B + 4, 0, none⟩ = some sv
theorem Fv.ok {p : Nat} {x : Int} {sv : Value} {B : Nat} {W W' : World} (h : Fv p x sv B W) (k : Ok W W') : Fv p x sv B W' :=
  ⟨k.cell h.c0, k.cell h.c1, h.cf.ok k, k.cell h.c3, by rw [Below.frozen k (p := ⟨B + 3, 0, none⟩) (World.block_lt_of_cell? _ _ h.c3)]; exact h.f3, k.cell h.c4⟩
theorem Fv.new (p : Nat) (x : Int) (sv : Value) (w : World) : Fv p x sv w.heap.size (((((w.alloc (.cells #[.pointer (some ⟨p, 0, none⟩)] 33)).alloc (.cells #[.int .i64 x] 3)).alloc (.cells #[.slice none 0 0, .slice none 0 0, .slice none 0 0, .slice none 0 0] 25)).alloc (.cells #[.int .i64 0] 3)).alloc (.cells #[sv] 23)) := by
  have k : ∀ (W : World) (o : Obj), Ok W (W.alloc o) := fun W o => (Ok.refl W).alloc o
  obtain ⟨w1, h1⟩ : ∃ w1, w.alloc (.cells #[.pointer (some ⟨p, 0, none⟩)] 33) = w1 := ⟨_, rfl⟩
  have s1 : w1.heap.size = w.heap.size + 1 := by rw [← h1, World.size_alloc]
  have c0 : w1.cell? ⟨w.heap.size, 0, none⟩ = some (.pointer (some ⟨p, 0, none⟩)) := by rw [← h1]; exact box_cell _ _ _ _ _ rfl
  rw [h1]
  obtain ⟨w2, h2⟩ : ∃ w2, w1.alloc (.cells #[.int .i64 x] 3) = w2 := ⟨_, rfl⟩
  have s2 : w2.heap.size = w.heap.size + 2 := by rw [← h2, World.size_alloc, s1]
  have c1 : w2.cell? ⟨w.heap.size + 1, 0, none⟩ = some (.int .i64 x) := by rw [← h2, ← s1]; exact box_cell _ _ _ _ _ rfl
  rw [h2]
  obtain ⟨w3, h3⟩ : ∃ w3, w2.alloc (.cells #[.slice none 0 0, .slice none 0 0, .slice none 0 0, .slice none 0 0] 25) = w3 := ⟨_, rfl⟩
  have s3 : w3.heap.size = w.heap.size + 3 := by rw [← h3, World.size_alloc, s2]
  have c2 : Fo (w.heap.size + 2) (.slice none 0 0) (.slice none 0 0) (.slice none 0 0) (.slice none 0 0) w3 := by rw [← h3, ← s2]; exact Fo.new _ _ _ _ _ _
  rw [h3]
  obtain ⟨w4, h4⟩ : ∃ w4, w3.alloc (.cells #[.int .i64 0] 3) = w4 := ⟨_, rfl⟩
  have s4 : w4.heap.size = w.heap.size + 4 := by rw [← h4, World.size_alloc, s3]
  have c3 : w4.cell? ⟨w.heap.size + 3, 0, none⟩ = some (.int .i64 0) := by rw [← h4, ← s3]; exact box_cell _ _ _ _ _ rfl
  have f3 : w4.frozen? ⟨w.heap.size + 3, 0, none⟩ = false := by rw [← h4, ← s3, World.frozen?, heap_alloc_new]; simp
  rw [h4]
  have c4 : (w4.alloc (.cells #[sv] 23)).cell? ⟨w.heap.size + 4, 0, none⟩ = some sv := by rw [← s4]; exact box_cell _ _ _ _ _ rfl
  have k1 : Ok w1 w2 := h2 ▸ k _ _
  have k2 : Ok w2 w3 := h3 ▸ k _ _
  have k3 : Ok w3 w4 := h4 ▸ k _ _
  have k4 := k w4 (.cells #[sv] 23)
  exact ⟨(((k1.trans k2).trans k3).trans k4).cell c0, ((k2.trans k3).trans k4).cell c1, c2.ok (k3.trans k4), k4.cell c3, by rw [Below.frozen k4 (p := ⟨w.heap.size + 3, 0, none⟩) (World.block_lt_of_cell? _ _ c3)]; exact f3, c4⟩
theorem er_s {r r' : ER} (e : ∀ k, k < 7 → r'.cells[k]? = r.cells[k]?) : r'.s = r.s := by
  have e3 := e 3 (by decide)
  have e4 := e 4 (by decide)
  have e5 := e 5 (by decide)
  have e6 := e 6 (by decide)
  obtain ⟨_, _, _, _, _, ⟨_, _, _, _, _, _, _, _, _, _, _, _⟩⟩ := r'
  obtain ⟨_, _, _, _, _, ⟨_, _, _, _, _, _, _, _, _, _, _, _⟩⟩ := r
  simp only [ER.cells, List.getElem?_cons_succ, List.getElem?_cons_zero, Option.some.injEq, Value.slice.injEq] at e3 e4 e5 e6
  simp only [S4.mk.injEq]
  exact ⟨e3.1, e3.2.1, e3.2.2, e4.1, e4.2.1, e4.2.2, e5.1, e5.2.1, e5.2.2, e6.1, e6.2.1, e6.2.2⟩
theorem keepsFrom_ok {W W' : World} (o : Ok W W') (B : Nat) : KeepsFrom B W W' := ⟨o.size, fun k _ _ hk _ => (o.block k (Array.getElem?_eq_some_iff.1 hk).1).trans hk⟩
theorem five_st {g : Nat} {v0 v1 v2 v3 u : Value} {W : World} (h : Fo g v0 v1 v2 v3 W) (h3 : W.cell? ⟨g + 1, 0, none⟩ = some u) (x0 x1 x2 x3 y : Value) :
    Fq g x0 x1 x2 x3 (((((W.setCell ⟨g, 0, none⟩ x0).setCell ⟨g, 1, none⟩ x1).setCell ⟨g, 2, none⟩ x2).setCell ⟨g, 3, none⟩ x3).setCell ⟨g + 1, 0, none⟩ y) ∧
    (((((W.setCell ⟨g, 0, none⟩ x0).setCell ⟨g, 1, none⟩ x1).setCell ⟨g, 2, none⟩ x2).setCell ⟨g, 3, none⟩ x3).setCell ⟨g + 1, 0, none⟩ y).cell? ⟨g + 1, 0, none⟩ = some y := by
  have e : ∀ (V : World) (j : Nat), (V.setCell ⟨g + 1, 0, none⟩ y).cell? ⟨g, j, none⟩ = V.cell? ⟨g, j, none⟩ := fun V j => World.cell?_setCell_far _ _ _ _ (by show g + 1 ≠ g; omega)
  have e' : ∀ (V : World) (j : Nat) (z : Value), (V.setCell ⟨g, j, none⟩ z).cell? ⟨g + 1, 0, none⟩ = V.cell? ⟨g + 1, 0, none⟩ := fun V j z => World.cell?_setCell_far _ _ _ _ (by show g ≠ g + 1; omega)
  refine ⟨⟨?_, ?_, ?_, ?_⟩, ?_⟩
  · rw [e, far_c _ _ _ _ _ (by decide), far_c _ _ _ _ _ (by decide), far_c _ _ _ _ _ (by decide)]; exact World.cell?_setCell_same _ _ _ h.c0
  · rw [e, far_c _ _ _ _ _ (by decide), far_c _ _ _ _ _ (by decide)]; exact World.cell?_setCell_same _ _ _ (by rw [far_c _ _ _ _ _ (by decide)]; exact h.c1)
  · rw [e, far_c _ _ _ _ _ (by decide)]; exact World.cell?_setCell_same _ _ _ (by rw [far_c _ _ _ _ _ (by decide), far_c _ _ _ _ _ (by decide)]; exact h.c2)
  · rw [e]; exact World.cell?_setCell_same _ _ _ (by rw [far_c _ _ _ _ _ (by decide), far_c _ _ _ _ _ (by decide), far_c _ _ _ _ _ (by decide)]; exact h.c3)
  · exact World.cell?_setCell_same _ _ _ (by rw [e', e', e', e']; exact h3)
/-- A part that comes to its end. -/
def QN (K : Act → World → Prop) : Exit → Act → World → Prop
  | .normal, a, w => K a w
  | _, _, _ => False
/-- How the search leaves: at the last place that is not behind the index. -/
def Lv (L : LG) (x : Int) (w : World) (c : Code) (pre : List (Pl L.xs.length)) (W : World) : Prop :=
  c = .ret ∧ (∃ (pre' : List (Pl L.xs.length)) (q : Pl L.xs.length) (s : S4), pre = pre' ++ [q] ∧ (∀ y ∈ pre', x < zAt L.xs y.1) ∧ zAt L.xs q.1 ≤ x ∧ CfgAt w s (enA L.es (zAt L.xs q.1 - (L.i + 1)).toNat).cfg ∧
    Fq (w.heap.size + 2) (.slice s.A0 s.n0 s.c0) (.slice s.A1 s.n1 s.c1) (.slice s.A2 s.n2 s.c2) (.slice s.A3 s.n3 s.c3) W ∧ W.cell? ⟨w.heap.size + 3, 0, none⟩ = some (.int .i64 (zAt L.xs q.1))) ∧ Below w.heap.size w W
theorem Lv.own (L : LG) (x : Int) (w : World) (B : Nat) (hB : w.heap.size ≤ B) (c : Code) : OwnFrom B (Lv L x w c) := by
  rintro pre W W' row ⟨hc, ⟨pre', q, s, e, h1, h2, h3, h4, h5⟩, hb⟩ hg hr
  have hr' : ∀ r, row = some r → ∃ o : Obj, W.heap[r]? = some o ∧ o.isCells = false := fun r e => (hr r e).2
  exact ⟨hc, ⟨pre', q, s, e, h1, h2, h3, ⟨cell_kept h4.c0 hg hr', cell_kept h4.c1 hg hr', cell_kept h4.c2 hg hr', cell_kept h4.c3 hg hr'⟩, cell_kept h5 hg hr'⟩, hb.grown hg hb.size (fun k e => Nat.le_trans hB (hr k e).1)⟩
set_option maxRecDepth 100000 in
set_option maxHeartbeats 4000000 in
theorem configAt_f (S : Nat → Prop) (L : LG) (c0 : Cfg) (x : Int) (w : World) (h : LogC S L c0 w) : Calls Try.prog 63 #[.pointer (some ⟨L.p, 0, none⟩), .int .i64 x] w (CfgAtP L c0 x w) := by
  refine (callsIn_wide (n := 3)).1 ?_
  have h1 : 1 ≤ 3 := by decide
  have c7 : ((((w.alloc (.cells #[.pointer (some ⟨L.p, 0, none⟩)] 33)).alloc (.cells #[.int .i64 x] 3)).alloc (.cells #[.slice none 0 0, .slice none 0 0, .slice none 0 0, .slice none 0 0] 25)).alloc (.cells #[.int .i64 0] 3)).cell? ⟨L.p, 7, none⟩ = some (.slice L.AC L.xs.length L.cC) := (((((Ok.refl w).alloc _).alloc _).alloc _).alloc _).cell h.log.box.c7
  have HC := Lib.hid h
  have HOK : Hid (Ok w (((((w.alloc (.cells #[.pointer (some ⟨L.p, 0, none⟩)] 33)).alloc (.cells #[.int .i64 x] 3)).alloc (.cells #[.slice none 0 0, .slice none 0 0, .slice none 0 0, .slice none 0 0] 25)).alloc (.cells #[.int .i64 0] 3)).alloc (.cells #[.slice L.AC L.xs.length L.cC] 23))) := Lib.hid ((((((Ok.refl w).alloc _).alloc _).alloc _).alloc _).alloc _)
  have HF := Lib.hid (Fv.new L.p x (.slice L.AC L.xs.length L.cC) w)
  clear h
  refine callsIn_of_wp_marks Try.func63 rfl trivial ?_ rfl
  simp only [Try.ntmps63, List.size_toArray, List.length_cons, List.length_nil, Nat.reduceAdd, Nat.reduceSub, Array.replicate_succ, Array.replicate_zero, List.push_toArray, List.append_toArray, List.nil_append, List.cons_append]
  gi_wp2_with (refine ⟨trivial, ?_⟩; gi_at_call 105; refine (callsIn_wide.2 (backward_f _ _ _ _)).mono ?_; rintro e w' ⟨rfl, rfl⟩)
  clear c7
  generalize (((((w.alloc (.cells #[.pointer (some ⟨L.p, 0, none⟩)] 33)).alloc (.cells #[.int .i64 x] 3)).alloc (.cells #[.slice none 0 0, .slice none 0 0, .slice none 0 0, .slice none 0 0] 25)).alloc (.cells #[.int .i64 0] 3)).alloc (.cells #[.slice L.AC L.xs.length L.cC] 23)) = W5 at *
  have hx6 : L.xs.length ≤ 1000000 := Nat.le_trans HC.out.log.lx (by decide)
  have HS5 : Hid (w.heap.size + 4 < W5.heap.size) := Lib.hid (World.block_lt_of_cell? _ _ HF.out.c4)
  have hii : InI W5 (.slice L.AC L.xs.length L.cC) L.xs := (HC.out.log.ok HOK.out).cfgs.ints (Nat.le_trans hx6 (by decide))
  have hib : ∀ b o k c, (.slice L.AC L.xs.length L.cC : Value) = .slice (some ⟨b, o, none⟩) k c → 0 < k → b < W5.heap.size := fun b o k c e h0 => hii.lt e h0
  refine wpIn_rangeFunc_ownG rfl h1 (gf := 151) (lb := #[.pointer (some ⟨w.heap.size + 1 + 1 + 1 + 1, 0, none⟩)]) rfl trivial (enters_of Try.func151 (by kernel_rfl) rfl)
    (back_stops (3 - 1) (by decide) (w.heap.size + 4) W5.heap.size (.slice L.AC L.xs.length L.cC) L.xs hx6 W5 HS5.out (Nat.le_refl _) HF.out.c4 hii hib) belowK_t (belowK_b (Nat.le_refl _)) (Below.refl _ _) (fun _ => rfl)
    (fun pre W => (∀ y ∈ pre, x < zAt L.xs y.1) ∧ Below W5.heap.size W5 W) (Lv L x w)
    (OwnFrom.and (fun _ _ _ _ hs _ _ => hs) (ownFrom_below (Nat.le_refl _) (Nat.le_refl _)))
    (Lv.own L x w W5.heap.size (by have := HS5.out; omega))
    ⟨fun _ hy => (by cases hy), Below.refl _ _⟩
    (fun q => { tmps := #[.pointer (some ⟨L.p, 0, none⟩), .int .i64 x, .pointer (some ⟨w.heap.size, 0, none⟩), .pointer (some ⟨w.heap.size + 1, 0, none⟩), .pointer (some ⟨w.heap.size + 1 + 1, 0, none⟩), .pointer (some ⟨w.heap.size + 1 + 1 + 1, 0, none⟩), undef, .int .i64 (zAt L.xs q.1), .pointer (some ⟨L.p, 0, none⟩), .pointer (some ⟨L.p, 0, none⟩), .pointer (some ⟨L.p, 7, none⟩), .slice L.AC L.xs.length L.cC, .func (.func 151) #[] #[.pointer (some ⟨w.heap.size + 1 + 1 + 1 + 1, 0, none⟩)], .int .i64 (q.1 : Int), .int .i64 (zAt L.xs q.1), undef, undef, undef, undef, undef, undef, undef, undef, undef, undef, undef, undef, undef, undef, undef, undef, undef, undef, undef, undef], defers := [] }) ?assign ?body ?done ?stop
  case assign =>
    intro l q W K hK
    gi_wp2
    exact hK
  case body =>
    rintro l pre q W ⟨hall, hB⟩ hlt
    have HAL := Lib.hid hall
    have HFW := Lib.hid (HF.out.ok hB)
    have HBW := Lib.hid hB
    have HOW : Hid (Ok w W) := Lib.hid (HOK.out.trans hB)
    have k1 : W.cell? ⟨w.heap.size + 1, 0, none⟩ = some (.int .i64 x) := HFW.out.c1
    have HMEM : Hid (zAt L.xs q.1 ∈ L.xs) := Lib.hid (by have := q.2; unfold zAt; simp [this])
    obtain ⟨j, hj, hz, hk3⟩ := mk_mem L.es (L.i + 1) (zAt L.xs q.1) (by rw [← HC.out.xs]; exact HMEM.out)
    have HZJ : Hid (zAt L.xs q.1 - (L.i + 1) = (j : Int)) := Lib.hid (by omega)
    have HLV : Hid (Lv L x w .ret (pre ++ [q]) W → True) := Lib.hid fun _ => trivial
    obtain ⟨g, r, hg, hr, hcs⟩ := (HC.out.log.ok HOW.out).at j hj
    have hat := at_f S L j W (HC.out.log.ok HOW.out) hj g hg
    have ez : L.i + (j : Int) + 1 = zAt L.xs q.1 := by omega
    rw [ez] at hat
    obtain ⟨zq, hzq⟩ : ∃ zq, zAt L.xs q.1 = zq := ⟨_, rfl⟩
    have HZQ := Lib.hid hzq
    have HGR : Hid (∃ r0, EnAt S w r0 (enA L.es j) ∧ r0.s = r.s) := Lib.hid (by
      obtain ⟨g', r', hg', hr', hcs'⟩ := HC.out.log.at j hj
      obtain rfl : g' = g := by rw [hg'] at hg; simpa using hg
      refine ⟨r', hr', ?_⟩
      have e : ∀ k, k < 7 → r'.cells[k]? = r.cells[k]? := fun k hk => by
        have a := hcs' k hk
        have d := hcs k hk
        have hl : k < r'.cells.length := hk
        rw [List.getElem?_eq_getElem hl] at a ⊢
        rw [HOW.out.cell a] at d
        exact d
      exact er_s e)
    rw [hzq] at hat ⊢
    clear hzq hz ez hall hB HLV
    have q3 : W.cell? ⟨g, j * 7 + 3, none⟩ = some (.slice r.s.A0 r.s.n0 r.s.c0) := hcs 3 (by decide)
    have q4 : W.cell? ⟨g, j * 7 + 4, none⟩ = some (.slice r.s.A1 r.s.n1 r.s.c1) := hcs 4 (by decide)
    have q5 : W.cell? ⟨g, j * 7 + 5, none⟩ = some (.slice r.s.A2 r.s.n2 r.s.c2) := hcs 5 (by decide)
    have q6 : W.cell? ⟨g, j * 7 + 6, none⟩ = some (.slice r.s.A3 r.s.n3 r.s.c3) := hcs 6 (by decide)
    clear hcs hr
    by_cases hle : zq ≤ x
    · have d1 : decide (zq ≤ x) = true := decide_eq_true hle
      have k0 : W.cell? ⟨w.heap.size, 0, none⟩ = some (.pointer (some ⟨L.p, 0, none⟩)) := HFW.out.c0
      gi_wp2
      refine ⟨trivial, ?_⟩
      refine (CallsIn.inRound l (callsIn_wide.2 hat)).mono ?_
      rintro e W1 ⟨rfl, o1⟩
      have HO1 := Lib.hid o1
      have b0 := (HFW.out.ok o1).cf.c0
      have b1 := (HFW.out.ok o1).cf.c1
      have b2 := (HFW.out.ok o1).cf.c2
      have b3 := (HFW.out.ok o1).cf.c3
      have b4 := (HFW.out.ok o1).c3
      have g0 := (HFW.out.ok o1).cf.f 0
      have g1 := (HFW.out.ok o1).cf.f 1
      have g2 := (HFW.out.ok o1).cf.f 2
      have g3 := (HFW.out.ok o1).cf.f 3
      have g4 := (HFW.out.ok o1).f3
      replace q3 := o1.cell q3
      replace q4 := o1.cell q4
      replace q5 := o1.cell q5
      replace q6 := o1.cell q6
      clear o1 hat k0 k1
      gi_wp2
      clear b0 b1 b2 b3 b4 g0 g1 g2 g3 g4 q3 q4 q5 q6
      have HF1 := Lib.hid (HFW.out.ok HO1.out)
      have HST := Lib.hid (five_st HF1.out.cf HF1.out.c3 (.slice r.s.A0 r.s.n0 r.s.c0) (.slice r.s.A1 r.s.n1 r.s.c1) (.slice r.s.A2 r.s.n2 r.s.c2) (.slice r.s.A3 r.s.n3 r.s.c3) (.int .i64 zq))
      refine ⟨(keepsFrom_ok HO1.out _).trans ?_, rfl, ⟨pre, q, r.s, rfl, HAL.out, by rw [HZQ.out]; exact hle, ?_, HST.out.1, by rw [HZQ.out]; exact HST.out.2⟩, ?_⟩
      · exact (((((KeepsOthers.setCell _ _ _).trans (KeepsOthers.setCell _ _ _)).trans (KeepsOthers.setCell _ _ _)).trans (KeepsOthers.setCell _ _ _)).trans (KeepsOthers.setCell _ _ _)).from _
      · obtain ⟨r0, hr0, hrs⟩ := HGR.out
        rw [HZJ.out, Int.toNat_natCast, ← hrs]
        exact hr0.cfg
      · have hw2 : w.heap.size ≤ w.heap.size + 2 := by omega
        have hw3 : w.heap.size ≤ w.heap.size + 3 := by omega
        show Below w.heap.size w _
        refine Below.setCell ?_ hw3 _
        (iterate 4 refine Below.setCell ?_ hw2 _)
        exact HOW.out.trans HO1.out
    · have d1 : decide (zq ≤ x) = false := decide_eq_false hle
      clear q3 q4 q5 q6 hat
      gi_wp2
      refine ⟨KeepsFrom.refl _ _, Below.refl _ _, ?_, HBW.out⟩
      have HA2 : ∀ y ∈ pre ++ [q], x < zAt L.xs y.1 := fun y hy => by
        rcases List.mem_append.1 hy with h | h
        · exact HAL.out y h
        · obtain rfl := List.mem_singleton.1 h
          rw [HZQ.out]; omega
      first
        | exact HA2
        | exact fun y hy hm => HA2 ⟨y, hy⟩ hm
  case done =>
    rintro D ys W hD ⟨hdn, hlen⟩ ⟨hall, hB⟩ hK
    have HD1 := Lib.hid hD
    have HK1 := Lib.hid hK
    have HOW : Hid (Ok w W) := Lib.hid (HOK.out.trans hB)
    have HFW := Lib.hid (HF.out.ok hB)
    have HCW := Lib.hid (HC.out.ok HOW.out)
    have HNO : Hid (inF L c0 x = (c0, L.i)) := Lib.hid (force_none _ _ _ _ _ (by
      rw [← HC.out.xs]
      intro y hy
      obtain ⟨i, hi, rfl⟩ := List.mem_iff_getElem.1 hy
      have hj : L.xs.length - 1 - i < ys.length := by omega
      have h1 := hdn _ hj
      have h2 := hall _ (List.getElem_mem hj)
      have h3 : (ys[L.xs.length - 1 - i]).1 = i := by omega
      rw [h3] at h2
      simpa [zAt, hi] using h2))
    clear hD hB hK hdn hlen hall
    have k0 : W.cell? ⟨w.heap.size, 0, none⟩ = some (.pointer (some ⟨L.p, 0, none⟩)) := HFW.out.c0
    have p0 := HCW.out.log.box.c0
    have p2 := HCW.out.log.box.c2
    have p3 := HCW.out.log.box.c3
    have p4 := HCW.out.log.box.c4
    have p5 := HCW.out.log.box.c5
    have HNP : Hid (L.p < w.heap.size) := Lib.hid (HC.out.log.lt L.p (.inl rfl))
    gi_wp2
    refine wpIn_wide.2 ?_
    rename_i K0 hK0
    have HK0 := Lib.hid hK0
    clear hK0
    refine wp_mono (Q := QN (K0)) ?_ (fun e a w h => by cases e <;> first | exact h | exact h.elim)
    refine Until.begin (S := fun V => V.cell? ⟨w.heap.size, 0, none⟩ = some (.pointer (some ⟨L.p, 0, none⟩)) ∧ V.cell? ⟨L.p, 0, none⟩ = some (.int .i64 L.i) ∧ V.cell? ⟨L.p, 2, none⟩ = some (.slice L.s.A0 L.s.n0 L.s.c0) ∧ V.cell? ⟨L.p, 3, none⟩ = some (.slice L.s.A1 L.s.n1 L.s.c1) ∧ V.cell? ⟨L.p, 4, none⟩ = some (.slice L.s.A2 L.s.n2 L.s.c2) ∧ V.cell? ⟨L.p, 5, none⟩ = some (.slice L.s.A3 L.s.n3 L.s.c3)) (j := 11) (by kernel_rfl) ?_ ?_
    · exact ⟨(Ok.refl W).drew.cell k0, (Ok.refl W).drew.cell p0, (Ok.refl W).drew.cell p2, (Ok.refl W).drew.cell p3, (Ok.refl W).drew.cell p4, (Ok.refl W).drew.cell p5⟩
    intro hS
    have HD : Hid (Ok W W.drew) := Lib.hid ((Ok.refl W).drew)
    generalize W.drew = V0 at *
    have HF0 := Lib.hid (HFW.out.ok HD.out)
    clear k0 p0 p2 p3 p4 p5
    refine Until.take (i := 0) (v := ?v0) rfl (by kernel_rfl) (by kernel_rfl) (by kernel_rfl) (by kernel_rfl) (fun _ _ _ h => h) (Or.inl ⟨by rfl, ?hy0⟩) hS ?rest0
    case hy0 => ((intro w hSw; (try dsimp only at hSw)); obtain ⟨s0, s1, s2, s3, s4, s5⟩ := hSw; go_simp; (try with_reducible rfl))
    try go_frame
    refine Until.take0 (i := 1) (v := ?v1) rfl (by kernel_rfl) (by kernel_rfl) (by kernel_rfl) (by kernel_rfl) (fun _ _ _ h => h) (Or.inl ⟨by rfl, ?hy1⟩) (fun _ => hS) ?rest1
    case hy1 => ((intro w hSw); clear hSw; go_simp; (try with_reducible rfl))
    try go_frame
    refine Until.take0 (i := 2) (v := ?v2) rfl (by kernel_rfl) (by kernel_rfl) (by kernel_rfl) (by kernel_rfl) (fun _ _ _ h => h) (Or.inl ⟨by rfl, ?hy2⟩) (fun _ => hS) ?rest2
    case hy2 => ((intro w hSw); clear hSw; go_simp; (try with_reducible rfl))
    try go_frame
    refine Until.take0 (i := 3) (v := ?v3) rfl (by kernel_rfl) (by kernel_rfl) (by kernel_rfl) (by kernel_rfl) (fun _ _ _ h => h) (Or.inl ⟨by rfl, ?hy3⟩) (fun _ => hS) ?rest3
    case hy3 => ((intro w hSw); clear hSw; go_simp; (try with_reducible rfl))
    try go_frame
    refine Until.take (i := 4) (v := ?v4) rfl (by kernel_rfl) (by kernel_rfl) (by kernel_rfl) (by kernel_rfl) (fun _ _ _ h => h) (Or.inl ⟨by rfl, ?hy4⟩) hS ?rest4
    case hy4 => ((intro w hSw; (try dsimp only at hSw)); obtain ⟨s0, s1, s2, s3, s4, s5⟩ := hSw; go_simp; (try with_reducible rfl))
    try go_frame
    refine Until.take (i := 5) (v := ?v5) rfl (by kernel_rfl) (by kernel_rfl) (by kernel_rfl) (by kernel_rfl) (fun _ _ _ h => h) (Or.inl ⟨by rfl, ?hy5⟩) hS ?rest5
    case hy5 => ((intro w hSw; (try dsimp only at hSw)); obtain ⟨s0, s1, s2, s3, s4, s5⟩ := hSw; go_simp; (try with_reducible rfl))
    try go_frame
    refine Until.take0 (i := 6) (v := ?v6) rfl (by kernel_rfl) (by kernel_rfl) (by kernel_rfl) (by kernel_rfl) (fun _ _ _ h => h) (Or.inl ⟨by rfl, ?hy6⟩) (fun _ => hS) ?rest6
    case hy6 => ((intro w hSw); clear hSw; go_simp; (try with_reducible rfl))
    try go_frame
    refine Until.take0 (i := 7) (v := ?v7) rfl (by kernel_rfl) (by kernel_rfl) (by kernel_rfl) (by kernel_rfl) (fun _ _ _ h => h) (Or.inl ⟨by rfl, ?hy7⟩) (fun _ => hS) ?rest7
    case hy7 => ((intro w hSw); clear hSw; go_simp; (try with_reducible rfl))
    try go_frame
    refine Until.take0 (i := 8) (v := ?v8) rfl (by kernel_rfl) (by kernel_rfl) (by kernel_rfl) (by kernel_rfl) (fun _ _ _ h => h) (Or.inl ⟨by rfl, ?hy8⟩) (fun _ => hS) ?rest8
    case hy8 => ((intro w hSw); clear hSw; go_simp; (try with_reducible rfl))
    try go_frame
    refine Until.take (i := 9) (v := ?v9) rfl (by kernel_rfl) (by kernel_rfl) (by kernel_rfl) (by kernel_rfl) (fun _ _ _ h => h) (Or.inl ⟨by rfl, ?hy9⟩) hS ?rest9
    case hy9 => ((intro w hSw; (try dsimp only at hSw)); obtain ⟨s0, s1, s2, s3, s4, s5⟩ := hSw; go_simp; (try with_reducible rfl))
    try go_frame
    have HS0 : Hid (_ ∧ _ ∧ _ ∧ _ ∧ _ ∧ _) := Lib.hid hS
    clear hS
    have b0 := HF0.out.cf.c0
    have b1 := HF0.out.cf.c1
    have b2 := HF0.out.cf.c2
    have b3 := HF0.out.cf.c3
    have b4 := HF0.out.c3
    have g0 := HF0.out.cf.f 0
    have g1 := HF0.out.cf.f 1
    have g2 := HF0.out.cf.f 2
    have g3 := HF0.out.cf.f 3
    have g4 := HF0.out.f3
    refine Until.one (i := 10) (by kernel_rfl) rfl (fun K hK => ?_)
    have HK := Lib.hid hK
    clear hK
    go_simp
    refine HK.out.out _ _ (fun _ => ?cells) (fun _ => ?_)
    case cells =>
      obtain ⟨s0, s1, s2, s3, s4, s5⟩ := HS0.out
      have hf : ∀ (V : World) (g j k : Nat) (z : Value), g ≠ w.heap.size + 2 → (V.setCell ⟨w.heap.size + 2, k, none⟩ z).cell? ⟨g, j, none⟩ = V.cell? ⟨g, j, none⟩ := fun V g j k z h => World.cell?_setCell_far _ _ _ _ (Ne.symm h)
      have n0 : w.heap.size ≠ w.heap.size + 2 := by omega
      have n1 : L.p ≠ w.heap.size + 2 := by have := HNP.out; omega
      refine ⟨?_, ?_, ?_, ?_, ?_, ?_⟩
      · rw [hf _ _ _ _ _ n0, hf _ _ _ _ _ n0, hf _ _ _ _ _ n0, hf _ _ _ _ _ n0]; exact s0
      · rw [hf _ _ _ _ _ n1, hf _ _ _ _ _ n1, hf _ _ _ _ _ n1, hf _ _ _ _ _ n1]; exact s1
      · rw [hf _ _ _ _ _ n1, hf _ _ _ _ _ n1, hf _ _ _ _ _ n1, hf _ _ _ _ _ n1]; exact s2
      · rw [hf _ _ _ _ _ n1, hf _ _ _ _ _ n1, hf _ _ _ _ _ n1, hf _ _ _ _ _ n1]; exact s3
      · rw [hf _ _ _ _ _ n1, hf _ _ _ _ _ n1, hf _ _ _ _ _ n1, hf _ _ _ _ _ n1]; exact s4
      · rw [hf _ _ _ _ _ n1, hf _ _ _ _ _ n1, hf _ _ _ _ _ n1, hf _ _ _ _ _ n1]; exact s5
    clear HK K
    try go_frame
    refine Until.one (i := 11) (by kernel_rfl) rfl (fun K hK => ?_)
    have HK := Lib.hid hK
    clear hK
    go_simp
    refine HK.out.out _ _ (fun h => absurd (h.symm.trans (by kernel_rfl : _ = true)) Bool.false_ne_true) (fun _ => ?_)
    clear HK K
    try go_frame
    clear b0 b1 b2 b3 b4 g0 g1 g2 g3 g4
    refine Until.done (by kernel_rfl) ?_ _
    refine HK0.out _ _ ?_
    clear HK0
    have HST := Lib.hid (five_st HF0.out.cf HF0.out.c3 (.slice L.s.A0 L.s.n0 L.s.c0) (.slice L.s.A1 L.s.n1 L.s.c1) (.slice L.s.A2 L.s.n2 L.s.c2) (.slice L.s.A3 L.s.n3 L.s.c3) (.int .i64 L.i))
    have HKF : Hid (KeepsOthers W V0) := Lib.hid ⟨HD.out.size, fun k _ hk _ => (HD.out.block k (Array.getElem?_eq_some_iff.1 hk).1).trans hk⟩
    have HBS : Hid (Ok w (((((V0.setCell ⟨w.heap.size + 2, 0, none⟩ (.slice L.s.A0 L.s.n0 L.s.c0)).setCell ⟨w.heap.size + 2, 1, none⟩ (.slice L.s.A1 L.s.n1 L.s.c1)).setCell ⟨w.heap.size + 2, 2, none⟩ (.slice L.s.A2 L.s.n2 L.s.c2)).setCell ⟨w.heap.size + 2, 3, none⟩ (.slice L.s.A3 L.s.n3 L.s.c3)).setCell ⟨w.heap.size + 3, 0, none⟩ (.int .i64 L.i))) := Lib.hid (by
      have hw2 : w.heap.size ≤ w.heap.size + 2 := by omega
      have hw3 : w.heap.size ≤ w.heap.size + 3 := by omega
      show Below w.heap.size w _
      refine Below.setCell ?_ hw3 _
      (iterate 4 refine Below.setCell ?_ hw2 _)
      exact HOW.out.trans HD.out)
    have hK' := ((HKF.out.trans (((((KeepsOthers.setCell V0 ⟨w.heap.size + 2, 0, none⟩ (.slice L.s.A0 L.s.n0 L.s.c0)).trans (KeepsOthers.setCell _ ⟨w.heap.size + 2, 1, none⟩ (.slice L.s.A1 L.s.n1 L.s.c1))).trans (KeepsOthers.setCell _ ⟨w.heap.size + 2, 2, none⟩ (.slice L.s.A2 L.s.n2 L.s.c2))).trans (KeepsOthers.setCell _ ⟨w.heap.size + 2, 3, none⟩ (.slice L.s.A3 L.s.n3 L.s.c3))).trans (KeepsOthers.setCell _ ⟨w.heap.size + 3, 0, none⟩ (.int .i64 L.i)))).same D _ HK1.out rfl)
    generalize (((((V0.setCell ⟨w.heap.size + 2, 0, none⟩ (.slice L.s.A0 L.s.n0 L.s.c0)).setCell ⟨w.heap.size + 2, 1, none⟩ (.slice L.s.A1 L.s.n1 L.s.c1)).setCell ⟨w.heap.size + 2, 2, none⟩ (.slice L.s.A2 L.s.n2 L.s.c2)).setCell ⟨w.heap.size + 2, 3, none⟩ (.slice L.s.A3 L.s.n3 L.s.c3)).setCell ⟨w.heap.size + 3, 0, none⟩ (.int .i64 L.i)) = V1 at *
    have HK2 := Lib.hid hK'
    clear hK'
    gi_wp2
    refine ⟨by simp, .inl ⟨_, _, rfl, run_takeDeferred HK2.out, ?_⟩⟩
    have hp : ∀ r, some D = some r → ∃ o : Obj, V1.heap[r]? = some o ∧ o.isCells = false := fun r e => by cases e; exact ⟨_, HK2.out, rfl⟩
    have z0 := cell_kept HST.out.1.c0 (grownBy_putObj' _ D (.deferred none)) hp
    have z1 := cell_kept HST.out.1.c1 (grownBy_putObj' _ D (.deferred none)) hp
    have z2 := cell_kept HST.out.1.c2 (grownBy_putObj' _ D (.deferred none)) hp
    have z3 := cell_kept HST.out.1.c3 (grownBy_putObj' _ D (.deferred none)) hp
    have z4 := cell_kept HST.out.2 (grownBy_putObj' _ D (.deferred none)) hp
    have HB2 : Hid (Ok w (V1.putObj D (.deferred none))) := Lib.hid ((show Below w.heap.size w V1 from HBS.out).trans (belowK_b (w := w) (Nat.le_refl _) V1 D _ _ (by have := HS5.out; have := HD1.out; omega) HK2.out rfl rfl))
    refine ⟨.tuple #[.agg #[.slice L.s.A0 L.s.n0 L.s.c0, .slice L.s.A1 L.s.n1 L.s.c1, .slice L.s.A2 L.s.n2 L.s.c2, .slice L.s.A3 L.s.n3 L.s.c3], .int .i64 L.i], ?_, L.s, by rw [HNO.out], by rw [HNO.out]; exact HC.out.cfg.ok HB2.out, HB2.out⟩
    simp [results, Try.f63, go_sem, z0, z1, z2, z3, z4]
  case stop =>
    rintro D c pre W hD hdn ⟨rfl, ⟨pre', q, s, rfl, hall, hle, hcf, hq, hq3⟩, hB⟩ hK
    have e : inF L c0 x = ((enA L.es (zAt L.xs q.1 - (L.i + 1)).toNat).cfg, zAt L.xs q.1) := by
      have hx : ∀ i (hi : i < L.xs.length), zAt L.xs i = L.xs[i] := fun i hi => by simp [zAt, hi]
      have hq1 := hdn pre'.length (by simp)
      rw [List.getElem_append_right (Nat.le_refl _)] at hq1
      simp only [Nat.sub_self, List.getElem_cons_zero] at hq1
      refine force_some x (zAt L.xs q.1) (L.xs.drop (q.1 + 1)) L.es (L.i + 1) c0 L.i (L.xs.take q.1) ?_ hle ?_
      · rw [← HC.out.xs, hx q.1 q.2, List.getElem_cons_drop, List.take_append_drop]
      · intro z hz
        obtain ⟨i, hi, rfl⟩ := List.mem_iff_getElem.1 hz
        rw [List.length_drop] at hi
        rw [List.getElem_drop, ← hx _ (by omega)]
        have hj : pre'.length - 1 - i < pre'.length := by omega
        have h1 := hdn (pre'.length - 1 - i) (by simp; omega)
        rw [List.getElem_append_left hj] at h1
        have h2 := hall _ (List.getElem_mem hj)
        have h3 : (pre'[pre'.length - 1 - i]).1 = q.1 + 1 + i := by omega
        rw [h3] at h2
        exact h2
    have HEQ := Lib.hid e
    clear e
    gi_wp2
    refine ⟨by simp, .inl ⟨_, _, rfl, run_takeDeferred hK, ?_⟩⟩
    have hp : ∀ r, some D = some r → ∃ o : Obj, W.heap[r]? = some o ∧ o.isCells = false := fun r e => by cases e; exact ⟨_, hK, rfl⟩
    have z0 := cell_kept hq.c0 (grownBy_putObj' _ D (.deferred none)) hp
    have z1 := cell_kept hq.c1 (grownBy_putObj' _ D (.deferred none)) hp
    have z2 := cell_kept hq.c2 (grownBy_putObj' _ D (.deferred none)) hp
    have z3 := cell_kept hq.c3 (grownBy_putObj' _ D (.deferred none)) hp
    have z4 := cell_kept hq3 (grownBy_putObj' _ D (.deferred none)) hp
    have HB2 : Hid (Ok w (W.putObj D (.deferred none))) := Lib.hid (hB.trans (belowK_b (w := w) (Nat.le_refl _) W D _ _ (by have := HS5.out; omega) hK rfl rfl))
    refine ⟨.tuple #[.agg #[.slice s.A0 s.n0 s.c0, .slice s.A1 s.n1 s.c1, .slice s.A2 s.n2 s.c2, .slice s.A3 s.n3 s.c3], .int .i64 (zAt L.xs q.1)], ?_, s, by rw [HEQ.out], by rw [HEQ.out]; exact hcf.ok HB2.out, HB2.out⟩
    simp [results, Try.f63, go_sem, z0, z1, z2, z3, z4]
end Go.Proofs.Ytebhcadolnjplaa
