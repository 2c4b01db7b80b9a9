/- Reads told: a row of reads of the call's own; the place where acts are done. -/
import Derived.Test.YthbbbjkgfdnkhaaDoorAd
import Derived.Maps.AppendAt
namespace Go.Proofs.YthbbbjkgfdnkhaaDoor
open Go.RowKit
structure Rd where
  key : Str
  is : Bool
  val : Str
def flat3 (xs : List Rd) : List Value := xs.flatMap fun r => [.string r.key, .bool r.is, .string r.val]
theorem flat3_append (xs ys : List Rd) : flat3 (xs ++ ys) = flat3 xs ++ flat3 ys := List.flatMap_append
theorem flat3_len (xs : List Rd) : (flat3 xs).length = xs.length * 3 := by
  induction xs with
  | nil => rfl
  | cons x xs ih =>
    have : flat3 (x :: xs) = [.string x.key, .bool x.is, .string x.val] ++ flat3 xs := rfl
    rw [this, List.length_append, ih, List.length_cons]
    simp only [List.length_cons, List.length_nil]
    omega
theorem flat3_one (xs : List Rd) : ∀ v ∈ flat3 xs, v.oneCell' = true := fun v hv => by
  obtain ⟨r, _, h⟩ := List.mem_flatMap.1 hv
  simp only [List.mem_cons, List.not_mem_nil, or_false] at h
  rcases h with rfl | rfl | rfl <;> rfl
theorem info57 : (Tryd.prog.info? 57).map (fun i => (i.zero, i.size, i.bytes)) = some (some (.agg #[.string ⟨#[]⟩, .bool false, .string ⟨#[]⟩]), 3, 40) := by kernel_rfl
theorem info_parts {T : TypeId} {z : Value} {s b : Nat} (h : (Tryd.prog.info? T).map (fun i => (i.zero, i.size, i.bytes)) = some (some z, s, b)) : ∃ i, Tryd.prog.info? T = some i ∧ i.zero = some z ∧ i.size = s ∧ i.bytes = b := by
  cases hi : Tryd.prog.info? T with
  | none => rw [hi] at h; cases h
  | some i =>
    rw [hi] at h
    simp only [Option.map_some, Option.some.injEq, Prod.mk.injEq] at h
    exact ⟨i, rfl, h.1, h.2.1, h.2.2⟩
/-- A row of reads of the call's own; it may be nil. -/
def OwnR (w : World) (base : Nat) (A : Option Addr) (n c : Nat) (xs : List Rd) : Prop := w.ownsRow base 57 3 (.slice A n c) xs.length (flat3 xs) ∧ n = xs.length
theorem OwnR.nil (w : World) (base : Nat) : OwnR w base none 0 0 [] := ⟨World.ownsRow_nil _ _ _ _, rfl⟩
theorem OwnR.alloc {w : World} {B : Nat} {A : Option Addr} {n c : Nat} {xs : List Rd} (h : OwnR w B A n c xs) (o : Obj) : OwnR (w.alloc o) B A n c xs := ⟨h.1.alloc o, h.2⟩
theorem OwnR.ok {w w' : World} {B : Nat} {A : Option Addr} {n c : Nat} {xs : List Rd} (h : OwnR w B A n c xs) (k : Ok w w') : OwnR w' B A n c xs := by
  refine ⟨h.1.kept (row := none) ⟨k.os, k.tape, k.output, k.size, fun i hi _ => k.block i hi⟩ ?_, h.2⟩
  cases Value.ownBlock (.slice A n c) with
  | none => exact .inl rfl
  | some b => exact .inr (fun e => by cases e)
/-- A read appended. -/
theorem wpList_appR {ops : Array Oper} {rest : List Oper} {o : Oper} {a : Act} {w : World} {Q : Exit → Act → World → Prop} (hgd : o.guard = none) (s x : Operand)
    (ho : o.op = .call { callee := .builtin .append, args := #[s, x], argTypes := #[28, 28] })
    (base : Nat) (A : Option Addr) (n c : Nat) (xs : List Rd) (hs : a.eval s = .slice A n c) (hown : OwnR w base A n c xs)
    (b : Nat) (y : Rd) (hx : a.eval x = .slice (some ⟨b, 0, none⟩) 1 1) (hc0 : w.cell? ⟨b, 0, none⟩ = some (.string y.key)) (hc1 : w.cell? ⟨b, 1, none⟩ = some (.bool y.is)) (hc2 : w.cell? ⟨b, 2, none⟩ = some (.string y.val)) (hlen : xs.length ≤ 100000) (hbase : base ≤ w.heap.size)
    (hk : ∀ A' c' w', OwnR w' base A' (n + 1) c' (xs ++ [y]) → Below base w w' → (∀ b, b < w.heap.size → (Value.slice A n c).ownBlock ≠ some b → w'.heap[b]? = w.heap[b]?) → wpList Tryd.prog ops Q rest (a.put o.dst (.slice A' (n + 1) c')) w') : wpList Tryd.prog ops Q (o :: rest) a w := by
  obtain ⟨i0, hi, hz0, hz1, hz2⟩ := info_parts info57
  obtain ⟨hown, rfl⟩ := hown
  refine wpList_append_own_at _ hgd s x 28 ho base 57 i0 (.agg #[.string ⟨#[]⟩, .bool false, .string ⟨#[]⟩]) 3 40 Tryd.underlying28 hi hz0 hz1 hz2 rfl (by decide) _ xs.length (flat3 xs) hs hown ⟨b, 0, none⟩ 1 1 (flat3 [y]) hx rfl ?_ (flat3_one [y]) (by unfold maxLen; omega) (by omega) hbase ?_
  · intro j u hu
    match j, hu with
    | 0, hu => obtain rfl : u = .string y.key := by simpa [flat3] using hu.symm
               exact hc0
    | 1, hu => obtain rfl : u = .bool y.is := by simpa [flat3] using hu.symm
               exact hc1
    | 2, hu => obtain rfl : u = .string y.val := by simpa [flat3] using hu.symm
               exact hc2
  intro v' w' h2 h3 _ _
  have hb : Below base w w' := (Below.refl base w).grown h3 hbase (fun k hk => (World.ownsRow.lt hown k hk).1)
  rw [← flat3_append] at h2
  rcases h2.2 with ⟨_, h5⟩ | ⟨g', cap', cur, rfl, _⟩
  · omega
  · exact hk _ _ w' ⟨by rw [List.length_append]; exact h2, by simp⟩ hb (fun b h6 h7 => h3.block b h6 (fun e => h7 e.symm))
/-- The place where acts are done, at block p. -/
structure Pl (p : Nat) (w : World) (A : Option Addr) (n c : Nat) (rs : List Rd) (is : Bool) (val : Str) (put : Bool) : Prop where
  c0 : w.cell? ⟨p, 0, none⟩ = some (.slice A n c)
  own : OwnR w (p + 1) A n c rs
  c1 : w.cell? ⟨p, 1, none⟩ = some (.bool is)
  c2 : w.cell? ⟨p, 2, none⟩ = some (.string val)
  c3 : w.cell? ⟨p, 3, none⟩ = some (.bool put)
  f0 : w.frozen? ⟨p, 0, none⟩ = false
  f1 : w.frozen? ⟨p, 1, none⟩ = false
  f2 : w.frozen? ⟨p, 2, none⟩ = false
  f3 : w.frozen? ⟨p, 3, none⟩ = false
theorem Pl.lt {p : Nat} {w : World} {A : Option Addr} {n c : Nat} {rs : List Rd} {is : Bool} {val : Str} {put : Bool} (h : Pl p w A n c rs is val put) : p < w.heap.size := World.block_lt_of_cell? _ _ h.c0
theorem Pl.ok {p : Nat} {w w' : World} {A : Option Addr} {n c : Nat} {rs : List Rd} {is : Bool} {val : Str} {put : Bool} (h : Pl p w A n c rs is val put) (k : Ok w w') : Pl p w' A n c rs is val put where
  c0 := k.cell h.c0
  own := h.own.ok k
  c1 := k.cell h.c1
  c2 := k.cell h.c2
  c3 := k.cell h.c3
  f0 := by rw [Below.frozen k (p := ⟨p, 0, none⟩) h.lt]; exact h.f0
  f1 := by rw [Below.frozen k (p := ⟨p, 1, none⟩) h.lt]; exact h.f1
  f2 := by rw [Below.frozen k (p := ⟨p, 2, none⟩) h.lt]; exact h.f2
  f3 := by rw [Below.frozen k (p := ⟨p, 3, none⟩) h.lt]; exact h.f3
theorem OwnR.set {w : World} {B p : Nat} {A : Option Addr} {n c : Nat} {xs : List Rd} (h : OwnR w B A n c xs) (hp : p < B) (i : Nat) (v : Value) : OwnR (w.setCell ⟨p, i, none⟩ v) B A n c xs := by
  refine ⟨World.ownsRow.kept (row := some p) h.1 ⟨rfl, rfl, rfl, by simp [World.setCell], fun k _ hk => heap_setCell_other w ⟨p, i, none⟩ k _ (fun e => hk (by simp [e]))⟩ ?_, h.2⟩
  rcases h.1.2 with ⟨h1, _⟩ | ⟨g', cap', cur, h1, hg', _⟩
  · exact .inl (by rw [h1]; rfl)
  · refine .inr (by rw [h1]; simp [Value.ownBlock]; omega)
theorem Pl.grow {p : Nat} {w w2 : World} {A A' : Option Addr} {n c n' c' : Nat} {rs ys : List Rd} {is : Bool} {val : Str} {put : Bool} (h : Pl p w A n c rs is val put) (hb : Below (p + 1) w w2) (ho : OwnR w2 (p + 1) A' n' c' ys) :
    Pl p (w2.setCell ⟨p, 0, none⟩ (.slice A' n' c')) A' n' c' ys is val put ∧ Below p w (w2.setCell ⟨p, 0, none⟩ (.slice A' n' c')) := by
  have k0 : w2.cell? ⟨p, 0, none⟩ = some (.slice A n c) := by rw [hb.cell (p := ⟨p, 0, none⟩) (Nat.lt_succ_self p)]; exact h.c0
  have k1 : w2.cell? ⟨p, 1, none⟩ = some (.bool is) := by rw [hb.cell (p := ⟨p, 1, none⟩) (Nat.lt_succ_self p)]; exact h.c1
  have k2 : w2.cell? ⟨p, 2, none⟩ = some (.string val) := by rw [hb.cell (p := ⟨p, 2, none⟩) (Nat.lt_succ_self p)]; exact h.c2
  have k3 : w2.cell? ⟨p, 3, none⟩ = some (.bool put) := by rw [hb.cell (p := ⟨p, 3, none⟩) (Nat.lt_succ_self p)]; exact h.c3
  have g0 : w2.frozen? ⟨p, 0, none⟩ = false := by rw [hb.frozen (p := ⟨p, 0, none⟩) (Nat.lt_succ_self p)]; exact h.f0
  have g1 : w2.frozen? ⟨p, 1, none⟩ = false := by rw [hb.frozen (p := ⟨p, 1, none⟩) (Nat.lt_succ_self p)]; exact h.f1
  have g2 : w2.frozen? ⟨p, 2, none⟩ = false := by rw [hb.frozen (p := ⟨p, 2, none⟩) (Nat.lt_succ_self p)]; exact h.f2
  have g3 : w2.frozen? ⟨p, 3, none⟩ = false := by rw [hb.frozen (p := ⟨p, 3, none⟩) (Nat.lt_succ_self p)]; exact h.f3
  exact ⟨⟨by go_simp, ho.set (Nat.lt_succ_self p) _ _, by go_simp, by go_simp, by go_simp, by go_simp, by go_simp, by go_simp, by go_simp⟩, (hb.mono (Nat.le_succ p)).setCell (Nat.le_refl _) _⟩
theorem OwnR.not57 {w : World} {B : Nat} {A : Option Addr} {n c : Nat} {xs : List Rd} (h : OwnR w B A n c xs) {b : Nat} (hty : ∀ cs fz, w.heap[b]? ≠ some (.cells cs 57 fz)) : (Value.slice A n c).ownBlock ≠ some b := by
  rcases h.1.2 with ⟨h1, _⟩ | ⟨g, cap, cur, h1, _, h8, _⟩
  · rw [h1]; intro e; cases e
  · rw [h1]; intro e
    have e2 : g = b := by simpa [Value.ownBlock] using e
    subst e2
    exact hty _ _ h8
/-- Of what was there at most block p has turned, and rows of reads. -/
def Kq (p : Nat) (w w' : World) : Prop := ∀ b, b ≠ p → b < w.heap.size → (∀ cs fz, w.heap[b]? ≠ some (.cells cs 57 fz)) → w'.heap[b]? = w.heap[b]?
/-- What is left of a place by a call on it. -/
def PlP (p : Nat) (w : World) (rs : List Rd) (is : Bool) (val : Str) (put : Bool) (e : Ending) (w' : World) : Prop := e = .returned (.tuple #[]) ∧ (∃ A n c, Pl p w' A n c rs is val put) ∧ Below p w w' ∧ Kq p w w'
set_option maxHeartbeats 1000000 in
theorem tell_w (p : Nat) (w : World) (A : Option Addr) (n c : Nat) (rs : List Rd) (is : Bool) (val : Str) (put : Bool) (h : Pl p w A n c rs is val put) (hl : rs.length ≤ 10000) (y : Rd) :
    Calls Tryd.prog 47 #[.pointer (some ⟨p, 0, none⟩), .string y.key, .bool y.is, .string y.val] w (PlP p w (rs ++ [y]) is val put) := by
  have HP := Lib.hid h
  have hp := h.lt
  have h0 := h.c0
  have h1 := h.f0
  obtain ⟨key, i, v⟩ := y
  simp only
  clear h
  have oa := Lib.hid ((Ok.refl w).alloc (.cells #[.string key, .bool i, .string v] 57))
  have HO := Lib.hid (HP.out.own.ok oa.out)
  have S0 : (w.alloc (.cells #[.string key, .bool i, .string v] 57)).cell? ⟨w.heap.size, 0, none⟩ = some (.string key) := by rw [World.cell?_alloc_at _ _ _ _ rfl]; rfl
  have S1 : (w.alloc (.cells #[.string key, .bool i, .string v] 57)).cell? ⟨w.heap.size, 1, none⟩ = some (.bool i) := by rw [World.cell?_alloc_at _ _ _ _ rfl]; rfl
  have S2 : (w.alloc (.cells #[.string key, .bool i, .string v] 57)).cell? ⟨w.heap.size, 2, none⟩ = some (.string v) := by rw [World.cell?_alloc_at _ _ _ _ rfl]; rfl
  have HS := Lib.hid (And.intro S0 (And.intro S1 S2))
  clear S0 S1 S2
  go_enter Tryd.func47, Tryd.ntmps47
  go_wp2_with (at_builtin; go_must (refine wpList_appR rfl (.tmp 12) (.tmp 17) rfl (p + 1) A n c rs rfl HO.out w.heap.size ⟨key, i, v⟩ rfl HS.out.1 HS.out.2.1 HS.out.2.2 (by omega) (by have := oa.out.size; omega) ?_; intro A' c' w2 hown2 hbel2 hst2; have HST := Lib.hid hst2; clear hst2; have hb2 : Below (p + 1) w w2 := Below.trans (Below.mono oa.out (by omega)) hbel2; have HB2 := Lib.hid hb2; have HOWN := Lib.hid hown2; have k0 : w2.cell? ⟨p, 0, none⟩ = some (.slice A n c) := (by rw [hb2.cell (p := ⟨p, 0, none⟩) (Nat.lt_succ_self p)]; exact h0); have k1 : w2.frozen? ⟨p, 0, none⟩ = false := (by rw [hb2.frozen (p := ⟨p, 0, none⟩) (Nat.lt_succ_self p)]; exact h1); clear hown2 hbel2 hb2))
  go_end0
  have hg := HP.out.grow HB2.out HOWN.out
  refine ⟨rfl, ⟨_, _, _, hg.1⟩, hg.2, fun b hb hlt hty => ?_⟩
  rw [Below.heap_setCell _ _ _ _ hb]
  have hlt2 : b < (w.alloc (.cells #[.string key, .bool i, .string v] 57)).heap.size := Nat.lt_of_lt_of_le hlt oa.out.size
  rw [HST.out b hlt2 (HP.out.own.not57 hty)]
  exact oa.out.block b hlt
end Go.Proofs.YthbbbjkgfdnkhaaDoor
