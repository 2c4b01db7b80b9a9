/- Rows of numbers in memory, rows of the call's own, their copies; whether two that are one are told to be the same. -/
import Derived.Test.YtebhcadolnjplaaD
import Derived.Laws.OwnMore
import Derived.Lib.BufferMore
namespace Go.Proofs.Ytebhcadolnjplaa
open Go.RowKit

def zv (n : Int) : Value := .int .i64 n
/-- The value v is a list of numbers in memory: these. -/
def InI (w : World) (v : Value) (xs : List Int) : Prop :=
  (xs = [] ∧ ∃ A c, v = .slice A 0 c ∧ (A = none → c = 0)) ∨ ∃ b o c, v = .slice (some ⟨b, o, none⟩) xs.length c ∧ xs.length ≤ c ∧ xs.length ≤ 17592186044416 ∧ ∀ i, i < xs.length → w.cell? ⟨b, o + i, none⟩ = some (.int .i64 (xs.getD i 0))
theorem Ok.ints {w w' : World} {v : Value} {xs : List Int} (h : Ok w w') (t : InI w v xs) : InI w' v xs := by
  rcases t with t | ⟨b, o, c, rfl, hn, hm, hc⟩
  · exact .inl t
  · exact .inr ⟨b, o, c, rfl, hn, hm, fun i hi => h.cell (hc i hi)⟩
theorem InI.form {w : World} {v : Value} {xs : List Int} (h : InI w v xs) : ∃ A c, v = .slice A xs.length c ∧ xs.length ≤ 17592186044416 := by
  rcases h with ⟨rfl, A, c, rfl, _⟩ | ⟨b, o, c, rfl, _, hm, _⟩
  · exact ⟨_, _, rfl, by simp⟩
  · exact ⟨_, _, rfl, hm⟩
theorem InI.nil (w : World) : InI w (.slice none 0 0) [] := .inl ⟨rfl, _, _, rfl, fun _ => rfl⟩
theorem InI.at {w : World} {v : Value} {xs : List Int} {A : Option Addr} {n c : Nat} (h : InI w v xs) (hv : v = .slice A n c) (i : Nat) (hi : i < n) : n = xs.length ∧ ∃ b o, A = some ⟨b, o, none⟩ ∧ w.cell? ⟨b, o + i, none⟩ = some (.int .i64 (xs.getD i 0)) := by
  rcases h with ⟨rfl, A', c', rfl, _⟩ | ⟨b, o, c', rfl, _, _, hc⟩
  · simp only [Value.slice.injEq] at hv; omega
  · simp only [Value.slice.injEq] at hv
    obtain ⟨rfl, rfl, rfl⟩ := hv
    exact ⟨rfl, b, o, rfl, hc i hi⟩
theorem ints_new (w : World) (xs : List Int) (cells : Array Value) (t : TypeId) (fz : Nat × Nat) (g n c : Nat) (hg : g = w.heap.size) (hn : n = xs.length) (hcn : n ≤ c) (h : xs.length ≤ 17592186044416) (hc : cells.toList = xs.map zv) :
    InI (w.alloc (.cells cells t fz)) (.slice (some ⟨g, 0, none⟩) n c) xs := by
  subst hg; subst hn
  refine .inr ⟨w.heap.size, 0, c, rfl, hcn, h, fun i hi => ?_⟩
  rw [cell_of_row _ _ _ _ _ _ (heap_alloc_new w _), ← Array.getElem?_toList, hc]
  simp [hi, zv]

theorem info3z : (Try.prog.info? 3).map (fun i => (i.zero, i.size, i.bytes)) = some (some (.int .i64 0), 1, 8) := by kernel_rfl
/-- A row of the call's own, from block base on, that holds these numbers; it may be nil. -/
def OwnZ (w : World) (base : Nat) (v : Value) (xs : List Int) : Prop := w.ownsRow base 3 1 v xs.length (xs.map zv)
theorem OwnZ.form {w : World} {base : Nat} {v : Value} {xs : List Int} (h : OwnZ w base v xs) : ∃ A c, v = .slice A xs.length c := by
  rcases h.2 with ⟨rfl, h0⟩ | ⟨g, cap, cur, rfl, _⟩
  · exact ⟨none, 0, by rw [h0]⟩
  · exact ⟨_, _, rfl⟩
theorem OwnZ.ints {w : World} {base : Nat} {v : Value} {xs : List Int} (h : OwnZ w base v xs) (hm : xs.length ≤ 17592186044416) : InI w v xs := by
  rcases h.2 with ⟨rfl, h0⟩ | ⟨g, cap, cur, rfl, _, _, hn, _⟩
  · exact .inl ⟨List.length_eq_zero_iff.1 h0, _, _, rfl, fun _ => rfl⟩
  · refine .inr ⟨g, 0, cap, rfl, hn, hm, fun i hi => ?_⟩
    rw [Nat.zero_add, World.ownsRow.cellAt h i (by omega)]
    simp [hi, zv]
theorem OwnZ.nil (w : World) (base : Nat) : OwnZ w base (.slice none 0 0) [] := World.ownsRow_nil _ _ _ _
theorem OwnZ.made (w : World) (base : Nat) (hb : base ≤ w.heap.size) : OwnZ (w.alloc (.cells #[] 3)) base (.slice (some ⟨w.heap.size, 0, none⟩) 0 0) [] := by
  have := World.ownsRow_lit (base := base) (e := 3) (size := 1) w #[] 0 hb (by decide) (by decide)
  exact this
theorem OwnZ.ok {w w' : World} {base : Nat} {v : Value} {xs : List Int} (h : OwnZ w base v xs) (k : Ok w w') : OwnZ w' base v xs := by
  refine ⟨h.1, ?_⟩
  rcases h.2 with h0 | ⟨g, cap, cur, rfl, hb, hg, hr⟩
  · exact .inl h0
  · refine .inr ⟨g, cap, cur, rfl, hb, ?_, hr⟩
    have hlt : g < w.heap.size := (Array.getElem?_eq_some_iff.1 hg).1
    obtain ⟨_, _, _, _, h5⟩ := k
    rw [← hg]; exact h5 g hlt
theorem wpList_appZ {ops : Array Oper} {rest : List Oper} {o : Oper} {a : Act} {w : World} {Q : Exit → Act → World → Prop} (hgd : o.guard = none) (s x : Operand)
    (ho : o.op = .call { callee := .builtin .append, args := #[s, x], argTypes := #[23, 23] })
    (base : Nat) (v : Value) (xs ys : List Int) (vx : Value) (hs : a.eval s = v) (hx : a.eval x = vx) (hown : OwnZ w base v xs) (hy : InI w vx ys)
    (hlen : xs.length + ys.length ≤ 1000000) (hbase : base ≤ w.heap.size)
    (h : ∀ A c w', OwnZ w' base (.slice A (xs.length + ys.length) c) (xs ++ ys) → Below base w w' → wpList Try.prog ops Q rest (a.put o.dst (.slice A (xs.length + ys.length) c)) w') : wpList Try.prog ops Q (o :: rest) a w := by
  obtain ⟨i0, hi, hz0, hz1, hz2⟩ := info_parts info3z
  have hlate : ∀ v' w', w'.ownsRow base 3 1 v' (xs.length + ys.length) (xs.map zv ++ ys.map zv) → w.grownBy w' v.ownBlock → wpList Try.prog ops Q rest (a.put o.dst v') w' := by
    intro v' w' h2 h3
    have hb : Below base w w' := (Below.refl base w).grown h3 hbase (fun k hk => (World.ownsRow.lt hown k hk).1)
    have h2' : OwnZ w' base v' (xs ++ ys) := by unfold OwnZ; rw [List.map_append, List.length_append]; exact h2
    obtain ⟨A, c, rfl⟩ := h2'.form
    rw [List.length_append] at h2' ⊢
    exact h A c w' h2' hb
  rcases hy with ⟨rfl, A, c, rfl, hA⟩ | ⟨b, off, c, rfl, _, hm, hc⟩
  · cases A with
    | some ad =>
      refine wpList_append_own _ hgd s x 23 ho base 3 i0 (.int .i64 0) 1 8 Try.underlying23 hi hz0 hz1 hz2 rfl (by decide) _ xs.length (xs.map zv) hs hown ad 0 c [] hx rfl (fun j u hu => by simp at hu) (fun u hu => by simp at hu) (by unfold maxLen; simp at hlen; omega) (by simp at hlen; omega) hbase ?_
      intro v' w' h2 h3 _
      exact hlate v' w' h2 h3
    | none =>
      obtain rfl := hA rfl
      refine wpList_append_own_none hgd s x 23 ho base 3 i0 1 Try.underlying23 hi _ xs.length (xs.map zv) hs hown hx ?_
      exact hlate v w (by have := hown; unfold OwnZ at this; simpa using this) ⟨rfl, rfl, rfl, Nat.le_refl _, fun _ _ _ => rfl⟩
  · refine wpList_append_own _ hgd s x 23 ho base 3 i0 (.int .i64 0) 1 8 Try.underlying23 hi hz0 hz1 hz2 rfl (by decide) _ xs.length (xs.map zv) hs hown ⟨b, off, none⟩ ys.length c (ys.map zv) hx (by simp) ?_ ?_ (by unfold maxLen; omega) (by omega) hbase ?_
    · intro j u hu
      have hj : j < ys.length := by
        by_cases hl : j < ys.length
        · exact hl
        · rw [List.getElem?_eq_none (by simp; omega)] at hu; cases hu
      have e : (⟨b, off, none⟩ : Addr).add j = ⟨b, off + j, none⟩ := by unfold Addr.add; split <;> simp_all
      rw [e, hc j hj, ← hu]
      simp [hj, zv]
    · intro u hu
      obtain ⟨y, _, rfl⟩ := List.mem_map.1 hu
      rfl
    · intro v' w' h2 h3 _
      exact hlate v' w' h2 h3


theorem OwnN.nil (w : World) (base : Nat) : OwnN w base (.slice none 0 0) [] := World.ownsRow_nil _ _ _ _
theorem OwnN.made (w : World) (base : Nat) (hb : base ≤ w.heap.size) : OwnN (w.alloc (.cells #[] 5)) base (.slice (some ⟨w.heap.size, 0, none⟩) 0 0) [] := by
  have := World.ownsRow_lit (base := base) (e := 5) (size := 1) w #[] 0 hb (by decide) (by decide)
  exact this
set_option maxHeartbeats 400000 in
theorem cloneI_f (v : Value) (xs : List Int) (W : World) (h : InI W v xs) (hl : xs.length ≤ 1000) :
    Calls Try.prog 106 #[v] W fun e w' => (∃ A cc, e = .returned (.slice A xs.length cc) ∧ OwnZ w' W.heap.size (.slice A xs.length cc) xs) ∧ Ok W w' := by
  have HA := Lib.hid h
  by_cases hv : ∃ c, v = .slice none 0 c
  · obtain ⟨c, rfl⟩ := hv
    have hx : xs = [] ∧ c = 0 := by
      rcases h with ⟨rfl, A, c', he, hc⟩ | ⟨b, o, c', he, _⟩
      · simp only [Value.slice.injEq] at he
        obtain ⟨rfl, _, rfl⟩ := he
        exact ⟨rfl, hc rfl⟩
      · simp at he
    obtain ⟨rfl, rfl⟩ := hx
    clear h HA
    have heq := fun w => Lib.run_eql_slice_nil_nil (P := Try.prog) w 0 0 Try.underlying23
    go_enter Try.func106, Try.ntmps106
    go_wp2_with fail
    go_ret
    exact ⟨⟨none, 0, rfl, OwnZ.nil _ _⟩, Ok.refl _⟩
  · have hv2 : ∃ ad c, v = .slice (some ad) xs.length c := by
      rcases h with ⟨rfl, A, c', rfl, hc⟩ | ⟨b, o, c', rfl, _⟩
      · cases A with
        | none => exact absurd ⟨c', rfl⟩ hv
        | some ad => exact ⟨ad, c', rfl⟩
      · exact ⟨_, _, rfl⟩
    obtain ⟨ad, c, rfl⟩ := hv2
    clear h hv
    have HO : Hid (OwnZ (W.alloc (.cells #[] 3)) W.heap.size (.slice (some ⟨W.heap.size, 0, none⟩) 0 0) []) := Lib.hid (OwnZ.made W _ (Nat.le_refl _))
    have HX : Hid (InI (W.alloc (.cells #[] 3)) (.slice (some ad) xs.length c) xs) := Lib.hid (((Ok.refl W).alloc _).ints HA.out)
    generalize hL : xs.length = L at *
    have HL := Lib.hid hL
    clear hL
    have heq := fun w => Lib.run_eql_slice_some_nil (P := Try.prog) w ad L c Try.underlying23
    go_enter Try.func106, Try.ntmps106
    go_wp2_with (at_builtin; go_must (refine wpList_appZ rfl (.tmp 5) (.tmp 6) rfl W.heap.size (.slice (some ⟨W.heap.size, 0, none⟩) 0 0) [] xs (.slice (some ad) L c) rfl rfl HO.out HX.out (by rw [HL.out]; simp; omega) (by rw [World.size_alloc]; omega) ?_; intro A' c' w2 hown2 hbel2; simp only [List.nil_append, List.length_nil, Nat.zero_add] at hown2 ⊢; have HOWN2 := Lib.hid hown2; have HBEL2 := Lib.hid hbel2; clear hown2 hbel2; rw [HL.out]))
    go_ret
    exact ⟨⟨_, _, rfl, by have := HOWN2.out; rwa [HL.out] at this⟩, Below.trans ((Ok.refl W).alloc _) HBEL2.out⟩

set_option maxHeartbeats 400000 in
theorem cloneB_f (v : Value) (xs : List B8) (W : World) (h : BytesIn W v xs) (hl : xs.length ≤ 140737488350000) :
    Calls Try.prog 104 #[v] W fun e w' => (∃ A cc, e = .returned (.slice A xs.length cc) ∧ OwnN w' W.heap.size (.slice A xs.length cc) xs) ∧ Ok W w' := by
  have HA := Lib.hid h
  by_cases hv : ∃ c, v = .slice none 0 c
  · obtain ⟨c, rfl⟩ := hv
    have hx : xs = [] ∧ c = 0 := by
      rcases h with ⟨rfl, A, c', he, hc⟩ | ⟨b, o, c', he, _⟩
      · simp only [Value.slice.injEq] at he
        obtain ⟨rfl, _, rfl⟩ := he
        exact ⟨rfl, hc rfl⟩
      · simp at he
    obtain ⟨rfl, rfl⟩ := hx
    clear h HA
    have heq := fun w => Lib.run_eql_slice_nil_nil (P := Try.prog) w 0 0 Try.underlying42
    go_enter Try.func104, Try.ntmps104
    go_wp2_with fail
    go_ret
    exact ⟨⟨none, 0, rfl, OwnN.nil _ _⟩, Ok.refl _⟩
  · have hv2 : ∃ ad c, v = .slice (some ad) xs.length c := by
      rcases h with ⟨rfl, A, c', rfl, hc⟩ | ⟨b, o, c', rfl, _⟩
      · cases A with
        | none => exact absurd ⟨c', rfl⟩ hv
        | some ad => exact ⟨ad, c', rfl⟩
      · exact ⟨_, _, rfl⟩
    obtain ⟨ad, c, rfl⟩ := hv2
    clear h hv
    have HO : Hid (OwnN (W.alloc (.cells #[] 5)) W.heap.size (.slice (some ⟨W.heap.size, 0, none⟩) 0 0) []) := Lib.hid (OwnN.made W _ (Nat.le_refl _))
    have HX : Hid (BytesIn (W.alloc (.cells #[] 5)) (.slice (some ad) xs.length c) xs) := Lib.hid (((Ok.refl W).alloc _).bytes HA.out)
    generalize hL : xs.length = L at *
    have HL := Lib.hid hL
    clear hL
    have heq := fun w => Lib.run_eql_slice_some_nil (P := Try.prog) w ad L c Try.underlying42
    go_enter Try.func104, Try.ntmps104
    go_wp2_with (at_builtin; go_must (refine wpList_app rfl (.tmp 5) (.tmp 6) rfl W.heap.size (.slice (some ⟨W.heap.size, 0, none⟩) 0 0) [] xs (.slice (some ad) L c) rfl rfl HO.out HX.out (by rw [HL.out]; simp; omega) (by rw [World.size_alloc]; omega) ?_; intro A' c' w2 hown2 hbel2; simp only [List.nil_append, List.length_nil, Nat.zero_add] at hown2 ⊢; have HOWN2 := Lib.hid hown2; have HBEL2 := Lib.hid hbel2; clear hown2 hbel2; rw [HL.out]))
    go_ret
    exact ⟨⟨_, _, rfl, by have := HOWN2.out; rwa [HL.out] at this⟩, Below.trans ((Ok.refl W).alloc _) HBEL2.out⟩


set_option maxRecDepth 100000 in
set_option maxHeartbeats 1000000 in
theorem sameInts_f (A B : Option Addr) (n m ca cb : Nat) (xs : List Int) (W : World) (ha : InI W (.slice A n ca) xs) (hb : InI W (.slice B m cb) xs) :
    Calls Try.prog 65 #[.slice A n ca, .slice B m cb] W fun e w' => e = .returned (.bool true) ∧ Ok W w' := by
  obtain ⟨A', ca', ea, hm⟩ := ha.form
  obtain ⟨B', cb', eb, -⟩ := hb.form
  simp only [Value.slice.injEq] at ea eb
  obtain ⟨rfl, rfl, rfl⟩ := ea
  obtain ⟨rfl, rfl, rfl⟩ := eb
  have HA := Lib.hid ha
  have HB := Lib.hid hb
  clear ha hb
  generalize hn : xs.length = n at *
  have HN := Lib.hid hn
  clear hn
  have hne : ((n : Int) != n) = false := by simp
  go_enter Try.func65, Try.ntmps65
  go_wp2_with fail
  go_loopw [5] (fun i wr => ∃ k : Nat, k ≤ n ∧ i = .int .i64 k ∧ Ok W wr) (fun i _ => n - (intOf i).toNat)
  case atStart => exact ⟨0, Nat.zero_le _, rfl, Ok.refl _⟩
  case round =>
    obtain ⟨k, hk, rfl, hok⟩ := hrel
    by_cases hlt : k < n
    · obtain ⟨b, o, rfl, hc⟩ := (HA.out.at rfl k hlt).2
      obtain ⟨b', o', rfl, hc'⟩ := (HB.out.at rfl k hlt).2
      have hx := hok.cell hc
      have hy := hok.cell hc'
      have HO := Lib.hid hok
      clear hc hc' hok
      generalize xs.getD k 0 = y at *
      have he : (y != y) = false := by simp
      have hi0 : (0 : Int) ≤ (k : Int) := Int.natCast_nonneg _
      have hi1 : (k : Int) < (n : Int) := by omega
      go_wp2_with fail
      go_quiet (fail)
      go_wp2_with fail
      go_roundw
      case rel => exact ⟨k + 1, by omega, by go_num, HO.out.drewN _⟩
      case measure => simp [intOf]; omega
    · have hke : k = n := by omega
      subst hke
      have HO := Lib.hid hok
      clear hok
      go_wp2_with fail
      go_ret
      exact ⟨rfl, HO.out⟩

/-- Four rows. -/
structure S4 where
  A0 : Option Addr
  n0 : Nat
  c0 : Nat
  A1 : Option Addr
  n1 : Nat
  c1 : Nat
  A2 : Option Addr
  n2 : Nat
  c2 : Nat
  A3 : Option Addr
  n3 : Nat
  c3 : Nat
/-- What a configuration holds. -/
structure Cfg where
  vs : List Int
  os : List Int
  ls : List Int
  ws : List Int
/-- These four rows hold this configuration. -/
structure CfgAt (w : World) (s : S4) (c : Cfg) : Prop where
  h0 : InI w (.slice s.A0 s.n0 s.c0) c.vs
  h1 : InI w (.slice s.A1 s.n1 s.c1) c.os
  h2 : InI w (.slice s.A2 s.n2 s.c2) c.ls
  h3 : InI w (.slice s.A3 s.n3 s.c3) c.ws
theorem CfgAt.ok {w w' : World} {s : S4} {c : Cfg} (h : CfgAt w s c) (k : Ok w w') : CfgAt w' s c := ⟨k.ints h.h0, k.ints h.h1, k.ints h.h2, k.ints h.h3⟩
theorem OwnZ.set {w : World} {base : Nat} {v : Value} {xs : List Int} (h : OwnZ w base v xs) (g o : Nat) (x : Value) (hg : g < base) : OwnZ (w.setCell ⟨g, o, none⟩ x) base v xs := by
  refine ⟨h.1, ?_⟩
  rcases h.2 with h0 | ⟨b, cap, cur, rfl, hb, hh, hr⟩
  · exact .inl h0
  · refine .inr ⟨b, cap, cur, rfl, hb, ?_, hr⟩
    rw [heap_setCell_other w ⟨g, o, none⟩ b x (fun e => by simp at e; omega)]
    exact hh
theorem OwnN.set {w : World} {base : Nat} {v : Value} {xs : List B8} (h : OwnN w base v xs) (g o : Nat) (x : Value) (hg : g < base) : OwnN (w.setCell ⟨g, o, none⟩ x) base v xs := by
  refine ⟨h.1, ?_⟩
  rcases h.2 with h0 | ⟨b, cap, cur, rfl, hb, hh, hr⟩
  · exact .inl h0
  · refine .inr ⟨b, cap, cur, rfl, hb, ?_, hr⟩
    rw [heap_setCell_other w ⟨g, o, none⟩ b x (fun e => by simp at e; omega)]
    exact hh
theorem OwnN.okk {w w' : World} {base : Nat} {v : Value} {xs : List B8} (h : OwnN w base v xs) (k : Ok w w') : OwnN w' base v xs := by
  refine ⟨h.1, ?_⟩
  rcases h.2 with h0 | ⟨g, cap, cur, rfl, hb, hg, hr⟩
  · exact .inl h0
  · refine .inr ⟨g, cap, cur, rfl, hb, ?_, hr⟩
    have hlt : g < w.heap.size := (Array.getElem?_eq_some_iff.1 hg).1
    obtain ⟨_, _, _, _, h5⟩ := k
    rw [← hg]; exact h5 g hlt
/-- Six cells of a block. -/
structure Six (g : Nat) (v0 v1 v2 v3 v4 v5 : Value) (w : World) : Prop where
  c0 : w.cell? ⟨g, 0, none⟩ = some v0
  c1 : w.cell? ⟨g, 1, none⟩ = some v1
  c2 : w.cell? ⟨g, 2, none⟩ = some v2
  c3 : w.cell? ⟨g, 3, none⟩ = some v3
  c4 : w.cell? ⟨g, 4, none⟩ = some v4
  c5 : w.cell? ⟨g, 5, none⟩ = some v5
  f : ∀ k, w.frozen? ⟨g, k, none⟩ = false
theorem Six.ok {g : Nat} {v0 v1 v2 v3 v4 v5 : Value} {w w' : World} (h : Six g v0 v1 v2 v3 v4 v5 w) (k : Ok w w') : Six g v0 v1 v2 v3 v4 v5 w' := by
  have hg := World.block_lt_of_cell? _ _ h.c0
  exact ⟨k.cell h.c0, k.cell h.c1, k.cell h.c2, k.cell h.c3, k.cell h.c4, k.cell h.c5, fun j => by rw [Below.frozen k (p := ⟨g, j, none⟩) hg]; exact h.f j⟩
theorem box_cell (w : World) (cs : Array Value) (t : TypeId) (j : Nat) (v : Value) (h : cs[j]? = some v) : (w.alloc (.cells cs t)).cell? ⟨w.heap.size, j, none⟩ = some v := by
  rw [cell_of_row _ _ _ _ _ _ (heap_alloc_new w _)]; exact h
theorem Six.new (w : World) (v0 v1 v2 v3 v4 v5 : Value) (t : TypeId) : Six w.heap.size v0 v1 v2 v3 v4 v5 (w.alloc (.cells #[v0, v1, v2, v3, v4, v5] t)) :=
  ⟨box_cell _ _ _ _ _ rfl, box_cell _ _ _ _ _ rfl, box_cell _ _ _ _ _ rfl, box_cell _ _ _ _ _ rfl, box_cell _ _ _ _ _ rfl, box_cell _ _ _ _ _ rfl, fun j => by rw [World.frozen?, heap_alloc_new]; simp⟩
theorem OwnZ.lower {w : World} {b b' : Nat} {v : Value} {xs : List Int} (h : OwnZ w b v xs) (k : b' ≤ b) : OwnZ w b' v xs := by
  refine ⟨h.1, ?_⟩
  rcases h.2 with h0 | ⟨g, cap, cur, rfl, hb, hh, hr⟩
  · exact .inl h0
  · exact .inr ⟨g, cap, cur, rfl, Nat.le_trans k hb, hh, hr⟩
theorem OwnN.lower {w : World} {b b' : Nat} {v : Value} {xs : List B8} (h : OwnN w b v xs) (k : b' ≤ b) : OwnN w b' v xs := by
  refine ⟨h.1, ?_⟩
  rcases h.2 with h0 | ⟨g, cap, cur, rfl, hb, hh, hr⟩
  · exact .inl h0
  · exact .inr ⟨g, cap, cur, rfl, Nat.le_trans k hb, hh, hr⟩
/-- These four rows hold this configuration, and are the call's own, from block base on. -/
structure CfgOwn (w : World) (base : Nat) (s : S4) (c : Cfg) : Prop where
  h0 : OwnZ w base (.slice s.A0 s.n0 s.c0) c.vs
  h1 : OwnZ w base (.slice s.A1 s.n1 s.c1) c.os
  h2 : OwnZ w base (.slice s.A2 s.n2 s.c2) c.ls
  h3 : OwnZ w base (.slice s.A3 s.n3 s.c3) c.ws
theorem CfgOwn.ok {w w' : World} {base : Nat} {s : S4} {c : Cfg} (h : CfgOwn w base s c) (k : Ok w w') : CfgOwn w' base s c := ⟨h.h0.ok k, h.h1.ok k, h.h2.ok k, h.h3.ok k⟩
theorem CfgOwn.lower {w : World} {base b' : Nat} {s : S4} {c : Cfg} (h : CfgOwn w base s c) (k : b' ≤ base) : CfgOwn w b' s c := ⟨h.h0.lower k, h.h1.lower k, h.h2.lower k, h.h3.lower k⟩
theorem CfgOwn.set {w : World} {base : Nat} {s : S4} {c : Cfg} (h : CfgOwn w base s c) (g o : Nat) (x : Value) (hg : g < base) : CfgOwn (w.setCell ⟨g, o, none⟩ x) base s c := ⟨h.h0.set g o x hg, h.h1.set g o x hg, h.h2.set g o x hg, h.h3.set g o x hg⟩
theorem CfgOwn.at {w : World} {base : Nat} {s : S4} {c : Cfg} (h : CfgOwn w base s c) (l0 : c.vs.length ≤ 1000) (l1 : c.os.length ≤ 1000) (l2 : c.ls.length ≤ 1000) (l3 : c.ws.length ≤ 1000) : CfgAt w s c :=
  ⟨h.h0.ints (by omega), h.h1.ints (by omega), h.h2.ints (by omega), h.h3.ints (by omega)⟩
end Go.Proofs.Ytebhcadolnjplaa
