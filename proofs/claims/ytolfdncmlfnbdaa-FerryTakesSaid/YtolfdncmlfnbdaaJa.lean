/- Rows of numbers in memory, rows of the call's own, their copies; whether two that are one are told to be the same. -/
import Derived.Test.YtolfdncmlfnbdaaLm
import Derived.Laws.OwnMore
import Derived.Lib.BufferMore
namespace Go.Proofs.Ytolfdncmlfnbdaa
open Go.RowKit

theorem OwnN.nil (w : World) (base : Nat) : OwnN w base (.slice none 0 0) [] := World.ownsRow_nil _ _ _ _
theorem OwnN.made (w : World) (base : Nat) (hb : base ≤ w.heap.size) : OwnN (w.alloc (.cells #[] 5)) base (.slice (some ⟨w.heap.size, 0, none⟩) 0 0) [] := by
  have := World.ownsRow_lit (base := base) (e := 5) (size := 1) w #[] 0 hb (by decide) (by decide)
  exact this
set_option maxHeartbeats 400000 in
theorem cloneI_f (v : Value) (xs : List Int) (W : World) (h : InI W v xs) (hl : xs.length ≤ 100000) :
    Calls Try.prog 104 #[v] W fun e w' => (∃ A cc, e = .returned (.slice A xs.length cc) ∧ OwnZ w' W.heap.size (.slice A xs.length cc) xs) ∧ Ok W w' := by
  have HA := Lib.hid h
  by_cases hv : ∃ c, v = .slice none 0 c
  · obtain ⟨c, rfl⟩ := hv
    have hx : xs = [] ∧ c = 0 := by
      rcases h with ⟨rfl, A, c', he, hc⟩ | ⟨b, o, c', he, _⟩
      · simp only [Value.slice.injEq] at he
        obtain ⟨rfl, _, rfl⟩ := he
        exact ⟨rfl, hc rfl⟩
      · simp at he
    obtain ⟨rfl, rfl⟩ := hx
    clear h HA
    have heq := fun w => Lib.run_eql_slice_nil_nil (P := Try.prog) w 0 0 Try.underlying22
    go_enter Try.func104, Try.ntmps104
    go_wp2_with fail
    go_ret
    exact ⟨⟨none, 0, rfl, OwnZ.nil _ _⟩, Ok.refl _⟩
  · have hv2 : ∃ ad c, v = .slice (some ad) xs.length c := by
      rcases h with ⟨rfl, A, c', rfl, hc⟩ | ⟨b, o, c', rfl, _⟩
      · cases A with
        | none => exact absurd ⟨c', rfl⟩ hv
        | some ad => exact ⟨ad, c', rfl⟩
      · exact ⟨_, _, rfl⟩
    obtain ⟨ad, c, rfl⟩ := hv2
    clear h hv
    have HO : Hid (OwnZ (W.alloc (.cells #[] 3)) W.heap.size (.slice (some ⟨W.heap.size, 0, none⟩) 0 0) []) := Lib.hid (OwnZ.made W _ (Nat.le_refl _))
    have HX : Hid (InI (W.alloc (.cells #[] 3)) (.slice (some ad) xs.length c) xs) := Lib.hid (((Ok.refl W).alloc _).ints HA.out)
    generalize hL : xs.length = L at *
    have HL := Lib.hid hL
    clear hL
    have heq := fun w => Lib.run_eql_slice_some_nil (P := Try.prog) w ad L c Try.underlying22
    go_enter Try.func104, Try.ntmps104
    go_wp2_with (at_builtin; go_must (refine wpList_appZ rfl (.tmp 5) (.tmp 6) rfl W.heap.size (.slice (some ⟨W.heap.size, 0, none⟩) 0 0) [] xs (.slice (some ad) L c) rfl rfl HO.out HX.out (by rw [HL.out]; simp; omega) (by rw [World.size_alloc]; omega) ?_; intro A' c' w2 hown2 hbel2; simp only [List.nil_append, List.length_nil, Nat.zero_add] at hown2 ⊢; have HOWN2 := Lib.hid hown2; have HBEL2 := Lib.hid hbel2; clear hown2 hbel2; rw [HL.out]))
    go_ret
    exact ⟨⟨_, _, rfl, by have := HOWN2.out; rwa [HL.out] at this⟩, Below.trans ((Ok.refl W).alloc _) HBEL2.out⟩

set_option maxHeartbeats 400000 in
theorem cloneB_f (v : Value) (xs : List B8) (W : World) (h : BytesIn W v xs) (hl : xs.length ≤ 140737488350000) :
    Calls Try.prog 125 #[v] W fun e w' => (∃ A cc, e = .returned (.slice A xs.length cc) ∧ OwnN w' W.heap.size (.slice A xs.length cc) xs) ∧ Ok W w' := by
  have HA := Lib.hid h
  by_cases hv : ∃ c, v = .slice none 0 c
  · obtain ⟨c, rfl⟩ := hv
    have hx : xs = [] ∧ c = 0 := by
      rcases h with ⟨rfl, A, c', he, hc⟩ | ⟨b, o, c', he, _⟩
      · simp only [Value.slice.injEq] at he
        obtain ⟨rfl, _, rfl⟩ := he
        exact ⟨rfl, hc rfl⟩
      · simp at he
    obtain ⟨rfl, rfl⟩ := hx
    clear h HA
    have heq := fun w => Lib.run_eql_slice_nil_nil (P := Try.prog) w 0 0 Try.underlying26
    go_enter Try.func125, Try.ntmps125
    go_wp2_with fail
    go_ret
    exact ⟨⟨none, 0, rfl, OwnN.nil _ _⟩, Ok.refl _⟩
  · have hv2 : ∃ ad c, v = .slice (some ad) xs.length c := by
      rcases h with ⟨rfl, A, c', rfl, hc⟩ | ⟨b, o, c', rfl, _⟩
      · cases A with
        | none => exact absurd ⟨c', rfl⟩ hv
        | some ad => exact ⟨ad, c', rfl⟩
      · exact ⟨_, _, rfl⟩
    obtain ⟨ad, c, rfl⟩ := hv2
    clear h hv
    have HO : Hid (OwnN (W.alloc (.cells #[] 5)) W.heap.size (.slice (some ⟨W.heap.size, 0, none⟩) 0 0) []) := Lib.hid (OwnN.made W _ (Nat.le_refl _))
    have HX : Hid (BytesIn (W.alloc (.cells #[] 5)) (.slice (some ad) xs.length c) xs) := Lib.hid (((Ok.refl W).alloc _).bytes HA.out)
    generalize hL : xs.length = L at *
    have HL := Lib.hid hL
    clear hL
    have heq := fun w => Lib.run_eql_slice_some_nil (P := Try.prog) w ad L c Try.underlying26
    go_enter Try.func125, Try.ntmps125
    go_wp2_with (at_builtin; go_must (refine wpList_app rfl (.tmp 5) (.tmp 6) rfl W.heap.size (.slice (some ⟨W.heap.size, 0, none⟩) 0 0) [] xs (.slice (some ad) L c) rfl rfl HO.out HX.out (by rw [HL.out]; simp; omega) (by rw [World.size_alloc]; omega) ?_; intro A' c' w2 hown2 hbel2; simp only [List.nil_append, List.length_nil, Nat.zero_add] at hown2 ⊢; have HOWN2 := Lib.hid hown2; have HBEL2 := Lib.hid hbel2; clear hown2 hbel2; rw [HL.out]))
    go_ret
    exact ⟨⟨_, _, rfl, by have := HOWN2.out; rwa [HL.out] at this⟩, Below.trans ((Ok.refl W).alloc _) HBEL2.out⟩


set_option maxRecDepth 100000 in
set_option maxHeartbeats 1000000 in
theorem sameInts_f (A B : Option Addr) (n m ca cb : Nat) (xs : List Int) (W : World) (ha : InI W (.slice A n ca) xs) (hb : InI W (.slice B m cb) xs) :
    Calls Try.prog 55 #[.slice A n ca, .slice B m cb] W fun e w' => e = .returned (.bool true) ∧ Ok W w' := by
  obtain ⟨A', ca', ea, hm⟩ := ha.form
  obtain ⟨B', cb', eb, -⟩ := hb.form
  simp only [Value.slice.injEq] at ea eb
  obtain ⟨rfl, rfl, rfl⟩ := ea
  obtain ⟨rfl, rfl, rfl⟩ := eb
  have HA := Lib.hid ha
  have HB := Lib.hid hb
  clear ha hb
  generalize hn : xs.length = n at *
  have HN := Lib.hid hn
  clear hn
  have hne : ((n : Int) != n) = false := by simp
  go_enter Try.func55, Try.ntmps55
  go_wp2_with fail
  go_loopw [5] (fun i wr => ∃ k : Nat, k ≤ n ∧ i = .int .i64 k ∧ Ok W wr) (fun i _ => n - (intOf i).toNat)
  case atStart => exact ⟨0, Nat.zero_le _, rfl, Ok.refl _⟩
  case round =>
    obtain ⟨k, hk, rfl, hok⟩ := hrel
    by_cases hlt : k < n
    · obtain ⟨b, o, rfl, hc⟩ := (HA.out.at rfl k hlt).2
      obtain ⟨b', o', rfl, hc'⟩ := (HB.out.at rfl k hlt).2
      have hx := hok.cell hc
      have hy := hok.cell hc'
      have HO := Lib.hid hok
      clear hc hc' hok
      generalize xs.getD k 0 = y at *
      have he : (y != y) = false := by simp
      have hi0 : (0 : Int) ≤ (k : Int) := Int.natCast_nonneg _
      have hi1 : (k : Int) < (n : Int) := by omega
      go_wp2_with fail
      go_quiet (fail)
      go_wp2_with fail
      go_roundw
      case rel => exact ⟨k + 1, by omega, by go_num, HO.out.drewN _⟩
      case measure => simp [intOf]; omega
    · have hke : k = n := by omega
      subst hke
      have HO := Lib.hid hok
      clear hok
      go_wp2_with fail
      go_ret
      exact ⟨rfl, HO.out⟩

/-- These four rows hold this configuration. -/
structure CfgAt (w : World) (s : S4) (c : Cfg) : Prop where
  h0 : InI w (.slice s.A0 s.n0 s.c0) c.vs
  h1 : InI w (.slice s.A1 s.n1 s.c1) c.os
  h2 : InI w (.slice s.A2 s.n2 s.c2) c.ls
  h3 : InI w (.slice s.A3 s.n3 s.c3) c.ws
theorem CfgAt.ok {w w' : World} {s : S4} {c : Cfg} (h : CfgAt w s c) (k : Ok w w') : CfgAt w' s c := ⟨k.ints h.h0, k.ints h.h1, k.ints h.h2, k.ints h.h3⟩
theorem OwnN.set {w : World} {base : Nat} {v : Value} {xs : List B8} (h : OwnN w base v xs) (g o : Nat) (x : Value) (hg : g < base) : OwnN (w.setCell ⟨g, o, none⟩ x) base v xs := by
  refine ⟨h.1, ?_⟩
  rcases h.2 with h0 | ⟨b, cap, cur, rfl, hb, hh, hr⟩
  · exact .inl h0
  · refine .inr ⟨b, cap, cur, rfl, hb, ?_, hr⟩
    rw [heap_setCell_other w ⟨g, o, none⟩ b x (fun e => by simp at e; omega)]
    exact hh
theorem OwnN.okk {w w' : World} {base : Nat} {v : Value} {xs : List B8} (h : OwnN w base v xs) (k : Ok w w') : OwnN w' base v xs := by
  refine ⟨h.1, ?_⟩
  rcases h.2 with h0 | ⟨g, cap, cur, rfl, hb, hg, hr⟩
  · exact .inl h0
  · refine .inr ⟨g, cap, cur, rfl, hb, ?_, hr⟩
    have hlt : g < w.heap.size := (Array.getElem?_eq_some_iff.1 hg).1
    obtain ⟨_, _, _, _, h5⟩ := k
    rw [← hg]; exact h5 g hlt
/-- Six cells of a block. -/
structure Six (g : Nat) (v0 v1 v2 v3 v4 v5 : Value) (w : World) : Prop where
  c0 : w.cell? ⟨g, 0, none⟩ = some v0
  c1 : w.cell? ⟨g, 1, none⟩ = some v1
  c2 : w.cell? ⟨g, 2, none⟩ = some v2
  c3 : w.cell? ⟨g, 3, none⟩ = some v3
  c4 : w.cell? ⟨g, 4, none⟩ = some v4
  c5 : w.cell? ⟨g, 5, none⟩ = some v5
  f : ∀ k, w.frozen? ⟨g, k, none⟩ = false
theorem Six.ok {g : Nat} {v0 v1 v2 v3 v4 v5 : Value} {w w' : World} (h : Six g v0 v1 v2 v3 v4 v5 w) (k : Ok w w') : Six g v0 v1 v2 v3 v4 v5 w' := by
  have hg := World.block_lt_of_cell? _ _ h.c0
  exact ⟨k.cell h.c0, k.cell h.c1, k.cell h.c2, k.cell h.c3, k.cell h.c4, k.cell h.c5, fun j => by rw [Below.frozen k (p := ⟨g, j, none⟩) hg]; exact h.f j⟩
theorem Six.new (w : World) (v0 v1 v2 v3 v4 v5 : Value) (t : TypeId) : Six w.heap.size v0 v1 v2 v3 v4 v5 (w.alloc (.cells #[v0, v1, v2, v3, v4, v5] t)) :=
  ⟨box_cell _ _ _ _ _ rfl, box_cell _ _ _ _ _ rfl, box_cell _ _ _ _ _ rfl, box_cell _ _ _ _ _ rfl, box_cell _ _ _ _ _ rfl, box_cell _ _ _ _ _ rfl, fun j => by rw [World.frozen?, heap_alloc_new]; simp⟩
theorem OwnZ.lower {w : World} {b b' : Nat} {v : Value} {xs : List Int} (h : OwnZ w b v xs) (k : b' ≤ b) : OwnZ w b' v xs := by
  refine ⟨h.1, ?_⟩
  rcases h.2 with h0 | ⟨g, cap, cur, rfl, hb, hh, hr⟩
  · exact .inl h0
  · exact .inr ⟨g, cap, cur, rfl, Nat.le_trans k hb, hh, hr⟩
theorem OwnN.lower {w : World} {b b' : Nat} {v : Value} {xs : List B8} (h : OwnN w b v xs) (k : b' ≤ b) : OwnN w b' v xs := by
  refine ⟨h.1, ?_⟩
  rcases h.2 with h0 | ⟨g, cap, cur, rfl, hb, hh, hr⟩
  · exact .inl h0
  · exact .inr ⟨g, cap, cur, rfl, Nat.le_trans k hb, hh, hr⟩
/-- These four rows hold this configuration, and are the call's own, from block base on. -/
structure CfgOwn (w : World) (base : Nat) (s : S4) (c : Cfg) : Prop where
  h0 : OwnZ w base (.slice s.A0 s.n0 s.c0) c.vs
  h1 : OwnZ w base (.slice s.A1 s.n1 s.c1) c.os
  h2 : OwnZ w base (.slice s.A2 s.n2 s.c2) c.ls
  h3 : OwnZ w base (.slice s.A3 s.n3 s.c3) c.ws
theorem CfgOwn.ok {w w' : World} {base : Nat} {s : S4} {c : Cfg} (h : CfgOwn w base s c) (k : Ok w w') : CfgOwn w' base s c := ⟨h.h0.ok k, h.h1.ok k, h.h2.ok k, h.h3.ok k⟩
theorem CfgOwn.lower {w : World} {base b' : Nat} {s : S4} {c : Cfg} (h : CfgOwn w base s c) (k : b' ≤ base) : CfgOwn w b' s c := ⟨h.h0.lower k, h.h1.lower k, h.h2.lower k, h.h3.lower k⟩
theorem CfgOwn.set {w : World} {base : Nat} {s : S4} {c : Cfg} (h : CfgOwn w base s c) (g o : Nat) (x : Value) (hg : g < base) : CfgOwn (w.setCell ⟨g, o, none⟩ x) base s c := ⟨h.h0.set g o x hg, h.h1.set g o x hg, h.h2.set g o x hg, h.h3.set g o x hg⟩
theorem CfgOwn.at {w : World} {base : Nat} {s : S4} {c : Cfg} (h : CfgOwn w base s c) (l0 : c.vs.length ≤ 100000) (l1 : c.os.length ≤ 100000) (l2 : c.ls.length ≤ 100000) (l3 : c.ws.length ≤ 100000) : CfgAt w s c :=
  ⟨h.h0.ints (by omega), h.h1.ints (by omega), h.h2.ints (by omega), h.h3.ints (by omega)⟩
end Go.Proofs.Ytolfdncmlfnbdaa
