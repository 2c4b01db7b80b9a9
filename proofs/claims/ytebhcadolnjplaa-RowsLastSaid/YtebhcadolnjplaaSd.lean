/- Rows: a row is laid into a table. -/
import Derived.Test.YtebhcadolnjplaaSc
namespace Go.Proofs.Ytebhcadolnjplaa
open Go.RowKit

theorem OwnR.cell2 {w : World} {B g n c : Nat} {l : List Rw} (h : OwnR w B (some ⟨g, 0, none⟩) n c l) (j : Nat) (hj : j < n) : w.cell? ⟨g, j * 2, none⟩ = some (.string (rwA l j).key) ∧ w.cell? ⟨g, j * 2 + 1, none⟩ = some (.string (rwA l j).val) := by
  obtain ⟨b, off, e, h0, h1⟩ := h.rows j (by rw [h.1]; exact hj)
  simp only [Option.some.injEq, Addr.mk.injEq] at e
  obtain ⟨rfl, rfl, _⟩ := e
  rw [Nat.zero_add] at h0 h1
  exact ⟨h0, h1⟩
theorem OwnR.froz {w : World} {B g n c : Nat} {l : List Rw} (h : OwnR w B (some ⟨g, 0, none⟩) n c l) (j : Nat) : w.frozen? ⟨g, j, none⟩ = false := World.ownsRow.frozenAt h.2 j
theorem flat2_set (l : List Rw) (k : Nat) (a b : Str) : ((flat2 l).set (k * 2) (.string a)).set (k * 2 + 1) (.string b) = flat2 (l.set k ⟨a, b⟩) := by
  induction l generalizing k with
  | nil => simp [flat2]
  | cons x s ih =>
    have e : ∀ (y : Rw) (t : List Rw), flat2 (y :: t) = .string y.key :: .string y.val :: flat2 t := fun y t => rfl
    cases k with
    | zero => exact rfl
    | succ k =>
      rw [e, List.set_cons_succ, e, ← ih k, show (k + 1) * 2 = k * 2 + 1 + 1 from by omega]
      rfl
theorem OwnR.set {w : World} {B g n c : Nat} {l : List Rw} (h : OwnR w B (some ⟨g, 0, none⟩) n c l) (k : Nat) (a b : Str) :
    OwnR ((w.setCell ⟨g, k * 2, none⟩ (.string a)).setCell ⟨g, k * 2 + 1, none⟩ (.string b)) B (some ⟨g, 0, none⟩) n c (l.set k ⟨a, b⟩) := by
  refine ⟨by rw [List.length_set]; exact h.1, ?_⟩
  rw [← flat2_set]
  exact (World.ownsRow.stored (World.ownsRow.stored h.2 _ _).1 _ _).1
theorem ownsRow_base {w : World} {B B' e size n : Nat} {v : Value} {xs : List Value} (h : w.ownsRow B e size v n xs) (hb : B' ≤ B) : w.ownsRow B' e size v n xs := by
  refine ⟨h.1, ?_⟩
  rcases h.2 with q | ⟨g, cap, cur, e1, e2, r⟩
  · exact .inl q
  · exact .inr ⟨g, cap, cur, e1, Nat.le_trans hb e2, r⟩
theorem OwnR.far {w : World} {B p : Nat} {A : Option Addr} {n c : Nat} {l : List Rw} (h : OwnR w B A n c l) (hp : p < B) (o : Nat) (v : Value) : OwnR (w.setCell ⟨p, o, none⟩ v) B A n c l :=
  ⟨h.1, h.2.1, by
    rcases h.2.2 with q | ⟨g, cap, cur, e1, e2, e3, r⟩
    · exact .inl q
    · exact .inr ⟨g, cap, cur, e1, e2, by rw [Below.heap_setCell w ⟨p, o, none⟩ v g (by show g ≠ p; omega)]; exact e3, r⟩⟩
/-- A table whose rows lie in a younger block. -/
structure TabY (p : Nat) (A : Option Addr) (n c : Nat) (l : List Rw) (w : World) : Prop where
  c0 : w.cell? ⟨p, 0, none⟩ = some (.slice A n c)
  c1 : w.cell? ⟨p, 1, none⟩ = some (.bool true)
  f : ∀ k, w.frozen? ⟨p, k, none⟩ = false
  own : OwnR w (p + 1) A n c l
theorem TabY.tab {p : Nat} {A : Option Addr} {n c : Nat} {l : List Rw} {w : World} (h : TabY p A n c l w) : TabAt p A n c l w :=
  ⟨h.c0, h.c1, h.f, ⟨h.own.1, ownsRow_base h.own.2 (Nat.zero_le _)⟩, fun a e => by have := (h.own.2.lt a.block (by rw [e]; rfl)).1; omega⟩
def LayP (p : Nat) (l : List Rw) (r : Rw) (W : World) (e : Ending) (w' : World) : Prop := e = .returned (.tuple #[]) ∧ ∃ A' n' c' l', Laid l r l' ∧ TabY p A' n' c' l' w' ∧ Below p W w'
set_option maxRecDepth 100000 in
set_option maxHeartbeats 4000000 in
theorem lay_f (p : Nat) (A : Option Addr) (n c : Nat) (l : List Rw) (km vm : Str) (W : World) (h : TabY p A n c l W) (hn : n ≤ 100000) (hr : Rises l) :
    Calls Try.prog 92 #[.pointer (some ⟨p, 0, none⟩), .agg #[.string km, .string vm]] W (LayP p l ⟨km, vm⟩ W) := by
  have hpl := h.tab.lt
  obtain ⟨q, hq⟩ : ∃ q, W.heap.size = q := ⟨_, rfl⟩
  have HQC : Hid ((W.alloc (.cells #[.string km, .string vm] 105)).cell? ⟨q, 0, none⟩ = some (.string km) ∧ (W.alloc (.cells #[.string km, .string vm] 105)).cell? ⟨q, 1, none⟩ = some (.string vm)) := Lib.hid (by rw [← hq]; exact two_new W _ _ _)
  have HO0 : Hid (Ok W (W.alloc (.cells #[.string km, .string vm] 105))) := Lib.hid ((Ok.refl W).alloc _)
  have HQ := Lib.hid hq
  have HT := Lib.hid h
  have HB := Lib.hid h.own
  have HN := Lib.hid hn
  have HPL : Hid (p + 1 ≤ W.heap.size) := Lib.hid hpl
  have HR := Lib.hid hr
  clear h hn hpl hr
  go_enter Try.func92, Try.ntmps92
  go_upto_region 1 with fail
  clear hq
  generalize W.alloc (.cells #[.string km, .string vm] 105) = w0 at *
  have u1 := HQC.out.1
  have u2 := HQC.out.2
  have hpf := place_f p A n c l km w0 (HT.out.tab.ok HO0.out) (Nat.le_trans HN.out (by decide)) HR.out
  go_wp2_with fail
  refine hpf.mono ?_
  clear hpf
  rintro _ w1 ⟨k, hp, rfl, o1⟩
  have HPK := Lib.hid hp
  have HO : Hid (Ok W w1) := Lib.hid (HO0.out.trans o1)
  have s1 := o1.cell HQC.out.1
  have s2 := o1.cell HQC.out.2
  have s0 := HO.out.cell HT.out.c0
  clear hp o1 HO0 HQC u1 u2
  cases hfb : foundB l km k with
  | true =>
    have HKN : Hid (k < n) := Lib.hid (by rw [← HB.out.1]; exact (place_yes hfb).1)
    obtain ⟨g, rfl⟩ : ∃ g, A = some ⟨g, 0, none⟩ := by
      rcases HB.out.nc with ⟨_, q, _⟩ | q
      · have := HKN.out; omega
      · exact q
    have HGP : Hid (g ≠ p) := Lib.hid (by have := (HB.out.2.lt g rfl).1; omega)
    have hkn := HKN.out
    have hk0 : (0 : Int) ≤ (k : Int) := Int.natCast_nonneg _
    have hk1 : (k : Int) < (n : Int) := by omega
    have HFB := Lib.hid hfb
    clear hfb hkn
    go_upto_region 3 with fail
    refine Until.begin (S := fun V => V.cell? ⟨p, 0, none⟩ = some (.slice (some ⟨g, 0, none⟩) n c) ∧ V.cell? ⟨q, 0, none⟩ = some (.string km) ∧ V.cell? ⟨q, 1, none⟩ = some (.string vm)) (j := 7) (by kernel_rfl) ?_ ?_
    · exact ⟨(Ok.refl w1).drew.cell s0, (Ok.refl w1).drew.cell s1, (Ok.refl w1).drew.cell s2⟩
    intro hS
    have HD : Hid (Ok w1 w1.drew) := Lib.hid ((Ok.refl w1).drew)
    generalize w1.drew = V0 at *
    clear s0 s1 s2
    refine Until.take0 (i := 0) (v := ?v0) rfl (by kernel_rfl) (by kernel_rfl) (by kernel_rfl) (by kernel_rfl) (fun _ _ _ h => h) (Or.inl ⟨by rfl, ?hy0⟩) (fun _ => hS) ?rest0
    case hy0 => ((intro w hSw); clear hSw; go_simp; (try with_reducible rfl))
    try go_frame
    refine Until.take0 (i := 1) (v := ?v1) rfl (by kernel_rfl) (by kernel_rfl) (by kernel_rfl) (by kernel_rfl) (fun _ _ _ h => h) (Or.inl ⟨by rfl, ?hy1⟩) (fun _ => hS) ?rest1
    case hy1 => ((intro w hSw); clear hSw; go_simp; (try with_reducible rfl))
    try go_frame
    refine Until.take0 (i := 2) (v := ?v2) rfl (by kernel_rfl) (by kernel_rfl) (by kernel_rfl) (by kernel_rfl) (fun _ _ _ h => h) (Or.inl ⟨by rfl, ?hy2⟩) (fun _ => hS) ?rest2
    case hy2 => ((intro w hSw); clear hSw; go_simp; (try with_reducible rfl))
    try go_frame
    refine Until.take (i := 3) (v := ?v3) rfl (by kernel_rfl) (by kernel_rfl) (by kernel_rfl) (by kernel_rfl) (fun _ _ _ h => h) (Or.inl ⟨by rfl, ?hy3⟩) hS ?rest3
    case hy3 => ((intro w hSw; (try dsimp only at hSw)); obtain ⟨s0, s1, s2⟩ := hSw; go_simp; (try with_reducible rfl))
    try go_frame
    refine Until.take0 (i := 4) (v := ?v4) rfl (by kernel_rfl) (by kernel_rfl) (by kernel_rfl) (by kernel_rfl) (fun _ _ _ h => h) (Or.inl ⟨by rfl, ?hy4⟩) (fun _ => hS) ?rest4
    case hy4 => ((intro w hSw); clear hSw; go_simp; (try with_reducible rfl))
    try go_frame
    refine Until.take (i := 5) (v := ?v5) rfl (by kernel_rfl) (by kernel_rfl) (by kernel_rfl) (by kernel_rfl) (fun _ _ _ h => h) (Or.inl ⟨by rfl, ?hy5⟩) hS ?rest5
    case hy5 => ((intro w hSw; (try dsimp only at hSw)); obtain ⟨s0, s1, s2⟩ := hSw; go_simp; (try with_reducible rfl))
    try go_frame
    refine Until.take0 (i := 6) (v := ?v6) rfl (by kernel_rfl) (by kernel_rfl) (by kernel_rfl) (by kernel_rfl) (fun _ _ _ h => h) (Or.inl ⟨by rfl, ?hy6⟩) (fun _ => hS) ?rest6
    case hy6 => ((intro w hSw); clear hSw; go_simp; (try with_reducible rfl))
    try go_frame
    have HF1 : Hid (Ok W V0) := Lib.hid (HO.out.trans HD.out)
    have hown0 := HB.out.ok HF1.out
    have k0 : V0.cell? ⟨g, k * 2, none⟩ = some (.string (rwA l k).key) := (OwnR.cell2 hown0 k HKN.out).1
    have k1 : V0.cell? ⟨g, k * 2 + 1, none⟩ = some (.string (rwA l k).val) := (OwnR.cell2 hown0 k HKN.out).2
    have f0 : V0.frozen? ⟨g, k * 2, none⟩ = false := OwnR.froz hown0 _
    have f1 : V0.frozen? ⟨g, k * 2 + 1, none⟩ = false := OwnR.froz hown0 _
    clear hown0 hS
    refine Until.one (i := 7) (by kernel_rfl) rfl (fun K hK => ?_)
    have HK := Lib.hid hK
    clear hK
    go_simp
    refine HK.out.out _ _ (fun h => absurd (h.symm.trans (by kernel_rfl : _ = true)) Bool.false_ne_true) (fun _ => ?_)
    clear HK K
    try go_frame
    clear k0 k1 f0 f1
    refine Until.done (by kernel_rfl) ?_ _
    skip
    refine bodyPost_end (v := .tuple #[]) (by simp [results, Try.results92, go_sem]; try rfl) rfl ?_
    refine ⟨rfl, some ⟨g, 0, none⟩, n, c, l.set k ⟨km, vm⟩, ⟨k, HPK.out, by rw [HFB.out, if_pos rfl]⟩, ⟨?_, ?_, ?_, (HB.out.ok HF1.out).set k km vm⟩, ?_⟩
    · rw [World.cell?_setCell_far _ _ _ _ HGP.out, World.cell?_setCell_far _ _ _ _ HGP.out]; exact HF1.out.cell HT.out.c0
    · rw [World.cell?_setCell_far _ _ _ _ HGP.out, World.cell?_setCell_far _ _ _ _ HGP.out]; exact HF1.out.cell HT.out.c1
    · intro j
      rw [World.frozen?_setCell, World.frozen?_setCell]
      exact (HT.out.tab.ok HF1.out).f j
    · exact ((HF1.out.mono (by have := HPL.out; omega)).setCell (p := ⟨g, _, none⟩) (by have := (HB.out.2.lt g rfl).1; show p ≤ g; omega) _).setCell (p := ⟨g, _, none⟩) (by have := (HB.out.2.lt g rfl).1; show p ≤ g; omega) _
  | false =>
    have HKL : Hid (k ≤ n) := Lib.hid (by rw [← HB.out.1]; exact HPK.out.le)
    have HFB := Lib.hid hfb
    clear hfb
    have HQN : Hid (∀ V V' : World, some q ≠ (Value.slice A n c).ownBlock) := Lib.hid (fun _ _ e => by have := (HB.out.2.lt q e.symm).2; have := HQ.out; omega)
    go_upto_region 4 with fail
    refine Until.begin (S := fun V => V.cell? ⟨p, 0, none⟩ = some (.slice A n c) ∧ V.cell? ⟨q, 0, none⟩ = some (.string km) ∧ V.cell? ⟨q, 1, none⟩ = some (.string vm)) (j := 11) (by kernel_rfl) ?_ ?_
    · exact ⟨(Ok.refl w1).drew.cell s0, (Ok.refl w1).drew.cell s1, (Ok.refl w1).drew.cell s2⟩
    intro hS
    have HD : Hid (Ok w1 w1.drew) := Lib.hid ((Ok.refl w1).drew)
    generalize w1.drew = V0 at *
    clear s0 s1 s2
    refine Until.take0 (i := 0) (v := ?uv0) rfl (by kernel_rfl) (by kernel_rfl) (by kernel_rfl) (by kernel_rfl) (fun _ _ _ h => h) (Or.inl ⟨by rfl, ?ihy0⟩) (fun _ => hS) ?irest0
    case ihy0 => ((intro w hSw); clear hSw; go_simp; (try with_reducible rfl))
    try go_frame
    refine Until.take0 (i := 1) (v := ?uv1) rfl (by kernel_rfl) (by kernel_rfl) (by kernel_rfl) (by kernel_rfl) (fun _ _ _ h => h) (Or.inl ⟨by rfl, ?ihy1⟩) (fun _ => hS) ?irest1
    case ihy1 => ((intro w hSw); clear hSw; go_simp; (try with_reducible rfl))
    try go_frame
    refine Until.take0 (i := 2) (v := ?uv2) rfl (by kernel_rfl) (by kernel_rfl) (by kernel_rfl) (by kernel_rfl) (fun _ _ _ h => h) (Or.inl ⟨by rfl, ?ihy2⟩) (fun _ => hS) ?irest2
    case ihy2 => ((intro w hSw); clear hSw; go_simp; (try with_reducible rfl))
    try go_frame
    refine Until.take0 (i := 3) (v := ?uv3) rfl (by kernel_rfl) (by kernel_rfl) (by kernel_rfl) (by kernel_rfl) (fun _ _ _ h => h) (Or.inl ⟨by rfl, ?ihy3⟩) (fun _ => hS) ?irest3
    case ihy3 => ((intro w hSw); clear hSw; go_simp; (try with_reducible rfl))
    try go_frame
    refine Until.take (i := 4) (v := ?uv4) rfl (by kernel_rfl) (by kernel_rfl) (by kernel_rfl) (by kernel_rfl) (fun _ _ _ h => h) (Or.inl ⟨by rfl, ?ihy4⟩) hS ?irest4
    case ihy4 => ((intro w hSw; (try dsimp only at hSw)); obtain ⟨s0, s1, s2⟩ := hSw; go_simp; (try with_reducible rfl))
    try go_frame
    refine Until.take0 (i := 5) (v := ?uv5) rfl (by kernel_rfl) (by kernel_rfl) (by kernel_rfl) (by kernel_rfl) (fun _ _ _ h => h) (Or.inl ⟨by rfl, ?ihy5⟩) (fun _ => hS) ?irest5
    case ihy5 => ((intro w hSw); clear hSw; go_simp; (try with_reducible rfl))
    try go_frame
    refine Until.take (i := 6) (v := ?uv6) rfl (by kernel_rfl) (by kernel_rfl) (by kernel_rfl) (by kernel_rfl) (fun _ _ _ h => h) (Or.inl ⟨by rfl, ?ihy6⟩) hS ?irest6
    case ihy6 => ((intro w hSw; (try dsimp only at hSw)); obtain ⟨s0, s1, s2⟩ := hSw; go_simp; (try with_reducible rfl))
    try go_frame
    refine Until.one (i := 7) (by kernel_rfl) rfl (fun K hK => ?_)
    have HK := Lib.hid hK
    clear hK
    go_simp
    have HS7 : Hid (_ ∧ _ ∧ _) := Lib.hid ⟨((Ok.refl V0).alloc (.cells #[.string km, .string vm] 105)).cell hS.1, ((Ok.refl V0).alloc (.cells #[.string km, .string vm] 105)).cell hS.2.1, ((Ok.refl V0).alloc (.cells #[.string km, .string vm] 105)).cell hS.2.2⟩
    have HOA : Hid (Ok V0 (V0.alloc (.cells #[.string km, .string vm] 105))) := Lib.hid ((Ok.refl V0).alloc _)
    have HVB : Hid ((V0.alloc (.cells #[.string km, .string vm] 105)).heap[V0.heap.size]? = some (.cells #[.string km, .string vm] 105 (0, 0))) := Lib.hid (heap_alloc_new V0 _)
    refine HK.out.out _ _ (fun _ => HS7.out) (fun _ => ?_)
    clear hS
    have hS := HS7.out
    clear HK K
    try go_frame
    generalize V0.alloc (.cells #[.string km, .string vm] 105) = V1 at *
    refine Until.one (i := 8) (by kernel_rfl) rfl (fun K hK => ?_)
    have HK := Lib.hid hK
    clear hK
    go_simp
    refine (insert_f (p + 1) A n c l k ⟨km, vm⟩ V0.heap.size V1 (HB.out.ok (HO.out.trans (HD.out.trans HOA.out))) HKL.out (Nat.le_trans HPL.out (HO.out.trans (HD.out.trans HOA.out)).size) HN.out HVB.out (fun a e => by have := (HB.out.2.lt a.block (by rw [e]; rfl)).2; have := (HO.out.trans HD.out).size; omega)).mono ?_
    rintro _ V2 ⟨A2, c2, rfl, hrow, hbl, hgr⟩
    have HROW := Lib.hid hrow
    have HBL := Lib.hid hbl
    have d0 := (hbl.cell (p := ⟨p, 0, none⟩) (Nat.lt_succ_self p)).trans hS.1
    have HD0 := Lib.hid d0
    have HF2 : Hid (Ok W V1) := Lib.hid (HO.out.trans (HD.out.trans HOA.out))
    have f0 : V2.frozen? ⟨p, 0, none⟩ = false := (hbl.frozen (p := ⟨p, 0, none⟩) (Nat.lt_succ_self p)).trans ((HT.out.tab.ok HF2.out).f 0)
    have HS8 : Hid (_ ∧ _ ∧ _) := Lib.hid ⟨d0, hgr.cell hS.2.1 (HQN.out V1 V0), hgr.cell hS.2.2 (HQN.out V1 V0)⟩
    clear hrow hbl hgr
    refine HK.out.out _ _ (fun _ => HS8.out) (fun _ => ?_)
    clear hS
    have hS := HS8.out
    clear HK K
    try go_frame
    refine Until.take0 (i := 9) (v := ?uv9) rfl (by kernel_rfl) (by kernel_rfl) (by kernel_rfl) (by kernel_rfl) (fun _ _ _ h => h) (Or.inl ⟨by rfl, ?ihy9⟩) (fun _ => hS) ?irest9
    case ihy9 => ((intro w hSw); clear hSw; go_simp; (try with_reducible rfl))
    try go_frame
    refine Until.take0 (i := 10) (v := ?uv10) rfl (by kernel_rfl) (by kernel_rfl) (by kernel_rfl) (by kernel_rfl) (fun _ _ _ h => h) (Or.inl ⟨by rfl, ?ihy10⟩) (fun _ => hS) ?irest10
    case ihy10 => ((intro w hSw); clear hSw; go_simp; (try with_reducible rfl))
    try go_frame
    refine Until.one (i := 11) (by kernel_rfl) rfl (fun K hK => ?_)
    have HK := Lib.hid hK
    clear hK
    go_simp
    refine HK.out.out _ _ (fun h => absurd (h.symm.trans (by kernel_rfl : _ = true)) Bool.false_ne_true) (fun _ => ?_)
    clear HK K
    try go_frame
    refine Until.done (by kernel_rfl) ?_ _
    skip
    refine bodyPost_end (v := .tuple #[]) (by simp [results, Try.results92, go_sem]; try rfl) rfl ?_
    refine ⟨rfl, A2, n + 1, c2, insR l k ⟨km, vm⟩, ⟨k, HPK.out, by rw [HFB.out]; rfl⟩, ⟨?_, ?_, ?_, HROW.out.far (Nat.lt_succ_self p) 0 _⟩, ?_⟩
    · exact World.cell?_setCell_same _ _ _ HD0.out
    · rw [World.cell?_setCell_other _ _ _ _ (fun e => by simp at e)]
      exact (HBL.out.cell (p := ⟨p, 1, none⟩) (Nat.lt_succ_self p)).trans (HF2.out.cell HT.out.c1)
    · intro j
      rw [World.frozen?_setCell]
      exact (HBL.out.frozen (p := ⟨p, j, none⟩) (Nat.lt_succ_self p)).trans ((HT.out.tab.ok HF2.out).f j)
    · have hp0 := HPL.out
      have b1 : Below p W V1 := Below.mono HF2.out (by omega)
      have b2 : Below p V1 V2 := Below.mono HBL.out (by omega)
      exact (b1.trans b2).setCell (p := ⟨p, 0, none⟩) (Nat.le_refl p) _
end Go.Proofs.Ytebhcadolnjplaa
