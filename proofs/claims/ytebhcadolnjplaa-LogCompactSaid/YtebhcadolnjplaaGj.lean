/- Entries are laid behind a log. -/
import Derived.Test.YtebhcadolnjplaaGi
namespace Go.Proofs.Ytebhcadolnjplaa
open Go.RowKit

theorem Sev.kp {S : Nat → Prop} {g : Nat} {v0 v1 v2 v3 v4 v5 v6 : Value} {w w' : World} (h : Sev g v0 v1 v2 v3 v4 v5 v6 w) (k : Kp S w w') (hn : ¬ S g) : Sev g v0 v1 v2 v3 v4 v5 v6 w' :=
  ⟨k.cell h.c0 hn, k.cell h.c1 hn, k.cell h.c2 hn, k.cell h.c3 hn, k.cell h.c4 hn, k.cell h.c5 hn, k.cell h.c6 hn, fun j => by rw [World.frozen?_of_block (w := w) (k.block g (World.block_lt_of_cell? _ _ h.c0) hn)]; exact h.f j⟩
/-- Entries that came in; they lie in no block of T. -/
def EnsIn (T : Nat → Prop) (w : World) (A : Option Addr) (l : List En) : Prop := ∀ j, j < l.length → ∃ b off r, A = some ⟨b, off, none⟩ ∧ ¬ T b ∧ EnAt T w r (enA l j) ∧ ∀ k, k < 7 → w.cell? ⟨b, off + j * 7 + k, none⟩ = r.cells[k]?
theorem EnsIn.kp {T S' : Nat → Prop} {w w' : World} {A : Option Addr} {l : List En} (h : EnsIn T w A l) (k : Kp S' w w') (hs : ∀ b, S' b → T b) : EnsIn T w' A l := fun j hj => by
  obtain ⟨b, off, r, e, hb, hr, hc⟩ := h j hj
  refine ⟨b, off, r, e, hb, hr.kp k hs, fun q hq => ?_⟩
  have hck : q < r.cells.length := hq
  have := hc q hq
  rw [List.getElem?_eq_getElem hck] at this ⊢
  exact k.cell this (fun x => hb (hs b x))
/-- The same log, these entries laid behind. -/
structure Ext (L : LG) (l : List En) (L' : LG) : Prop where
  p : L'.p = L.p
  i : L'.i = L.i
  t : L'.t = L.t
  s : L'.s = L.s
  es : L'.es = L.es ++ l
  xs : L'.xs.length ≤ L.xs.length + l.length
structure Grown (S : Nat → Prop) (L : LG) (l : List En) (w : World) (L' : LG) (w' : World) : Prop where
  log : LogAt (Sof S L') L' w'
  ext : Ext L l L'
  kp : Kp (Ow L.p L.AE L.AC) w w'
  new : ∀ b, Ow L'.p L'.AE L'.AC b → Ow L.p L.AE L.AC b ∨ w.heap.size ≤ b
theorem Grown.begin {S : Nat → Prop} {L : LG} {w : World} (h : LogAt (Sof S L) L w) : Grown S L [] w L w := ⟨h, ⟨rfl, rfl, rfl, rfl, (List.append_nil _).symm, Nat.le_add_right _ _⟩, Kp.refl _ _, fun _ hb => .inl hb⟩
theorem Grown.ok {S : Nat → Prop} {L L' : LG} {l : List En} {w w1 w2 : World} (h : Grown S L l w L' w1) (k : Ok w1 w2) : Grown S L l w L' w2 := ⟨h.log.ok k, h.ext, h.kp.ok k, h.new⟩
theorem Grown.push {S : Nat → Prop} {L L' : LG} {l : List En} {w w1 w2 : World} (h : Grown S L l w L' w1) {e : En} {A : Option Addr} {c : Nat} (k : Pushed S L' e w1 A c w2) : Grown S L (l ++ [e]) w (L'.push e A c) (w2.setCell ⟨L'.p, 6, none⟩ (.slice A (L'.es.length + 1) c)) :=
  ⟨k.log, ⟨h.ext.p, h.ext.i, h.ext.t, h.ext.s, by show L'.es ++ [e] = _; rw [h.ext.es, List.append_assoc], by show L'.xs.length ≤ _; rw [List.length_append]; have := h.ext.xs; omega⟩,
   h.kp.then k.kp fun j hj hb => (h.new j hb).elim id (fun q => absurd hj (by omega)), fun b hb => (k.new b hb).elim (fun q => h.new b q) (fun q => .inr (Nat.le_trans h.kp.size q))⟩
theorem Grown.mark {S : Nat → Prop} {L L' : LG} {l : List En} {w w1 w2 : World} (h : Grown S L l w L' w1) (hx : L'.xs.length + 1 ≤ L.xs.length + l.length) {x : Int} {A : Option Addr} {c : Nat} (k : Marked S L' x w1 A c w2) : Grown S L l w (L'.mark x A c) (w2.setCell ⟨L'.p, 7, none⟩ (.slice A (L'.xs.length + 1) c)) :=
  ⟨k.log, ⟨h.ext.p, h.ext.i, h.ext.t, h.ext.s, h.ext.es, by show (L'.xs ++ [x]).length ≤ _; simpa using hx⟩,
   h.kp.then k.kp fun j hj hb => (h.new j hb).elim id (fun q => absurd hj (by omega)), fun b hb => (k.new b hb).elim (fun q => h.new b q) (fun q => .inr (Nat.le_trans h.kp.size q))⟩
def PutP (S : Nat → Prop) (L : LG) (l : List En) (w : World) (e : Ending) (w' : World) : Prop := e = .returned (.tuple #[]) ∧ ∃ L', Grown S L l w L' w'

set_option maxRecDepth 100000 in
set_option maxHeartbeats 4000000 in
theorem put_f (S : Nat → Prop) (L : LG) (A : Option Addr) (n c : Nat) (l : List En) (hn : l.length = n) (w : World) (h : LogAt (Sof S L) L w) (hS : ∀ b, S b → b < w.heap.size) (hi : EnsIn (Sof S L) w A l) (hm : ∀ j, j < n → EnLe (enA l j))
    (hl : L.es.length + n ≤ 1000) (hx : L.xs.length + n ≤ 1000) : Calls Try.prog 59 #[.pointer (some ⟨L.p, 0, none⟩), .slice A n c] w (PutP S L l w) := by
  have HG := Lib.hid (Grown.begin h)
  have HI := Lib.hid hi
  have HM := Lib.hid hm
  have HS := Lib.hid hS
  have HN := Lib.hid hn
  have HL := Lib.hid h
  have hn6 : n ≤ 1000000 := by omega
  clear h hi hm hS hn
  obtain ⟨p, hp⟩ : ∃ p, L.p = p := ⟨_, rfl⟩
  rw [hp]
  have HP := Lib.hid hp
  clear hp
  go_enter Try.func59, Try.ntmps59
  go_wp2_with fail
  go_loopw [5, 8] (fun _ i wr => ∃ (k : Nat) (L' : LG), k ≤ n ∧ i = .int .i64 k ∧ Grown S L (l.take k) w L' wr) (fun _ i _ => n - (intOf i).toNat)
  case atStart => exact ⟨0, L, Nat.zero_le _, rfl, HG.out⟩
  case round =>
    obtain ⟨k, L', hk, rfl, hg⟩ := hrel
    have HR := Lib.hid hg
    clear hg
    by_cases hlt : k < n
    · have d1 : decide ((k : Int) < (n : Int)) = true := decide_eq_true (by omega)
      obtain ⟨b, off, r, rfl, hb, hr, hc⟩ := HI.out.kp HR.out.kp (fun b hb => .inr hb) k (by rw [HN.out]; exact hlt)
      have HE := Lib.hid hr
      have hi0 : (0 : Int) ≤ (k : Int) := Int.natCast_nonneg _
      have hi1 : (k : Int) < (n : Int) := by omega
      have q0 : wr.cell? ⟨b, off + k * 7, none⟩ = some (.int .i64 r.term) := hc 0 (by decide)
      have q1 : wr.cell? ⟨b, off + k * 7 + 1, none⟩ = some (.int .u8 r.kind) := hc 1 (by decide)
      have q2 : wr.cell? ⟨b, off + k * 7 + 2, none⟩ = some (.slice r.A r.n r.c) := hc 2 (by decide)
      have q3 : wr.cell? ⟨b, off + k * 7 + 3, none⟩ = some (.slice r.s.A0 r.s.n0 r.s.c0) := hc 3 (by decide)
      have q4 : wr.cell? ⟨b, off + k * 7 + 4, none⟩ = some (.slice r.s.A1 r.s.n1 r.s.c1) := hc 4 (by decide)
      have q5 : wr.cell? ⟨b, off + k * 7 + 5, none⟩ = some (.slice r.s.A2 r.s.n2 r.s.c2) := hc 5 (by decide)
      have q6 : wr.cell? ⟨b, off + k * 7 + 6, none⟩ = some (.slice r.s.A3 r.s.n3 r.s.c3) := hc 6 (by decide)
      clear hb hr hc
      go_upto_region 3 with fail
      have HLP : Hid (L'.p = p) := Lib.hid (HR.out.ext.p.trans HP.out)
      have HV0 : Hid (Sev wr.heap.size (.int .i64 r.term) (.int .u8 r.kind) (.slice r.A r.n r.c) (.slice r.s.A0 r.s.n0 r.s.c0) (.slice r.s.A1 r.s.n1 r.s.c1) (.slice r.s.A2 r.s.n2 r.s.c2) (.slice r.s.A3 r.s.n3 r.s.c3) (wr.alloc (.cells #[.int .i64 r.term, .int .u8 r.kind, .slice r.A r.n r.c, .slice r.s.A0 r.s.n0 r.s.c0, .slice r.s.A1 r.s.n1 r.s.c1, .slice r.s.A2 r.s.n2 r.s.c2, .slice r.s.A3 r.s.n3 r.s.c3] 44))) := Lib.hid (Sev.new _ _ _ _ _ _ _ _ _)
      have HR0 := Lib.hid (HR.out.ok ((Ok.refl wr).alloc (.cells #[.int .i64 r.term, .int .u8 r.kind, .slice r.A r.n r.c, .slice r.s.A0 r.s.n0 r.s.c0, .slice r.s.A1 r.s.n1 r.s.c1, .slice r.s.A2 r.s.n2 r.s.c2, .slice r.s.A3 r.s.n3 r.s.c3] 44)))
      have HE0 := Lib.hid (HE.out.ok ((Ok.refl wr).alloc (.cells #[.int .i64 r.term, .int .u8 r.kind, .slice r.A r.n r.c, .slice r.s.A0 r.s.n0 r.s.c0, .slice r.s.A1 r.s.n1 r.s.c1, .slice r.s.A2 r.s.n2 r.s.c2, .slice r.s.A3 r.s.n3 r.s.c3] 44)))
      have HGB : Hid (∀ b, Sof S L' b → b < wr.heap.size) := Lib.hid fun b hb => hb.elim (fun q => Nat.lt_of_lt_of_le (HS.out b q) HR.out.kp.size) (HR.out.log.lt b)
      have HGS : Hid (wr.heap.size < (wr.alloc (.cells #[.int .i64 r.term, .int .u8 r.kind, .slice r.A r.n r.c, .slice r.s.A0 r.s.n0 r.s.c0, .slice r.s.A1 r.s.n1 r.s.c1, .slice r.s.A2 r.s.n2 r.s.c2, .slice r.s.A3 r.s.n3 r.s.c3] 44)).heap.size) := Lib.hid (by rw [World.size_alloc]; omega)
      rename_i K6 hK6 K0 hK0
      have HK0 := Lib.hid hK0
      clear hK0
      generalize wr.alloc (.cells #[.int .i64 r.term, .int .u8 r.kind, .slice r.A r.n r.c, .slice r.s.A0 r.s.n0 r.s.c0, .slice r.s.A1 r.s.n1 r.s.c1, .slice r.s.A2 r.s.n2 r.s.c2, .slice r.s.A3 r.s.n3 r.s.c3] 44) = w0 at *
      obtain ⟨g, hg⟩ : ∃ g, wr.heap.size = g := ⟨_, rfl⟩
      rw [hg] at HV0 HGB HGS ⊢
      have HWG := Lib.hid hg
      clear hg q0 q1 q2 q3 q4 q5 q6
      refine Until.begin (S := fun w => w.cell? ⟨p, 6, none⟩ = some (.slice L'.AE L'.es.length L'.cE) ∧ w.cell? ⟨g, 0, none⟩ = some (.int .i64 r.term) ∧ w.cell? ⟨g, 1, none⟩ = some (.int .u8 r.kind) ∧ w.cell? ⟨g, 2, none⟩ = some (.slice r.A r.n r.c) ∧ w.cell? ⟨g, 3, none⟩ = some (.slice r.s.A0 r.s.n0 r.s.c0) ∧ w.cell? ⟨g, 4, none⟩ = some (.slice r.s.A1 r.s.n1 r.s.c1) ∧ w.cell? ⟨g, 5, none⟩ = some (.slice r.s.A2 r.s.n2 r.s.c2) ∧ w.cell? ⟨g, 6, none⟩ = some (.slice r.s.A3 r.s.n3 r.s.c3)) (j := 9) (by kernel_rfl) ?_ ?_
      · have k1 := HV0.out.ok ((Ok.refl w0).drew)
        have k2 := ((Ok.refl w0).drew).cell HR0.out.log.box.c6
        rw [HLP.out] at k2
        exact ⟨k2, k1.c0, k1.c1, k1.c2, k1.c3, k1.c4, k1.c5, k1.c6⟩
      · intro hS
        have HW0 : Hid (Ok w0 w0.drew) := Lib.hid ((Ok.refl w0).drew)
        generalize w0.drew = w1 at *
        refine Until.take0 (i := 0) (v := ?v0) rfl (by kernel_rfl) (by kernel_rfl) (by kernel_rfl) (by kernel_rfl) (fun _ _ _ h => h) (Or.inl ⟨by rfl, ?hy0⟩) (fun _ => hS) ?rest0
        case hy0 => ((intro w hSw); clear hSw; go_simp; (try with_reducible rfl))
        try go_frame
        refine Until.take0 (i := 1) (v := ?v1) rfl (by kernel_rfl) (by kernel_rfl) (by kernel_rfl) (by kernel_rfl) (fun _ _ _ h => h) (Or.inl ⟨by rfl, ?hy1⟩) (fun _ => hS) ?rest1
        case hy1 => ((intro w hSw); clear hSw; go_simp; (try with_reducible rfl))
        try go_frame
        refine Until.take0 (i := 2) (v := ?v2) rfl (by kernel_rfl) (by kernel_rfl) (by kernel_rfl) (by kernel_rfl) (fun _ _ _ h => h) (Or.inl ⟨by rfl, ?hy2⟩) (fun _ => hS) ?rest2
        case hy2 => ((intro w hSw); clear hSw; go_simp; (try with_reducible rfl))
        try go_frame
        refine Until.take0 (i := 3) (v := ?v3) rfl (by kernel_rfl) (by kernel_rfl) (by kernel_rfl) (by kernel_rfl) (fun _ _ _ h => h) (Or.inl ⟨by rfl, ?hy3⟩) (fun _ => hS) ?rest3
        case hy3 => ((intro w hSw); clear hSw; go_simp; (try with_reducible rfl))
        try go_frame
        refine Until.take (i := 4) (v := ?v4) rfl (by kernel_rfl) (by kernel_rfl) (by kernel_rfl) (by kernel_rfl) (fun _ _ _ h => h) (Or.inl ⟨by rfl, ?hy4⟩) hS ?rest4
        case hy4 => ((intro w hSw; (try dsimp only at hSw)); go_simp; (try with_reducible rfl))
        try go_frame
        refine Until.take (i := 5) (v := ?v5) rfl (by kernel_rfl) (by kernel_rfl) (by kernel_rfl) (by kernel_rfl) (fun _ _ _ h => h) (Or.inl ⟨by rfl, ?hy5⟩) hS ?rest5
        case hy5 => ((intro w hSw; (try dsimp only at hSw)); go_simp; (try with_reducible rfl))
        try go_frame
        refine Until.one (i := 6) (by kernel_rfl) rfl (fun K hK => ?_)
        have HK := Lib.hid hK
        clear hK
        have hcp := copyEntry_f _ r (enA l k) w1 (HE0.out.ok HW0.out) (HM.out k hlt)
        unfold ER.val at hcp
        go_simp
        refine hcp.mono ?_
        clear hcp
        rintro _ w2 ⟨u, rfl, hu, ok⟩
        unfold ER.val
        have HU := Lib.hid hu
        have HW2 : Hid (Ok w0 w2) := Lib.hid (HW0.out.trans ok)
        have HSZ : Hid (w1.heap.size ≤ w2.heap.size) := Lib.hid ok.size
        have HS2 : Hid (_ ∧ _ ∧ _ ∧ _ ∧ _ ∧ _ ∧ _ ∧ _) := Lib.hid ⟨ok.cell hS.1, ok.cell hS.2.1, ok.cell hS.2.2.1, ok.cell hS.2.2.2.1, ok.cell hS.2.2.2.2.1, ok.cell hS.2.2.2.2.2.1, ok.cell hS.2.2.2.2.2.2.1, ok.cell hS.2.2.2.2.2.2.2⟩
        clear hu ok hS
        refine HK.out.out _ _ (fun _ => HS2.out) (fun _ => ?_)
        have hS := HS2.out
        clear HS2 HK K
        try go_frame
        have HR2 := Lib.hid (HR0.out.ok HW2.out)
        have HV2 := Lib.hid (HV0.out.ok HW2.out)
        have HS2 := Lib.hid hS
        clear hS HR0 HV0
        refine Until.one (i := 7) (by kernel_rfl) rfl (fun K hK => ?_)
        have HK := Lib.hid hK
        clear hK
        go_simp
        refine HK.out.out _ _ (fun _ => by have hS := HS2.out; exact ⟨((Ok.refl w2).alloc _).cell hS.1, ((Ok.refl w2).alloc _).cell hS.2.1, ((Ok.refl w2).alloc _).cell hS.2.2.1, ((Ok.refl w2).alloc _).cell hS.2.2.2.1, ((Ok.refl w2).alloc _).cell hS.2.2.2.2.1, ((Ok.refl w2).alloc _).cell hS.2.2.2.2.2.1, ((Ok.refl w2).alloc _).cell hS.2.2.2.2.2.2.1, ((Ok.refl w2).alloc _).cell hS.2.2.2.2.2.2.2⟩) (fun _ => ?_)
        clear HK K
        try go_frame
        have HR3 := Lib.hid (HR2.out.ok ((Ok.refl w2).alloc (.cells #[.int .i64 u.term, .int .u8 u.kind, .slice u.A u.n u.c, .slice u.s.A0 u.s.n0 u.s.c0, .slice u.s.A1 u.s.n1 u.s.c1, .slice u.s.A2 u.s.n2 u.s.c2, .slice u.s.A3 u.s.n3 u.s.c3] 44)))
        have HV3 := Lib.hid (HV2.out.ok ((Ok.refl w2).alloc (.cells #[.int .i64 u.term, .int .u8 u.kind, .slice u.A u.n u.c, .slice u.s.A0 u.s.n0 u.s.c0, .slice u.s.A1 u.s.n1 u.s.c1, .slice u.s.A2 u.s.n2 u.s.c2, .slice u.s.A3 u.s.n3 u.s.c3] 44)))
        have HU3 := Lib.hid ((HU.out (fun b => b < w1.heap.size) (fun _ h => h)).ok ((Ok.refl w2).alloc (.cells #[.int .i64 u.term, .int .u8 u.kind, .slice u.A u.n u.c, .slice u.s.A0 u.s.n0 u.s.c0, .slice u.s.A1 u.s.n1 u.s.c1, .slice u.s.A2 u.s.n2 u.s.c2, .slice u.s.A3 u.s.n3 u.s.c3] 44)))
        have HNB : Hid ((w2.alloc (.cells #[.int .i64 u.term, .int .u8 u.kind, .slice u.A u.n u.c, .slice u.s.A0 u.s.n0 u.s.c0, .slice u.s.A1 u.s.n1 u.s.c1, .slice u.s.A2 u.s.n2 u.s.c2, .slice u.s.A3 u.s.n3 u.s.c3] 44)).heap[w2.heap.size]? = some (.cells u.cells.toArray 44 (0, 0))) := Lib.hid (heap_alloc_new w2 _)
        have HB1 : Hid (∀ b, Sof S L' b → b < w1.heap.size) := Lib.hid fun b hb => Nat.lt_of_lt_of_le (Nat.lt_trans (HGB.out b hb) HGS.out) HW0.out.size
        generalize w2.alloc (.cells #[.int .i64 u.term, .int .u8 u.kind, .slice u.A u.n u.c, .slice u.s.A0 u.s.n0 u.s.c0, .slice u.s.A1 u.s.n1 u.s.c1, .slice u.s.A2 u.s.n2 u.s.c2, .slice u.s.A3 u.s.n3 u.s.c3] 44) = w3 at *
        refine Until.one (i := 8) (by kernel_rfl) rfl (fun K hK => ?_)
        have HK := Lib.hid hK
        clear hK
        refine step_push rfl (.tmp 16) (.tmp 19) rfl S L' HR3.out.log w1.heap.size HB1.out u (enA l k) HU3.out (by have := HR3.out.ext.es; rw [this, List.length_append, List.length_take]; have := HN.out; omega) (HM.out k hlt) rfl w2.heap.size rfl HNB.out ?_
        intro A' c' w4 hpu
        have HPU := Lib.hid hpu
        have hng : ¬ Ow L'.p L'.AE L'.AC g := fun hb => Nat.lt_irrefl g (HGB.out g (.inr hb))
        have HV4 : Hid (Sev g (.int .i64 r.term) (.int .u8 r.kind) (.slice r.A r.n r.c) (.slice r.s.A0 r.s.n0 r.s.c0) (.slice r.s.A1 r.s.n1 r.s.c1) (.slice r.s.A2 r.s.n2 r.s.c2) (.slice r.s.A3 r.s.n3 r.s.c3) w4) := Lib.hid (HV3.out.kp hpu.kp0 hng)
        have HV5 : Hid (Sev g (.int .i64 r.term) (.int .u8 r.kind) (.slice r.A r.n r.c) (.slice r.s.A0 r.s.n0 r.s.c0) (.slice r.s.A1 r.s.n1 r.s.c1) (.slice r.s.A2 r.s.n2 r.s.c2) (.slice r.s.A3 r.s.n3 r.s.c3) (w4.setCell ⟨p, 6, none⟩ (.slice A' (L'.es.length + 1) c'))) := Lib.hid (by rw [← HLP.out]; exact HV3.out.kp hpu.kp hng)
        have HR5 : Hid (Grown S L (l.take k ++ [enA l k]) w (L'.push (enA l k) A' c') (w4.setCell ⟨p, 6, none⟩ (.slice A' (L'.es.length + 1) c'))) := Lib.hid (by rw [← HLP.out]; exact HR3.out.push hpu)
        have HC6 : Hid (w4.cell? ⟨p, 6, none⟩ = some (.slice L'.AE L'.es.length L'.cE)) := Lib.hid (by rw [← HLP.out]; exact hpu.c6)
        clear hng
        clear hpu
        refine HK.out.out _ _ (fun _ => ⟨HC6.out, HV4.out.c0, HV4.out.c1, HV4.out.c2, HV4.out.c3, HV4.out.c4, HV4.out.c5, HV4.out.c6⟩) (fun _ => ?_)
        clear HK K
        try go_frame
        refine Until.one (i := 9) (by kernel_rfl) rfl (fun K hK => ?_)
        have HK := Lib.hid hK
        clear hK
        go_simp
        refine HK.out.out _ _ (fun h => absurd (h.symm.trans (by kernel_rfl : _ = true)) Bool.false_ne_true) (fun _ => ?_)
        clear HK K
        try go_frame
        refine Until.take0 (i := 10) (v := ?v10) rfl (by kernel_rfl) (by kernel_rfl) (by kernel_rfl) (by kernel_rfl) (fun _ _ _ h => h) (Or.inl ⟨by rfl, ?hy10⟩) (fun h => absurd (h.symm.trans (by kernel_rfl : _ = true)) Bool.false_ne_true) ?rest10
        case hy10 => ((intro w hSw); clear hSw; go_simp; (try with_reducible rfl))
        try go_frame
        have f6 := HPU.out.f6
        have c6 := HPU.out.c6
        rw [HLP.out] at f6 c6
        refine Until.one (i := 11) (by kernel_rfl) rfl (fun K hK => ?_)
        have HK := Lib.hid hK
        clear hK
        go_simp
        refine HK.out.out _ _ (fun h => absurd (h.symm.trans (by kernel_rfl : _ = true)) Bool.false_ne_true) (fun _ => ?_)
        clear HK K
        try go_frame
        refine Until.done (by kernel_rfl) ?_ _
        refine HK0.out _ _ ?_
        clear HK0 f6 c6
        have HX1 : Hid (L'.xs.length ≤ L.xs.length + k) := Lib.hid (by have := HR.out.ext.xs; rw [List.length_take] at this; omega)
        have HTK : Hid (l.take k ++ [enA l k] = l.take (k + 1)) := Lib.hid (by
          rw [List.take_add_one]
          congr 1
          have hkl : k < l.length := by have := HN.out; omega
          rw [List.getElem?_eq_getElem hkl]
          simp [enA, hkl])
        have HP1 : Hid ((L'.push (enA l k) A' c').p = p) := HLP
        have HX2 : Hid ((L'.push (enA l k) A' c').xs.length ≤ L.xs.length + k) := HX1
        rw [HTK.out] at HR5
        clear HX1 HR3 HV3 HU3 HNB HPU HV4 HC6 HR2 HV2 HU HE0 HE HR HS2
        generalize L'.push (enA l k) A' c' = L1 at *
        generalize w4.setCell ⟨p, 6, none⟩ (.slice A' (L'.es.length + 1) c') = w5 at *
        clear HTK HB1 HGB HSZ HW2 HW0 HGS HWG HLP
        have v1 := HV5.out.c1
        have HNEXT : Hid (n - ((k : Int) + 1).toNat < n - (k : Int).toNat) := Lib.hid (by omega)
        by_cases h3 : r.kind = 3
        · have d3 : (r.kind == 3) = true := beq_iff_eq.2 h3
          clear h3
          go_upto_region 5 with fail
          clear v1 d3
          refine Until.begin (S := fun w => w.cell? ⟨p, 7, none⟩ = some (.slice L1.AC L1.xs.length L1.cC)) (j := 9) (by kernel_rfl) ?_ ?_
          · have k2 := ((Ok.refl w5).drew).cell HR5.out.log.box.c7
            rwa [HP1.out] at k2
          intro hS
          have HR6 := Lib.hid (HR5.out.ok ((Ok.refl w5).drew))
          clear HR5
          generalize w5.drew = w6 at *
          refine Until.take0 (i := 0) (v := ?yv0) rfl (by kernel_rfl) (by kernel_rfl) (by kernel_rfl) (by kernel_rfl) (fun _ _ _ h => h) (Or.inl ⟨by rfl, ?hz0⟩) (fun _ => hS) ?rst0
          case hz0 => ((intro w hSw); clear hSw; go_simp; (try with_reducible rfl))
          try go_frame
          refine Until.take0 (i := 1) (v := ?yv1) rfl (by kernel_rfl) (by kernel_rfl) (by kernel_rfl) (by kernel_rfl) (fun _ _ _ h => h) (Or.inl ⟨by rfl, ?hz1⟩) (fun _ => hS) ?rst1
          case hz1 => ((intro w hSw); clear hSw; go_simp; (try with_reducible rfl))
          try go_frame
          refine Until.take0 (i := 2) (v := ?yv2) rfl (by kernel_rfl) (by kernel_rfl) (by kernel_rfl) (by kernel_rfl) (fun _ _ _ h => h) (Or.inl ⟨by rfl, ?hz2⟩) (fun _ => hS) ?rst2
          case hz2 => ((intro w hSw); clear hSw; go_simp; (try with_reducible rfl))
          try go_frame
          refine Until.take0 (i := 3) (v := ?yv3) rfl (by kernel_rfl) (by kernel_rfl) (by kernel_rfl) (by kernel_rfl) (fun _ _ _ h => h) (Or.inl ⟨by rfl, ?hz3⟩) (fun _ => hS) ?rst3
          case hz3 => ((intro w hSw); clear hSw; go_simp; (try with_reducible rfl))
          try go_frame
          refine Until.take (i := 4) (v := ?yv4) rfl (by kernel_rfl) (by kernel_rfl) (by kernel_rfl) (by kernel_rfl) (fun _ _ _ h => h) (Or.inl ⟨by rfl, ?hz4⟩) hS ?rst4
          case hz4 => ((intro w hSw; (try dsimp only at hSw)); go_simp; (try with_reducible rfl))
          try go_frame
          refine Until.take0 (i := 5) (v := ?yv5) rfl (by kernel_rfl) (by kernel_rfl) (by kernel_rfl) (by kernel_rfl) (fun _ _ _ h => h) (Or.inl ⟨by rfl, ?hz5⟩) (fun _ => hS) ?rst5
          case hz5 => ((intro w hSw); clear hSw; go_simp; (try with_reducible rfl))
          try go_frame
          refine Until.one (i := 6) (by kernel_rfl) rfl (fun K hK => ?_)
          have HK := Lib.hid hK
          clear hK
          go_simp
          have hla := last_f L1.p L1.i L1.AE L1.es.length L1.cE w6 HR6.out.log.box.c0 HR6.out.log.box.c6 HR6.out.log.lo HR6.out.log.hi (Nat.le_trans HR6.out.log.le (by decide))
          rw [HP1.out] at hla
          refine hla.mono ?_
          clear hla
          rintro _ w7 ⟨rfl, ok⟩
          have HR7 := Lib.hid (HR6.out.ok ok)
          have HS7 := Lib.hid (ok.cell hS)
          clear hS ok HR6
          refine HK.out.out _ _ (fun _ => HS7.out) (fun _ => ?_)
          clear HK K
          try go_frame
          refine Until.one (i := 7) (by kernel_rfl) rfl (fun K hK => ?_)
          have HK := Lib.hid hK
          clear hK
          go_simp
          refine HK.out.out _ _ (fun _ => ((Ok.refl w7).alloc _).cell HS7.out) (fun _ => ?_)
          clear HK K
          try go_frame
          have HR8 := Lib.hid (HR7.out.ok ((Ok.refl w7).alloc (.cells #[.int .i64 (L1.i + (L1.es.length : Int))] 3)))
          have HNB8 : Hid ((w7.alloc (.cells #[.int .i64 (L1.i + (L1.es.length : Int))] 3)).heap[w7.heap.size]? = some (.cells #[.int .i64 (L1.i + (L1.es.length : Int))] 3 (0, 0))) := Lib.hid (heap_alloc_new w7 _)
          clear HS7 HR7
          generalize w7.alloc (.cells #[.int .i64 (L1.i + (L1.es.length : Int))] 3) = w8 at *
          refine Until.one (i := 8) (by kernel_rfl) rfl (fun K hK => ?_)
          have HK := Lib.hid hK
          clear hK
          refine step_mark rfl (.tmp 30) (.tmp 33) rfl S L1 HR8.out.log (L1.i + (L1.es.length : Int)) (by have := HX2.out; omega) rfl w7.heap.size rfl HNB8.out ?_
          intro A8 c8 w9 hpu
          have HPU8 := Lib.hid hpu
          have HR9 : Hid (Grown S L (l.take (k + 1)) w (L1.mark (L1.i + (L1.es.length : Int)) A8 c8) (w9.setCell ⟨p, 7, none⟩ (.slice A8 (L1.xs.length + 1) c8))) := Lib.hid (by rw [← HP1.out]; exact HR8.out.mark (by rw [List.length_take]; have := HX2.out; have := HN.out; omega) hpu)
          have HC9 : Hid (w9.cell? ⟨p, 7, none⟩ = some (.slice L1.AC L1.xs.length L1.cC)) := Lib.hid (by rw [← HP1.out]; exact hpu.c7)
          clear hpu
          refine HK.out.out _ _ (fun _ => HC9.out) (fun _ => ?_)
          clear HK K
          try go_frame
          refine Until.one (i := 9) (by kernel_rfl) rfl (fun K hK => ?_)
          have HK := Lib.hid hK
          clear hK
          go_simp
          refine HK.out.out _ _ (fun h => absurd (h.symm.trans (by kernel_rfl : _ = true)) Bool.false_ne_true) (fun _ => ?_)
          clear HK K
          try go_frame
          refine Until.take0 (i := 10) (v := ?yv10) rfl (by kernel_rfl) (by kernel_rfl) (by kernel_rfl) (by kernel_rfl) (fun _ _ _ h => h) (Or.inl ⟨by rfl, ?hz10⟩) (fun h => absurd (h.symm.trans (by kernel_rfl : _ = true)) Bool.false_ne_true) ?rst10
          case hz10 => ((intro w hSw); clear hSw; go_simp; (try with_reducible rfl))
          try go_frame
          have f7 := HPU8.out.f7
          have c7 := HPU8.out.c7
          rw [HP1.out] at f7 c7
          refine Until.one (i := 11) (by kernel_rfl) rfl (fun K hK => ?_)
          have HK := Lib.hid hK
          clear hK
          go_simp
          refine HK.out.out _ _ (fun h => absurd (h.symm.trans (by kernel_rfl : _ = true)) Bool.false_ne_true) (fun _ => ?_)
          clear HK K
          try go_frame
          refine Until.done (by kernel_rfl) ?_ _
          refine hK6 _ _ ?_
          clear hK6 K6 f7 c7
          generalize w9.setCell ⟨p, 7, none⟩ (.slice A8 (L1.xs.length + 1) c8) = wa at *
          go_wp2_with fail
          exact ⟨⟨k + 1, _, hlt, rfl, HR9.out⟩, HNEXT.out⟩
        · have d3 : (r.kind == 3) = false := beq_eq_false_iff_ne.2 h3
          go_wp2_with fail
          exact ⟨⟨k + 1, _, hlt, rfl, HR5.out⟩, HNEXT.out⟩
    · have d1 : decide ((k : Int) < (n : Int)) = false := decide_eq_false (by omega)
      obtain rfl : k = n := by omega
      go_wp2
      refine bodyPost_ret (v := .tuple #[]) (by simp [results, Try.results59, go_sem]; try rfl) rfl ?_
      exact ⟨rfl, L', by have := HR.out; rwa [List.take_of_length_le (by rw [HN.out]; exact Nat.le_refl _)] at this⟩
end Go.Proofs.Ytebhcadolnjplaa
