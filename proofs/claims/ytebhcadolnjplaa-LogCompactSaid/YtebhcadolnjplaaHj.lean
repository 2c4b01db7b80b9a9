/- New and Put, with the configurations. -/
import Derived.Test.YtebhcadolnjplaaHi
namespace Go.Proofs.Ytebhcadolnjplaa
open Go.RowKit

theorem CfgOff.sub {S S' : Nat → Prop} {s : S4} (h : CfgOff S s) (k : ∀ b, S' b → S b) : CfgOff S' s := ⟨h.o0.mono k, h.o1.mono k, h.o2.mono k, h.o3.mono k⟩
theorem CfgAt.later {w : World} {s : S4} {c : Cfg} (h : CfgAt w s c) : CfgOff (fun b => w.heap.size ≤ b) s := by
  have hi : ∀ {v : Value} {xs : List Int}, InI w v xs → Off (fun b => w.heap.size ≤ b) v := fun hv b o n c e h0 hb => by
    have := hv.lt e h0
    have hb : w.heap.size ≤ b := hb
    omega
  exact ⟨hi h.h0, hi h.h1, hi h.h2, hi h.h3⟩
theorem CfgOff.or {S S' T : Nat → Prop} {s : S4} (h : CfgOff S s) (h' : CfgOff S' s) (k : ∀ b, T b → S b ∨ S' b) : CfgOff T s := by
  have hi : ∀ {v : Value}, Off S v → Off S' v → Off T v := fun a d b o n c e h0 hb => (k b hb).elim (a b o n c e h0) (d b o n c e h0)
  exact ⟨hi h.o0 h'.o0, hi h.o1 h'.o1, hi h.o2 h'.o2, hi h.o3 h'.o3⟩
theorem mk_app (a l : List En) : ∀ b, mk b (a ++ l) = mk b a ++ mk (b + (a.length : Int)) l := by
  induction a with
  | nil => intro b; simp [mk]
  | cons e a ih =>
    intro b
    simp only [List.cons_append, mk, ih, List.append_assoc, List.length_cons]
    congr 3
    push_cast
    omega
theorem CfgOwn.off {w : World} {B : Nat} {s : S4} {c : Cfg} (h : CfgOwn w B s c) {S : Nat → Prop} (hs : ∀ b, S b → b < B) : CfgOff S s := ⟨h.h0.off hs, h.h1.off hs, h.h2.off hs, h.h3.off hs⟩
def NewP2 (W : World) (i t : Int) (c : Cfg) (e : Ending) (w' : World) : Prop := ∃ p s, e = .returned (.pointer (some ⟨p, 0, none⟩)) ∧ W.heap.size ≤ p ∧ Ok W w' ∧ (∀ S : Nat → Prop, LogAt (Sof S (LG.new p i t s)) (LG.new p i t s) w') ∧ CfgAt w' s c ∧ CfgOff (fun b => b < W.heap.size ∨ p ≤ b) s
set_option maxRecDepth 100000 in
set_option maxHeartbeats 4000000 in
theorem new2_f (i t : Int) (s : S4) (c : Cfg) (W : World) (h : CfgAt W s c) (hl : CfgLe c) (h0 : 0 ≤ i) (h1 : i ≤ 1073741824) (h2 : 0 ≤ t) : Calls Try.prog 26 #[.agg #[.int .i64 i, .int .i64 t, .slice s.A0 s.n0 s.c0, .slice s.A1 s.n1 s.c1, .slice s.A2 s.n2 s.c2, .slice s.A3 s.n3 s.c3]] W (NewP2 W i t c) := by
  have HC := Lib.hid h
  clear h
  have HA : Hid (Six W.heap.size (.int .i64 i) (.int .i64 t) (.slice s.A0 s.n0 s.c0) (.slice s.A1 s.n1 s.c1) (.slice s.A2 s.n2 s.c2) (.slice s.A3 s.n3 s.c3) (W.alloc (.cells #[.int .i64 i, .int .i64 t, .slice s.A0 s.n0 s.c0, .slice s.A1 s.n1 s.c1, .slice s.A2 s.n2 s.c2, .slice s.A3 s.n3 s.c3] 27))) := Lib.hid (Six.new _ _ _ _ _ _ _ _)
  have HO : Hid (Ok W (W.alloc (.cells #[.int .i64 i, .int .i64 t, .slice s.A0 s.n0 s.c0, .slice s.A1 s.n1 s.c1, .slice s.A2 s.n2 s.c2, .slice s.A3 s.n3 s.c3] 27))) := Lib.hid ((Ok.refl W).alloc _)
  go_enter Try.func26, Try.ntmps26
  go_upto_region 1 with fail
  rename_i K0 hK0
  generalize (W.alloc (.cells #[.int .i64 i, .int .i64 t, .slice s.A0 s.n0 s.c0, .slice s.A1 s.n1 s.c1, .slice s.A2 s.n2 s.c2, .slice s.A3 s.n3 s.c3] 27)) = w1 at *
  obtain ⟨g, hg⟩ : ∃ g, W.heap.size = g := ⟨_, rfl⟩
  rw [hg] at HA ⊢
  clear hg
  have c0 := HA.out.c0
  have c1 := HA.out.c1
  have c2 := HA.out.c2
  have c3 := HA.out.c3
  have c4 := HA.out.c4
  have c5 := HA.out.c5
  have hcb := copyBase_f i t s c w1 (HC.out.ok HO.out) hl
  have HK0 := Lib.hid hK0
  clear hK0
  go_wp2_with fail
  refine hcb.mono ?_
  clear hcb c0 c1 c2 c3 c4 c5 HA
  rintro _ w2 ⟨q, rfl, hq, ok⟩
  have HCQ : Hid (CfgAt w2 q c) := Lib.hid (hq.at hl.l0 hl.l1 hl.l2 hl.l3)
  have HOW : Hid (CfgOff (fun b => b < W.heap.size) q) := Lib.hid (hq.off fun b hb => Nat.lt_of_lt_of_le hb HO.out.size)
  have HO2 := Lib.hid (HO.out.trans ok)
  clear hq ok HO
  go_wp2_with fail
  refine HK0.out _ _ ?_
  clear HK0
  have HA3 : Hid (Six w2.heap.size (.int .i64 i) (.int .i64 t) (.slice q.A0 q.n0 q.c0) (.slice q.A1 q.n1 q.c1) (.slice q.A2 q.n2 q.c2) (.slice q.A3 q.n3 q.c3) (w2.alloc (.cells #[.int .i64 i, .int .i64 t, .slice q.A0 q.n0 q.c0, .slice q.A1 q.n1 q.c1, .slice q.A2 q.n2 q.c2, .slice q.A3 q.n3 q.c3] 27))) := Lib.hid (Six.new _ _ _ _ _ _ _ _)
  have HO3 := Lib.hid (HO2.out.alloc (.cells #[.int .i64 i, .int .i64 t, .slice q.A0 q.n0 q.c0, .slice q.A1 q.n1 q.c1, .slice q.A2 q.n2 q.c2, .slice q.A3 q.n3 q.c3] 27))
  have HWG : Hid (W.heap.size ≤ w2.heap.size) := Lib.hid HO2.out.size
  have HOQ : Hid (CfgOff (fun b => w2.heap.size ≤ b) q) := Lib.hid HCQ.out.later
  have HC3 : Hid (CfgAt (w2.alloc (.cells #[.int .i64 i, .int .i64 t, .slice q.A0 q.n0 q.c0, .slice q.A1 q.n1 q.c1, .slice q.A2 q.n2 q.c2, .slice q.A3 q.n3 q.c3] 27)) q c) := Lib.hid (HCQ.out.ok ((Ok.refl w2).alloc _))
  have HZ3 : Hid (w2.heap.size < (w2.alloc (.cells #[.int .i64 i, .int .i64 t, .slice q.A0 q.n0 q.c0, .slice q.A1 q.n1 q.c1, .slice q.A2 q.n2 q.c2, .slice q.A3 q.n3 q.c3] 27)).heap.size) := Lib.hid (by rw [World.size_alloc]; omega)
  clear HCQ
  clear HO2
  generalize (w2.alloc (.cells #[.int .i64 i, .int .i64 t, .slice q.A0 q.n0 q.c0, .slice q.A1 q.n1 q.c1, .slice q.A2 q.n2 q.c2, .slice q.A3 q.n3 q.c3] 27)) = w3 at *
  obtain ⟨z, hz⟩ : ∃ z, w2.heap.size = z := ⟨_, rfl⟩
  rw [hz] at HA3 HWG HOQ HZ3 ⊢
  clear hz
  have c0 := HA3.out.c0
  have c1 := HA3.out.c1
  have c2 := HA3.out.c2
  have c3 := HA3.out.c3
  have c4 := HA3.out.c4
  have c5 := HA3.out.c5
  have f0 := HA3.out.f 0
  have f1 := HA3.out.f 1
  have mi : max i 0 = i := by omega
  have mt : max t 0 = t := by omega
  have di : decide (i < 0) = false := decide_eq_false (by omega)
  have dt : decide (t < 0) = false := decide_eq_false (by omega)
  go_wp2_with fail
  refine bodyPost_ret (v := .pointer (some ⟨w3.heap.size, 0, none⟩)) (by simp [results, Try.results26, go_sem]; try rfl) rfl ?_
  have HO4 : Below W.heap.size W ((w3.setCell ⟨z, 0, none⟩ (.int .i64 i)).setCell ⟨z, 1, none⟩ (.int .i64 t)) := by
    iterate 2 refine Below.setCell ?_ HWG.out _
    exact HO3.out
  have hsz : ((w3.setCell ⟨z, 0, none⟩ (.int .i64 i)).setCell ⟨z, 1, none⟩ (.int .i64 t)).heap.size = w3.heap.size := by simp [World.setCell]
  have HC4 : Hid (CfgAt ((w3.setCell ⟨z, 0, none⟩ (.int .i64 i)).setCell ⟨z, 1, none⟩ (.int .i64 t)) q c) := Lib.hid (HC3.out.kp (S := fun b => z ≤ b) (((Kp.refl _ w3).set (.inr (Nat.le_refl z)) _ _).set (.inr (Nat.le_refl z)) _ _) HOQ.out)
  have HN4 := fun S => new_at S ((w3.setCell ⟨z, 0, none⟩ (.int .i64 i)).setCell ⟨z, 1, none⟩ (.int .i64 t)) i t q h0 h1
  generalize ((w3.setCell ⟨z, 0, none⟩ (.int .i64 i)).setCell ⟨z, 1, none⟩ (.int .i64 t)) = w4 at *
  rw [← hsz]
  exact ⟨w4.heap.size, q, rfl, HO4.size, Ok.alloc HO4 _, HN4, HC4.out.ok ((Ok.refl w4).alloc _), HOW.out.or HOQ.out fun b hb => hb.imp id fun hb => by have := HZ3.out; show z ≤ b; omega⟩
theorem LogC.put {S : Nat → Prop} {L L' : LG} {c0 : Cfg} {l : List En} {w w' : World} (h : LogC (Sof S L) L c0 w) (g : Grow2 S L l l w L' w') : LogC (Sof S L') L' c0 w' := by
  have hs : L'.s = L.s := g.g.ext.s
  refine ⟨g.g.log, by rw [hs]; exact h.cfg.kp g.g.kp (h.off.sub fun b hb => .inr hb), ?_, ?_, h.le⟩
  · rw [hs]
    refine h.off.or h.cfg.later fun b hb => ?_
    rcases hb with q | q
    · exact .inl (.inl q)
    · exact (g.g.new b q).imp .inr id
  · rw [g.xs, h.xs, g.g.ext.es, g.g.ext.i, mk_app]
    congr 2
    omega
end Go.Proofs.Ytebhcadolnjplaa
