/- How much entries are. -/
import Derived.Test.YtebhcadolnjplaaGr
namespace Go.Proofs.Ytebhcadolnjplaa
open Go.RowKit

def cfgN (c : Cfg) : Nat := 1 + c.vs.length + c.os.length + c.ls.length + c.ws.length
def enN (e : En) : Nat := 1 + e.cmd.length / 8 + cfgN e.cfg
def EntN (l : List En) (w : World) (e : Ending) (w' : World) : Prop := ∃ v : Int, e = .returned (.int .i64 v) ∧ Ok w w' ∧ (v ≤ 400 → l.length ≤ 400 ∧ ∀ j, j < l.length → enN (enA l j) ≤ 400)
set_option maxRecDepth 100000 in
set_option maxHeartbeats 4000000 in
theorem entriesOf_f (T : Nat → Prop) (A : Option Addr) (n c : Nat) (l : List En) (hn : l.length = n) (hn6 : n ≤ 17592186044416) (w : World) (hi : EnsIn T w A l) : Calls Try.prog 53 #[.slice A n c, .int .i64 400] w (EntN l w) := by
  have HI := Lib.hid hi
  have HN := Lib.hid hn
  clear hi hn
  go_enter Try.func53, Try.ntmps53
  go_wp2_with fail
  go_loopw [5, 6] (fun s i wr => ∃ (k r : Nat), k ≤ n ∧ s = .int .i64 r ∧ i = .int .i64 k ∧ k ≤ r ∧ r ≤ 1000000000000000 ∧ (∀ j, j < k → enN (enA l j) ≤ r) ∧ Ok w wr) (fun _ i _ => n - (intOf i).toNat)
  case atStart => exact ⟨0, 0, Nat.zero_le _, rfl, rfl, Nat.le_refl _, Nat.zero_le _, fun j hj => absurd hj (Nat.not_lt_zero _), Ok.refl _⟩
  case round =>
    obtain ⟨k, v, hk, rfl, rfl, hkv, hv, hall, okr⟩ := hrel
    have HALL := Lib.hid hall
    have HOK := Lib.hid okr
    clear hall okr
    by_cases hlt : k < n
    · have d1 : decide ((k : Int) < (n : Int)) = true := decide_eq_true (by omega)
      by_cases hm : v ≤ 400
      · have d2 : decide ((v : Int) ≤ 400) = true := decide_eq_true (by omega)
        obtain ⟨b, off, r, rfl, _, hr, hc⟩ := HI.out.kp (Kp.of (S := fun _ => False) HOK.out) (fun _ f => f.elim) k (by rw [HN.out]; exact hlt)
        have q2 : wr.cell? ⟨b, off + k * 7 + 2, none⟩ = some (.slice r.A r.n r.c) := hc 2 (by decide)
        have q3 : wr.cell? ⟨b, off + k * 7 + 3, none⟩ = some (.slice r.s.A0 r.s.n0 r.s.c0) := hc 3 (by decide)
        have q4 : wr.cell? ⟨b, off + k * 7 + 4, none⟩ = some (.slice r.s.A1 r.s.n1 r.s.c1) := hc 4 (by decide)
        have q5 : wr.cell? ⟨b, off + k * 7 + 5, none⟩ = some (.slice r.s.A2 r.s.n2 r.s.c2) := hc 5 (by decide)
        have q6 : wr.cell? ⟨b, off + k * 7 + 6, none⟩ = some (.slice r.s.A3 r.s.n3 r.s.c3) := hc 6 (by decide)
        have HR := Lib.hid hr
        have hi0 : (0 : Int) ≤ (k : Int) := Int.natCast_nonneg _
        have hi1 : (k : Int) < (n : Int) := by omega
        clear hr hc
        have HQ : Hid (_ ∧ _ ∧ _ ∧ _ ∧ _) := Lib.hid ⟨q2, q3, q4, q5, q6⟩
        clear q2 q3 q4 q5 q6
        obtain ⟨_, _, e1, b1⟩ := HR.out.cmd.form
        simp only [Value.slice.injEq] at e1
        have hrn : r.n = (enA l k).cmd.length := e1.2.1
        have HRN := Lib.hid hrn
        have hb1 : r.n ≤ 140737488351232 := by rw [hrn]; exact b1
        clear e1 b1 hrn
        obtain ⟨cn, hcn⟩ : ∃ cn, cfgN (enA l k).cfg = cn := ⟨_, rfl⟩
        have HCN := Lib.hid hcn
        have hcb : cn ≤ 100000000000000 := by
          obtain ⟨_, _, _, b0⟩ := HR.out.cfg.h0.form
          obtain ⟨_, _, _, b1⟩ := HR.out.cfg.h1.form
          obtain ⟨_, _, _, b2⟩ := HR.out.cfg.h2.form
          obtain ⟨_, _, _, b3⟩ := HR.out.cfg.h3.form
          rw [← hcn]; unfold cfgN; omega
        clear hcn
        have w1e : IntKind.i64.wrap ((v : Int) + 1) = (v : Int) + 1 := IntWalk.i64_in _ (by omega)
        have w2e : IntKind.i64.wrap ((r.n : Int) / 8) = (r.n : Int) / 8 := IntWalk.i64_in _ (by omega)
        have w3e : IntKind.i64.wrap ((v : Int) + 1 + (r.n : Int) / 8) = (v : Int) + 1 + (r.n : Int) / 8 := IntWalk.i64_in _ (by omega)
        have w4e : IntKind.i64.wrap ((v : Int) + 1 + (r.n : Int) / 8 + (cn : Int)) = (v : Int) + 1 + (r.n : Int) / 8 + (cn : Int) := IntWalk.i64_in _ (by omega)
        go_upto_region 5 with fail
        rename_i K4 hK4 K0 hK0
        have HK0 := Lib.hid hK0
        clear hK0
        refine Until.begin (S := fun w => w.cell? ⟨b, off + k * 7 + 2, none⟩ = some (.slice r.A r.n r.c) ∧ w.cell? ⟨b, off + k * 7 + 3, none⟩ = some (.slice r.s.A0 r.s.n0 r.s.c0) ∧ w.cell? ⟨b, off + k * 7 + 4, none⟩ = some (.slice r.s.A1 r.s.n1 r.s.c1) ∧ w.cell? ⟨b, off + k * 7 + 5, none⟩ = some (.slice r.s.A2 r.s.n2 r.s.c2) ∧ w.cell? ⟨b, off + k * 7 + 6, none⟩ = some (.slice r.s.A3 r.s.n3 r.s.c3)) (j := 17) (by kernel_rfl) ?_ ?_
        · have k1 := HQ.out
          have o := (Ok.refl wr).drew
          exact ⟨o.cell k1.1, o.cell k1.2.1, o.cell k1.2.2.1, o.cell k1.2.2.2.1, o.cell k1.2.2.2.2⟩
        intro hS
        have HW0 : Hid (Ok wr wr.drew) := Lib.hid ((Ok.refl wr).drew)
        generalize wr.drew = w0 at *
        refine Until.take0 (i := 0) (v := ?v0) rfl (by kernel_rfl) (by kernel_rfl) (by kernel_rfl) (by kernel_rfl) (fun _ _ _ h => h) (Or.inl ⟨by rfl, ?hy0⟩) (fun _ => hS) ?rest0
        case hy0 => ((intro w hSw); clear hSw; go_simp; (try with_reducible rfl))
        try go_frame
        refine Until.take0 (i := 1) (v := ?v1) rfl (by kernel_rfl) (by kernel_rfl) (by kernel_rfl) (by kernel_rfl) (fun _ _ _ h => h) (Or.inl ⟨by rfl, ?hy1⟩) (fun _ => hS) ?rest1
        case hy1 => ((intro w hSw); clear hSw; go_simp; (try with_reducible rfl))
        try go_frame
        refine Until.take0 (i := 2) (v := ?v2) rfl (by kernel_rfl) (by kernel_rfl) (by kernel_rfl) (by kernel_rfl) (fun _ _ _ h => h) (Or.inl ⟨by rfl, ?hy2⟩) (fun _ => hS) ?rest2
        case hy2 => ((intro w hSw); clear hSw; go_simp; (try with_reducible rfl))
        try go_frame
        refine Until.take0 (i := 3) (v := ?v3) rfl (by kernel_rfl) (by kernel_rfl) (by kernel_rfl) (by kernel_rfl) (fun _ _ _ h => h) (Or.inl ⟨by rfl, ?hy3⟩) (fun _ => hS) ?rest3
        case hy3 => ((intro w hSw); clear hSw; go_simp; (try with_reducible rfl))
        try go_frame
        refine Until.take0 (i := 4) (v := ?v4) rfl (by kernel_rfl) (by kernel_rfl) (by kernel_rfl) (by kernel_rfl) (fun _ _ _ h => h) (Or.inl ⟨by rfl, ?hy4⟩) (fun _ => hS) ?rest4
        case hy4 => ((intro w hSw); clear hSw; go_simp; (try with_reducible rfl))
        try go_frame
        refine Until.take0 (i := 5) (v := ?v5) rfl (by kernel_rfl) (by kernel_rfl) (by kernel_rfl) (by kernel_rfl) (fun _ _ _ h => h) (Or.inl ⟨by rfl, ?hy5⟩) (fun _ => hS) ?rest5
        case hy5 => ((intro w hSw); clear hSw; go_simp; (try with_reducible rfl))
        try go_frame
        refine Until.take (i := 6) (v := ?v6) rfl (by kernel_rfl) (by kernel_rfl) (by kernel_rfl) (by kernel_rfl) (fun _ _ _ h => h) (Or.inl ⟨by rfl, ?hy6⟩) hS ?rest6
        case hy6 => ((intro w hSw; (try dsimp only at hSw)); go_simp; (try with_reducible rfl))
        try go_frame
        refine Until.take0 (i := 7) (v := ?v7) rfl (by kernel_rfl) (by kernel_rfl) (by kernel_rfl) (by kernel_rfl) (fun _ _ _ h => h) (Or.inl ⟨by rfl, ?hy7⟩) (fun _ => hS) ?rest7
        case hy7 => ((intro w hSw); clear hSw; go_simp; (try with_reducible rfl))
        try go_frame
        refine Until.take0 (i := 8) (v := ?v8) rfl (by kernel_rfl) (by kernel_rfl) (by kernel_rfl) (by kernel_rfl) (fun _ _ _ h => h) (Or.inl ⟨by rfl, ?hy8⟩) (fun _ => hS) ?rest8
        case hy8 => ((intro w hSw); clear hSw; go_simp; (try with_reducible rfl))
        try go_frame
        refine Until.take0 (i := 9) (v := ?v9) rfl (by kernel_rfl) (by kernel_rfl) (by kernel_rfl) (by kernel_rfl) (fun _ _ _ h => h) (Or.inl ⟨by rfl, ?hy9⟩) (fun _ => hS) ?rest9
        case hy9 => ((intro w hSw); clear hSw; go_simp; (try with_reducible rfl))
        try go_frame
        refine Until.take0 (i := 10) (v := ?v10) rfl (by kernel_rfl) (by kernel_rfl) (by kernel_rfl) (by kernel_rfl) (fun _ _ _ h => h) (Or.inl ⟨by rfl, ?hy10⟩) (fun _ => hS) ?rest10
        case hy10 => ((intro w hSw); clear hSw; go_simp; (try with_reducible rfl))
        try go_frame
        refine Until.take0 (i := 11) (v := ?v11) rfl (by kernel_rfl) (by kernel_rfl) (by kernel_rfl) (by kernel_rfl) (fun _ _ _ h => h) (Or.inl ⟨by rfl, ?hy11⟩) (fun _ => hS) ?rest11
        case hy11 => ((intro w hSw); clear hSw; go_simp; (try with_reducible rfl))
        try go_frame
        refine Until.take0 (i := 12) (v := ?v12) rfl (by kernel_rfl) (by kernel_rfl) (by kernel_rfl) (by kernel_rfl) (fun _ _ _ h => h) (Or.inl ⟨by rfl, ?hy12⟩) (fun _ => hS) ?rest12
        case hy12 => ((intro w hSw); clear hSw; go_simp; (try with_reducible rfl))
        try go_frame
        refine Until.take0 (i := 13) (v := ?v13) rfl (by kernel_rfl) (by kernel_rfl) (by kernel_rfl) (by kernel_rfl) (fun _ _ _ h => h) (Or.inl ⟨by rfl, ?hy13⟩) (fun _ => hS) ?rest13
        case hy13 => ((intro w hSw); clear hSw; go_simp; (try with_reducible rfl))
        try go_frame
        refine Until.take (i := 14) (v := ?v14) rfl (by kernel_rfl) (by kernel_rfl) (by kernel_rfl) (by kernel_rfl) (fun _ _ _ h => h) (Or.inl ⟨by rfl, ?hy14⟩) hS ?rest14
        case hy14 => ((intro w hSw; (try dsimp only at hSw)); go_simp; (try with_reducible rfl))
        try go_frame
        refine Until.one (i := 15) (by kernel_rfl) rfl (fun K hK => ?_)
        have HK := Lib.hid hK
        clear hK
        have hco := configOf_f r.s (enA l k).cfg w0 (HR.out.cfg.ok HW0.out)
        rw [show (1 + (enA l k).cfg.vs.length + (enA l k).cfg.os.length + (enA l k).cfg.ls.length + (enA l k).cfg.ws.length : Nat) = cn from HCN.out] at hco
        go_simp
        refine hco.mono ?_
        clear hco
        rintro _ w2 ⟨rfl, ok⟩
        have HW2 : Hid (Ok w w2) := Lib.hid ((HOK.out.trans HW0.out).trans ok)
        have HS2 : Hid (_ ∧ _ ∧ _ ∧ _ ∧ _) := Lib.hid ⟨ok.cell hS.1, ok.cell hS.2.1, ok.cell hS.2.2.1, ok.cell hS.2.2.2.1, ok.cell hS.2.2.2.2⟩
        clear ok hS
        refine HK.out.out _ _ (fun _ => HS2.out) (fun _ => ?_)
        have hS := HS2.out
        clear HS2 HK K
        try go_frame
        refine Until.take0 (i := 16) (v := ?v16) rfl (by kernel_rfl) (by kernel_rfl) (by kernel_rfl) (by kernel_rfl) (fun _ _ _ h => h) (Or.inl ⟨by rfl, ?hy16⟩) (fun _ => hS) ?rest16
        case hy16 => ((intro w hSw); clear hSw; go_simp; (try with_reducible rfl))
        try go_frame
        refine Until.one (i := 17) (by kernel_rfl) rfl (fun K hK => ?_)
        have HK := Lib.hid hK
        clear hK
        go_simp
        refine HK.out.out _ _ (fun h => absurd (h.symm.trans (by kernel_rfl : _ = true)) Bool.false_ne_true) (fun _ => ?_)
        clear HK K
        try go_frame
        refine Until.done (by kernel_rfl) ?_ _
        refine HK0.out _ _ ?_
        clear HK0 hS
        go_wp2_with fail
        refine ⟨⟨k + 1, v + 1 + r.n / 8 + cn, hlt, by push_cast; rfl, by push_cast; rfl, by omega, by omega, fun j hj => ?_, HW2.out⟩, ?_⟩
        · by_cases hjk : j < k
          · have := HALL.out j hjk
            omega
          · obtain rfl : j = k := by omega
            unfold enN
            rw [HCN.out, ← HRN.out]
            omega
        · show n - ((k : Int) + 1).toNat < n - (k : Int).toNat
          omega
      · have d2 : decide ((v : Int) ≤ 400) = false := decide_eq_false (by omega)
        go_wp2_with fail
        go_ret
        exact ⟨v, rfl, HOK.out, fun h => absurd h (by omega)⟩
    · have d1 : decide ((k : Int) < (n : Int)) = false := decide_eq_false (by omega)
      go_wp2_with fail
      go_ret
      exact ⟨v, rfl, HOK.out, fun h => by rw [HN.out]; exact ⟨by omega, fun j hj => Nat.le_trans (HALL.out j (by omega)) (by omega)⟩⟩
end Go.Proofs.Ytebhcadolnjplaa
