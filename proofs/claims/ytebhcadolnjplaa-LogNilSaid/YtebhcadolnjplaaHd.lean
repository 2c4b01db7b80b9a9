/- The law LogNil. -/
import Derived.Test.YtebhcadolnjplaaHc
import Derived.Test.YtebhcadolnjplaaGr
import Derived.Test.YtebhcadolnjplaaGt
import Derived.Deep.CutRange
namespace Go.Proofs.Ytebhcadolnjplaa
open Go.RowKit

theorem Until.two {P : Program} {ops : Array Oper} {Q : Exit → Act → World → Prop} {md : Region.Mode} {S : World → Prop} {j i k : Nat} {oi ok : Oper} {n : Nat} {listed : Array Bool} {a : Act} {w : World} (hr : Region.ready md ops listed = [i, k]) (hoi : ops[i]? = some oi) (hok : ops[k]? = some ok)
    (h : ∀ K : Act → World → Prop, Shut (∀ a w, ((listed.setIfInBounds i true).getD j true = false → S w) → (((listed.setIfInBounds i true).getD j true = false → S w) → Until P md ops Q S j n (listed.setIfInBounds i true) a w) → K a w) →
      if Region.wanted oi (yielded ops a.tmps) = true then Oper.wp P oi a w K Q else K (a.put oi.dst undef) w)
    (h' : ∀ K : Act → World → Prop, Shut (∀ a w, ((listed.setIfInBounds k true).getD j true = false → S w) → (((listed.setIfInBounds k true).getD j true = false → S w) → Until P md ops Q S j n (listed.setIfInBounds k true) a w) → K a w) →
      if Region.wanted ok (yielded ops a.tmps) = true then Oper.wp P ok a w K Q else K (a.put ok.dst undef) w) : Until P md ops Q S j (n + 1) listed a w :=
  ⟨fun h0 => (by rw [hr] at h0; cases h0), fun m hm => by
    rw [hr] at hm
    rcases List.mem_cons.1 hm with rfl | hm
    · exact wpOp_step hoi (fun K' hK => h K' (fun a w hS hW => hK a w ⟨hS, hW hS⟩))
    · obtain rfl := List.mem_singleton.1 hm
      exact wpOp_step hok (fun K' hK => h' K' (fun a w hS hW => hK a w ⟨hS, hW hS⟩))⟩
structure Nine (g : Nat) (kd x : Int) (A : Option Addr) (n c : Nat) (i t : Int) (s : S4) (w : World) : Prop where
  c0 : w.cell? ⟨g, 0, none⟩ = some (.int .i64 kd)
  c1 : w.cell? ⟨g, 1, none⟩ = some (.int .i64 x)
  c2 : w.cell? ⟨g, 2, none⟩ = some (.slice A n c)
  c3 : w.cell? ⟨g, 3, none⟩ = some (.int .i64 i)
  c4 : w.cell? ⟨g, 4, none⟩ = some (.int .i64 t)
  c5 : w.cell? ⟨g, 5, none⟩ = some (.slice s.A0 s.n0 s.c0)
  c6 : w.cell? ⟨g, 6, none⟩ = some (.slice s.A1 s.n1 s.c1)
  c7 : w.cell? ⟨g, 7, none⟩ = some (.slice s.A2 s.n2 s.c2)
  c8 : w.cell? ⟨g, 8, none⟩ = some (.slice s.A3 s.n3 s.c3)
theorem Nine.ok {g : Nat} {kd x : Int} {A : Option Addr} {n c : Nat} {i t : Int} {s : S4} {w w' : World} (h : Nine g kd x A n c i t s w) (k : Ok w w') : Nine g kd x A n c i t s w' :=
  ⟨k.cell h.c0, k.cell h.c1, k.cell h.c2, k.cell h.c3, k.cell h.c4, k.cell h.c5, k.cell h.c6, k.cell h.c7, k.cell h.c8⟩
set_option maxRecDepth 100000 in
set_option maxHeartbeats 4000000 in
theorem nil_law (kd x i t : Int) (s : S4) (cf : Cfg) (A : Option Addr) (n c : Nat) (l : List En) (W : World) (hc : CfgAt W s cf) (h1 : EnsIn NoB W A l) (hn : l.length = n) (hn1 : n ≤ 17592186044416) :
    Calls Try.prog 3 #[.agg #[.int .i64 kd, .int .i64 x, .slice A n c, .int .i64 i, .int .i64 t, .slice s.A0 s.n0 s.c0, .slice s.A1 s.n1 s.c1, .slice s.A2 s.n2 s.c2, .slice s.A3 s.n3 s.c3]] W (Ret W (.bool true)) := by
  have HC := Lib.hid hc
  have H1 := Lib.hid h1
  have HN := Lib.hid hn
  have HA0 : Hid (Nine W.heap.size kd x A n c i t s (W.alloc (.cells #[.int .i64 kd, .int .i64 x, .slice A n c, .int .i64 i, .int .i64 t, .slice s.A0 s.n0 s.c0, .slice s.A1 s.n1 s.c1, .slice s.A2 s.n2 s.c2, .slice s.A3 s.n3 s.c3] 29))) := Lib.hid ⟨box_cell _ _ _ _ _ rfl, box_cell _ _ _ _ _ rfl, box_cell _ _ _ _ _ rfl, box_cell _ _ _ _ _ rfl, box_cell _ _ _ _ _ rfl, box_cell _ _ _ _ _ rfl, box_cell _ _ _ _ _ rfl, box_cell _ _ _ _ _ rfl, box_cell _ _ _ _ _ rfl⟩
  have HO : Hid (Ok W (W.alloc (.cells #[.int .i64 kd, .int .i64 x, .slice A n c, .int .i64 i, .int .i64 t, .slice s.A0 s.n0 s.c0, .slice s.A1 s.n1 s.c1, .slice s.A2 s.n2 s.c2, .slice s.A3 s.n3 s.c3] 29))) := Lib.hid ((Ok.refl W).alloc _)
  clear hc h1 hn
  go_enter Try.func3, Try.ntmps3
  go_wp2_with fail
  generalize (W.alloc (.cells #[.int .i64 kd, .int .i64 x, .slice A n c, .int .i64 i, .int .i64 t, .slice s.A0 s.n0 s.c0, .slice s.A1 s.n1 s.c1, .slice s.A2 s.n2 s.c2, .slice s.A3 s.n3 s.c3] 29)) = w0 at *
  obtain ⟨g, hg⟩ : ∃ g, W.heap.size = g := ⟨_, rfl⟩
  rw [hg] at HA0 ⊢
  clear hg
  refine (awake_f w0).mono ?_
  rintro _ w1 ⟨rfl, o1⟩
  have HO1 : Hid (Ok W w1) := Lib.hid (HO.out.trans o1)
  have HA1 := Lib.hid (HA0.out.ok o1)
  clear o1
  have c0 := HA1.out.c0
  have c1 := HA1.out.c1
  have c2 := HA1.out.c2
  have c3 := HA1.out.c3
  have c4 := HA1.out.c4
  have c5 := HA1.out.c5
  have c6 := HA1.out.c6
  have c7 := HA1.out.c7
  have c8 := HA1.out.c8
  go_wp2_with fail
  have hgr := great_f NoB w1.heap.size 0 1 1 (fun _ => ⟨kd, x, A, n, c, i, t, s⟩) (fun _ => l) (fun _ => cf) (by decide) (w1.alloc (.cells #[.int .i64 kd, .int .i64 x, .slice A n c, .int .i64 i, .int .i64 t, .slice s.A0 s.n0 s.c0, .slice s.A1 s.n1 s.c1, .slice s.A2 s.n2 s.c2, .slice s.A3 s.n3 s.c3] 29)) (fun j hj => by
    have o : Ok w1 (w1.alloc (.cells #[.int .i64 kd, .int .i64 x, .slice A n c, .int .i64 i, .int .i64 t, .slice s.A0 s.n0 s.c0, .slice s.A1 s.n1 s.c1, .slice s.A2 s.n2 s.c2, .slice s.A3 s.n3 s.c3] 29)) := (Ok.refl w1).alloc _
    obtain rfl : j = 0 := by omega
    exact ⟨box_cell _ _ _ _ _ rfl, box_cell _ _ _ _ _ rfl, box_cell _ _ _ _ _ rfl, box_cell _ _ _ _ _ rfl, box_cell _ _ _ _ _ rfl, box_cell _ _ _ _ _ rfl, box_cell _ _ _ _ _ rfl, H1.out.kp (Kp.of (S := fun _ => False) ((HO1.out).trans o)) (fun _ f => f.elim), HN.out, hn1, HC.out.ok (HO1.out.trans o)⟩)
  have HO2 : Hid (Ok w1 (w1.alloc (.cells #[.int .i64 kd, .int .i64 x, .slice A n c, .int .i64 i, .int .i64 t, .slice s.A0 s.n0 s.c0, .slice s.A1 s.n1 s.c1, .slice s.A2 s.n2 s.c2, .slice s.A3 s.n3 s.c3] 29))) := Lib.hid ((Ok.refl w1).alloc _)
  clear c0 c1 c2 c3 c4 c5 c6 c7 c8
  refine Calls.mono (R := GreatP 1 (fun _ => ⟨kd, x, A, n, c, i, t, s⟩) (fun _ => l) (fun _ => cf) _) hgr ?_
  clear hgr
  rintro _ w2 ⟨b, rfl, o2, -⟩
  have HO3 : Hid (Ok w1 w2) := Lib.hid (HO2.out.trans o2)
  clear HO2 o2
  cases b with
  | true =>
    go_wp2_with fail
    go_ret
    exact ⟨rfl, HO1.out.trans HO3.out⟩
  | false =>
  go_upto_region 7 with fail
  have HLS : Hid (∀ k : Nat, k < 2 → ∃ v, ((w2.alloc (.cells #[.int .i64 0, .int .i64 0, .slice none 0 0, .slice none 0 0, .slice none 0 0, .slice none 0 0, .slice none 0 0, .slice none 0 0, .bool false] 36)).alloc (.cells #[.pointer none, .pointer (some ⟨w2.heap.size, 0, none⟩)] 33)).cell? ⟨w2.heap.size + 1, k, none⟩ = some v ∧ NoLog v ((w2.alloc (.cells #[.int .i64 0, .int .i64 0, .slice none 0 0, .slice none 0 0, .slice none 0 0, .slice none 0 0, .slice none 0 0, .slice none 0 0, .bool false] 36)).alloc (.cells #[.pointer none, .pointer (some ⟨w2.heap.size, 0, none⟩)] 33))) := Lib.hid fun k hk => by
    have o : Ok (w2.alloc (.cells #[.int .i64 0, .int .i64 0, .slice none 0 0, .slice none 0 0, .slice none 0 0, .slice none 0 0, .slice none 0 0, .slice none 0 0, .bool false] 36)) ((w2.alloc (.cells #[.int .i64 0, .int .i64 0, .slice none 0 0, .slice none 0 0, .slice none 0 0, .slice none 0 0, .slice none 0 0, .slice none 0 0, .bool false] 36)).alloc (.cells #[.pointer none, .pointer (some ⟨w2.heap.size, 0, none⟩)] 33)) := (Ok.refl _).alloc _
    have e : (w2.alloc (.cells #[.int .i64 0, .int .i64 0, .slice none 0 0, .slice none 0 0, .slice none 0 0, .slice none 0 0, .slice none 0 0, .slice none 0 0, .bool false] 36)).heap.size = w2.heap.size + 1 := World.size_alloc _ _
    have b0 := box_cell (w2.alloc (.cells #[.int .i64 0, .int .i64 0, .slice none 0 0, .slice none 0 0, .slice none 0 0, .slice none 0 0, .slice none 0 0, .slice none 0 0, .bool false] 36)) #[.pointer none, .pointer (some ⟨w2.heap.size, 0, none⟩)] 33 0 _ rfl
    have b1 := box_cell (w2.alloc (.cells #[.int .i64 0, .int .i64 0, .slice none 0 0, .slice none 0 0, .slice none 0 0, .slice none 0 0, .slice none 0 0, .slice none 0 0, .bool false] 36)) #[.pointer none, .pointer (some ⟨w2.heap.size, 0, none⟩)] 33 1 _ rfl
    rw [e] at b0 b1
    match k, hk with
    | 0, _ => exact ⟨_, b0, .inl rfl⟩
    | 1, _ => exact ⟨_, b1, .inr ⟨_, rfl, o.cell (box_cell _ _ _ _ _ rfl)⟩⟩
  have HW3 : Hid (Ok w2 ((w2.alloc (.cells #[.int .i64 0, .int .i64 0, .slice none 0 0, .slice none 0 0, .slice none 0 0, .slice none 0 0, .slice none 0 0, .slice none 0 0, .bool false] 36)).alloc (.cells #[.pointer none, .pointer (some ⟨w2.heap.size, 0, none⟩)] 33))) := Lib.hid (((Ok.refl w2).alloc _).alloc _)
  generalize ((w2.alloc (.cells #[.int .i64 0, .int .i64 0, .slice none 0 0, .slice none 0 0, .slice none 0 0, .slice none 0 0, .slice none 0 0, .slice none 0 0, .bool false] 36)).alloc (.cells #[.pointer none, .pointer (some ⟨w2.heap.size, 0, none⟩)] 33)) = w3 at *
  obtain ⟨g4, hg4⟩ : ∃ g4, w2.heap.size + 1 = g4 := ⟨_, rfl⟩
  rw [hg4] at HLS ⊢
  clear hg4
  have HA := Lib.hid (HA1.out.ok (HO3.out.trans HW3.out))
  have HWB : Hid (Ok W w3) := Lib.hid ((HO1.out.trans HO3.out).trans HW3.out)
  clear HA1 HO1 HO3 HW3 HC H1
  go_wp2_with fail
  go_loopw [5, 6, 7, 8, 9, 10, 11, 12, 13] (fun v5 _ _ _ _ _ _ _ _ wr => ∃ k : Nat, k ≤ 2 ∧ v5 = .int .i64 k ∧ Ok w3 wr) (fun v5 _ _ _ _ _ _ _ _ _ => 2 - (intOf v5).toNat)
  case atStart => exact ⟨0, Nat.zero_le _, rfl, Ok.refl _⟩
  case round =>
    obtain ⟨k, hk, rfl, okr⟩ := hrel
    have HOK := Lib.hid okr
    clear okr
    by_cases hlt : k < 2
    · have d1 : decide ((k : Int) < 2) = true := decide_eq_true (by omega)
      obtain ⟨v, hv0, hnl⟩ := HLS.out k hlt
      have HNL : Hid (NoLog v wr) := Lib.hid (hnl.ok HOK.out)
      have hv : wr.cell? ⟨g4, k, none⟩ = some v := HOK.out.cell hv0
      have hi0 : (0 : Int) ≤ (k : Int) := Int.natCast_nonneg _
      have hi1 : (k : Int) < 2 := by omega
      have HA9 := Lib.hid (HA.out.ok HOK.out)
      have cx := HA9.out.c1
      have ce := HA9.out.c2
      clear hv0 hnl
      go_upto_region 10 with fail
      have r0 := cell_regrown hv
      have r1 := cell_regrown cx
      have r2 := cell_regrown ce
      have q12 : ∀ d os, Calls Try.prog 12 #[v, .int .i64 x, .slice A n c] (Go.Sort.grow (redrawn wr d) os) fun e w'' => e = .returned (.tuple #[.int .i64 0, .bool false]) ∧ ∃ q : Regrown, w'' = Go.Sort.grow (redrawn wr q.d) q.os := fun d os => Rg (nil_12 v x _ _ (HNL.out.ok (below_regrown wr d os)))
      refine wp_region_quiet_below (by kernel_rfl) (by kernel_rfl) ?_
      refine HeldU.out ?_
      repeat (
        refine hqU_step (fun K hK => ?_)
        go_simp
        first
          | (refine hK _ ?_; clear hK K)
          | (apply Exists.intro
             refine ⟨fun _ => ?_, hK _ ?_⟩
             (with_reducible first
               | exact q12 _ _)
             clear hK K))
      refine HeldU.mk (wpQuiet_nil ?_)
      intro _ hw'
      obtain ⟨⟨dq, osq⟩, hw''⟩ := hw'
      subst hw''
      have HU1 : Hid (Ok wr (Go.Sort.grow (redrawn wr dq) osq)) := Lib.hid (below_regrown wr dq osq)
      clear q12 r0 r1 r2
      generalize Go.Sort.grow (redrawn wr dq) osq = u1 at *
      have hv1 := HU1.out.cell hv
      go_wp2_with fail
      refine (nil_13 v 0 u1 (HNL.out.ok HU1.out)).mono ?_
      rintro _ u2 ⟨rfl, o2⟩
      have HU2 := Lib.hid (HU1.out.trans o2)
      clear o2 hv1
      go_upto_region 12 with fail
      have HVC := Lib.hid hv
      have hv2 := HU2.out.cell hv
      have cx2 := HU2.out.cell cx
      clear hv cx ce
      go_cut [10, 11] from 23 to 144 (fun _ v11 w => v11 = .bool false ∧ Ok wr w)
      case first =>
        go_upto_region 12 with fail
        rename_i K0 hK0
        have HK0 := Lib.hid hK0
        clear hK0
        refine Until.begin (S := fun w => w.cell? ⟨g4, k, none⟩ = some v ∧ w.cell? ⟨g, 1, none⟩ = some (.int .i64 x)) (j := 6) (by kernel_rfl) ?_ ?_
        · exact ⟨(Ok.refl u2).drew.cell hv2, (Ok.refl u2).drew.cell cx2⟩
        intro hS
        have HOW : Hid (Ok wr u2.drew) := Lib.hid (HU2.out.trans ((Ok.refl u2).drew))
        generalize u2.drew = w1 at *
        refine Until.take0 (i := 0) (v := ?v0) rfl (by kernel_rfl) (by kernel_rfl) (by kernel_rfl) (by kernel_rfl) (fun _ _ _ h => h) (Or.inl ⟨by rfl, ?hy0⟩) (fun _ => hS) ?rest0
        case hy0 => ((intro w hSw); clear hSw; go_simp; (try with_reducible rfl))
        try go_frame
        refine Until.take0 (i := 1) (v := ?v1) rfl (by kernel_rfl) (by kernel_rfl) (by kernel_rfl) (by kernel_rfl) (fun _ _ _ h => h) (Or.inl ⟨by rfl, ?hy1⟩) (fun _ => hS) ?rest1
        case hy1 => ((intro w hSw); clear hSw; go_simp; (try with_reducible rfl))
        try go_frame
        refine Until.take0 (i := 2) (v := ?v2) rfl (by kernel_rfl) (by kernel_rfl) (by kernel_rfl) (by kernel_rfl) (fun _ _ _ h => h) (Or.inl ⟨by rfl, ?hy2⟩) (fun _ => hS) ?rest2
        case hy2 => ((intro w hSw); clear hSw; go_simp; (try with_reducible rfl))
        try go_frame
        refine Until.take (i := 3) (v := ?v3) rfl (by kernel_rfl) (by kernel_rfl) (by kernel_rfl) (by kernel_rfl) (fun _ _ _ h => h) (Or.inl ⟨by rfl, ?hy3⟩) hS ?rest3
        case hy3 => ((intro w hSw; (try dsimp only at hSw)); obtain ⟨z0, z1⟩ := hSw; go_simp; (try with_reducible rfl))
        try go_frame
        refine Until.take0 (i := 4) (v := ?v4) rfl (by kernel_rfl) (by kernel_rfl) (by kernel_rfl) (by kernel_rfl) (fun _ _ _ h => h) (Or.inl ⟨by rfl, ?hy4⟩) (fun _ => hS) ?rest4
        case hy4 => ((intro w hSw); clear hSw; go_simp; (try with_reducible rfl))
        try go_frame
        refine Until.take (i := 5) (v := ?v5) rfl (by kernel_rfl) (by kernel_rfl) (by kernel_rfl) (by kernel_rfl) (fun _ _ _ h => h) (Or.inl ⟨by rfl, ?hy5⟩) hS ?rest5
        case hy5 => ((intro w hSw; (try dsimp only at hSw)); obtain ⟨z0, z1⟩ := hSw; go_simp; (try with_reducible rfl))
        try go_frame
        have HSS : Hid (_ ∧ _) := Lib.hid hS
        refine Until.two (i := 6) (k := 10) (by kernel_rfl) rfl rfl (fun K hK => ?_) (fun K hK => ?_)
        · have HK := Lib.hid hK
          clear hK
          go_simp
          refine (nil_14 v x w1 (HNL.out.ok HOW.out)).mono ?_
          rintro _ w2 ⟨r, rfl, hr, o2⟩
          unfold ER.val
          have HOW : Hid (Ok wr w2) := Lib.hid (HOW.out.trans o2)
          clear hr o2 hS HSS
          refine HK.out.out _ _ (fun h => absurd (h.symm.trans (by kernel_rfl : _ = true)) Bool.false_ne_true) (fun _ => ?_)
          clear HK K
          try go_frame
          refine Until.take0 (i := 7) (v := ?v7b) rfl (by kernel_rfl) (by kernel_rfl) (by kernel_rfl) (by kernel_rfl) (fun _ _ _ h => h) (Or.inl ⟨by rfl, ?hy7b⟩) (fun h => absurd (h.symm.trans (by kernel_rfl : _ = true)) Bool.false_ne_true) ?rest7b
          case hy7b => ((intro w hSw); clear hSw; go_simp; (try with_reducible rfl))
          try go_frame
          refine Until.take0 (i := 8) (v := ?v8b) rfl (by kernel_rfl) (by kernel_rfl) (by kernel_rfl) (by kernel_rfl) (fun _ _ _ h => h) (Or.inl ⟨by rfl, ?hy8b⟩) (fun h => absurd (h.symm.trans (by kernel_rfl : _ = true)) Bool.false_ne_true) ?rest8b
          case hy8b => ((intro w hSw); clear hSw; go_simp; (try with_reducible rfl))
          try go_frame
          refine Until.take0 (i := 9) (v := ?v9b) rfl (by kernel_rfl) (by kernel_rfl) (by kernel_rfl) (by kernel_rfl) (fun _ _ _ h => h) (Or.inl ⟨by rfl, ?hy9b⟩) (fun h => absurd (h.symm.trans (by kernel_rfl : _ = true)) Bool.false_ne_true) ?rest9b
          case hy9b => ((intro w hSw); clear hSw; go_simp; (try with_reducible rfl))
          try go_frame
          refine Until.one (i := 10) (by kernel_rfl) rfl (fun K hK => ?_)
          have HK := Lib.hid hK
          clear hK
          go_simp
          have HZ : Hid (Sev w2.heap.size (.int .i64 0) (.int .u8 0) (.slice none 0 0) (.slice none 0 0) (.slice none 0 0) (.slice none 0 0) (.slice none 0 0) (w2.alloc (.cells #[.int .i64 0, .int .u8 0, .slice none 0 0, .slice none 0 0, .slice none 0 0, .slice none 0 0, .slice none 0 0] 44))) := Lib.hid (Sev.new _ _ _ _ _ _ _ _ _)
          have HOA : Hid (Ok wr (w2.alloc (.cells #[.int .i64 0, .int .u8 0, .slice none 0 0, .slice none 0 0, .slice none 0 0, .slice none 0 0, .slice none 0 0] 44))) := Lib.hid (HOW.out.alloc _)
          generalize (w2.alloc (.cells #[.int .i64 0, .int .u8 0, .slice none 0 0, .slice none 0 0, .slice none 0 0, .slice none 0 0, .slice none 0 0] 44)) = w3 at *
          obtain ⟨z, hz⟩ : ∃ z, w2.heap.size = z := ⟨_, rfl⟩
          have HSZ : Hid (wr.heap.size ≤ z) := Lib.hid (hz ▸ HOW.out.size)
          rw [hz] at HZ ⊢
          clear hz
          refine HK.out.out _ _ (fun h => absurd (h.symm.trans (by kernel_rfl : _ = true)) Bool.false_ne_true) (fun _ => ?_)
          clear HK K
          try go_frame
          have z0 := HZ.out.c0
          have z1 := HZ.out.c1
          have z2 := HZ.out.c2
          have z3 := HZ.out.c3
          have z4 := HZ.out.c4
          have z5 := HZ.out.c5
          have z6 := HZ.out.c6
          have f0 := HZ.out.f 0
          have f1 := HZ.out.f 1
          have f2 := HZ.out.f 2
          have f3 := HZ.out.f 3
          have f4 := HZ.out.f 4
          have f5 := HZ.out.f 5
          have f6 := HZ.out.f 6
          refine Until.one (i := 11) (by kernel_rfl) rfl (fun K hK => ?_)
          have HK := Lib.hid hK
          clear hK
          go_simp
          refine HK.out.out _ _ (fun h => absurd (h.symm.trans (by kernel_rfl : _ = true)) Bool.false_ne_true) (fun _ => ?_)
          clear HK K
          try go_frame
          clear z0 f0 z1 f1 z2 f2 z3 f3 z4 f4 z5 f5 z6 f6
          refine Until.one (i := 12) (by kernel_rfl) rfl (fun K hK => ?_)
          have HK := Lib.hid hK
          clear hK
          go_simp
          refine HK.out.out _ _ (fun h => absurd (h.symm.trans (by kernel_rfl : _ = true)) Bool.false_ne_true) (fun _ => ?_)
          clear HK K
          try go_frame
          refine Until.done (by kernel_rfl) ?_ _
          refine HK0.out _ _ ?_
          clear HK0
          go_meet
          case rel => exact ⟨rfl, by (repeat refine Below.setCell ?_ HSZ.out _); exact HOA.out⟩
        · have HK := Lib.hid hK
          clear hK
          go_simp
          have hS := HSS.out
          have HZ : Hid (Sev w1.heap.size (.int .i64 0) (.int .u8 0) (.slice none 0 0) (.slice none 0 0) (.slice none 0 0) (.slice none 0 0) (.slice none 0 0) (w1.alloc (.cells #[.int .i64 0, .int .u8 0, .slice none 0 0, .slice none 0 0, .slice none 0 0, .slice none 0 0, .slice none 0 0] 44))) := Lib.hid (Sev.new _ _ _ _ _ _ _ _ _)
          have HOA : Hid (Ok wr (w1.alloc (.cells #[.int .i64 0, .int .u8 0, .slice none 0 0, .slice none 0 0, .slice none 0 0, .slice none 0 0, .slice none 0 0] 44))) := Lib.hid (HOW.out.alloc _)
          have HSA : Hid (_ ∧ _) := Lib.hid ⟨((Ok.refl w1).alloc (.cells #[.int .i64 0, .int .u8 0, .slice none 0 0, .slice none 0 0, .slice none 0 0, .slice none 0 0, .slice none 0 0] 44)).cell hS.1, ((Ok.refl w1).alloc (.cells #[.int .i64 0, .int .u8 0, .slice none 0 0, .slice none 0 0, .slice none 0 0, .slice none 0 0, .slice none 0 0] 44)).cell hS.2⟩
          have HNZ : Hid (NoLog v (w1.alloc (.cells #[.int .i64 0, .int .u8 0, .slice none 0 0, .slice none 0 0, .slice none 0 0, .slice none 0 0, .slice none 0 0] 44))) := Lib.hid (HNL.out.ok HOA.out)
          generalize (w1.alloc (.cells #[.int .i64 0, .int .u8 0, .slice none 0 0, .slice none 0 0, .slice none 0 0, .slice none 0 0, .slice none 0 0] 44)) = w2 at *
          obtain ⟨z, hz⟩ : ∃ z, w1.heap.size = z := ⟨_, rfl⟩
          have HSZ : Hid (wr.heap.size ≤ z) := Lib.hid (hz ▸ HOW.out.size)
          rw [hz] at HZ ⊢
          clear hz hS
          refine HK.out.out _ _ (fun _ => HSA.out) (fun _ => ?_)
          clear HK K
          try go_frame
          refine Until.one (i := 6) (by kernel_rfl) rfl (fun K hK => ?_)
          have HK := Lib.hid hK
          clear hK
          go_simp
          refine (nil_14 v x w2 HNZ.out).mono ?_
          rintro _ w3 ⟨r, rfl, hr, o3⟩
          unfold ER.val
          have HOA : Hid (Ok wr w3) := Lib.hid (HOA.out.trans o3)
          have HZ := Lib.hid (HZ.out.ok o3)
          clear hr o3
          refine HK.out.out _ _ (fun h => absurd (h.symm.trans (by kernel_rfl : _ = true)) Bool.false_ne_true) (fun _ => ?_)
          clear HK K
          try go_frame
          refine Until.take0 (i := 7) (v := ?v7a) rfl (by kernel_rfl) (by kernel_rfl) (by kernel_rfl) (by kernel_rfl) (fun _ _ _ h => h) (Or.inl ⟨by rfl, ?hy7a⟩) (fun h => absurd (h.symm.trans (by kernel_rfl : _ = true)) Bool.false_ne_true) ?rest7a
          case hy7a => ((intro w hSw); clear hSw; go_simp; (try with_reducible rfl))
          try go_frame
          refine Until.take0 (i := 8) (v := ?v8a) rfl (by kernel_rfl) (by kernel_rfl) (by kernel_rfl) (by kernel_rfl) (fun _ _ _ h => h) (Or.inl ⟨by rfl, ?hy8a⟩) (fun h => absurd (h.symm.trans (by kernel_rfl : _ = true)) Bool.false_ne_true) ?rest8a
          case hy8a => ((intro w hSw); clear hSw; go_simp; (try with_reducible rfl))
          try go_frame
          refine Until.take0 (i := 9) (v := ?v9a) rfl (by kernel_rfl) (by kernel_rfl) (by kernel_rfl) (by kernel_rfl) (fun _ _ _ h => h) (Or.inl ⟨by rfl, ?hy9a⟩) (fun h => absurd (h.symm.trans (by kernel_rfl : _ = true)) Bool.false_ne_true) ?rest9a
          case hy9a => ((intro w hSw); clear hSw; go_simp; (try with_reducible rfl))
          try go_frame
          have z0 := HZ.out.c0
          have z1 := HZ.out.c1
          have z2 := HZ.out.c2
          have z3 := HZ.out.c3
          have z4 := HZ.out.c4
          have z5 := HZ.out.c5
          have z6 := HZ.out.c6
          have f0 := HZ.out.f 0
          have f1 := HZ.out.f 1
          have f2 := HZ.out.f 2
          have f3 := HZ.out.f 3
          have f4 := HZ.out.f 4
          have f5 := HZ.out.f 5
          have f6 := HZ.out.f 6
          refine Until.one (i := 11) (by kernel_rfl) rfl (fun K hK => ?_)
          have HK := Lib.hid hK
          clear hK
          go_simp
          refine HK.out.out _ _ (fun h => absurd (h.symm.trans (by kernel_rfl : _ = true)) Bool.false_ne_true) (fun _ => ?_)
          clear HK K
          try go_frame
          clear z0 f0 z1 f1 z2 f2 z3 f3 z4 f4 z5 f5 z6 f6
          refine Until.one (i := 12) (by kernel_rfl) rfl (fun K hK => ?_)
          have HK := Lib.hid hK
          clear hK
          go_simp
          refine HK.out.out _ _ (fun h => absurd (h.symm.trans (by kernel_rfl : _ = true)) Bool.false_ne_true) (fun _ => ?_)
          clear HK K
          try go_frame
          refine Until.done (by kernel_rfl) ?_ _
          refine HK0.out _ _ ?_
          clear HK0
          go_meet
          case rel => exact ⟨rfl, by (repeat refine Below.setCell ?_ HSZ.out _); exact HOA.out⟩
      case rest =>
      obtain ⟨rfl, hco⟩ := hcut
      have HU3 : Hid (Ok wr wc) := Lib.hid hco
      have hv3 := hco.cell HVC.out
      clear hv2 cx2
      clear hco
      go_wp2_with fail
      refine (nil_15 v wc (HNL.out.ok HU3.out)).mono ?_
      rintro _ u4 ⟨rfl, o4⟩
      have HU4 : Hid (Ok wr u4) := Lib.hid (HU3.out.trans o4)
      have HF : Hid (Fo u4.heap.size (.slice none 0 0) (.slice none 0 0) (.slice none 0 0) (.slice none 0 0) (u4.alloc (.cells #[.slice none 0 0, .slice none 0 0, .slice none 0 0, .slice none 0 0] 25))) := Lib.hid (Fo.new _ _ _ _ _ _)
      have HU5 : Hid (Ok wr (u4.alloc (.cells #[.slice none 0 0, .slice none 0 0, .slice none 0 0, .slice none 0 0] 25))) := Lib.hid (HU4.out.alloc _)
      clear o4 hv3
      go_upto_region 14 with fail
      generalize (u4.alloc (.cells #[.slice none 0 0, .slice none 0 0, .slice none 0 0, .slice none 0 0] 25)) = u5 at *
      obtain ⟨g12, hg12⟩ : ∃ g12, u4.heap.size = g12 := ⟨_, rfl⟩
      rw [hg12] at HF ⊢
      clear hg12
      have HA5 := Lib.hid (HA9.out.ok HU5.out)
      have r0 := cell_regrown (HU5.out.cell HVC.out)
      have r1 := cell_regrown HA5.out.c2
      have r3 := cell_regrown HA5.out.c3
      have r4 := cell_regrown HA5.out.c4
      have r5 := cell_regrown HA5.out.c5
      have r6 := cell_regrown HA5.out.c6
      have r7 := cell_regrown HA5.out.c7
      have r8 := cell_regrown HA5.out.c8
      have s0 := cell_regrown HF.out.c0
      have s1 := cell_regrown HF.out.c1
      have s2 := cell_regrown HF.out.c2
      have s3 := cell_regrown HF.out.c3
      have HNG : Hid (∀ d os, NoLog v (Go.Sort.grow (redrawn u5 d) os)) := Lib.hid fun d os => HNL.out.ok (HU5.out.trans (below_regrown u5 d os))
      have HCZ : Hid (∀ w, CfgAt w ⟨none, 0, 0, none, 0, 0, none, 0, 0, none, 0, 0⟩ ⟨[], [], [], []⟩) := Lib.hid fun w => ⟨InI.nil w, InI.nil w, InI.nil w, InI.nil w⟩
      have q16 : ∀ d os, Calls Try.prog 16 #[v, .slice A n c] (Go.Sort.grow (redrawn u5 d) os) fun e w'' => e = .returned (.int .i64 0) ∧ ∃ q : Regrown, w'' = Go.Sort.grow (redrawn u5 q.d) q.os := fun d os => Rg (nil_16 v _ _ (HNG.out d os))
      have q17 : ∀ d os, Calls Try.prog 17 #[.agg #[.slice none 0 0, .slice none 0 0, .slice none 0 0, .slice none 0 0], .agg #[.slice none 0 0, .slice none 0 0, .slice none 0 0, .slice none 0 0]] (Go.Sort.grow (redrawn u5 d) os) fun e w'' => e = .returned (.bool true) ∧ ∃ q : Regrown, w'' = Go.Sort.grow (redrawn u5 q.d) q.os := fun d os => Rg (sameConfig_f ⟨none, 0, 0, none, 0, 0, none, 0, 0, none, 0, 0⟩ ⟨none, 0, 0, none, 0, 0, none, 0, 0, none, 0, 0⟩ ⟨[], [], [], []⟩ _ (HCZ.out _) (HCZ.out _))
      have q18 : ∀ d os, Calls Try.prog 18 #[v] (Go.Sort.grow (redrawn u5 d) os) fun e w'' => e = .returned (.int .i64 0) ∧ ∃ q : Regrown, w'' = Go.Sort.grow (redrawn u5 q.d) q.os := fun d os => Rg (nil_18 v _ (HNG.out d os))
      have q19 : ∀ d os, Calls Try.prog 19 #[v, .int .i64 0] (Go.Sort.grow (redrawn u5 d) os) fun e w'' => e = .returned (.bool false) ∧ ∃ q : Regrown, w'' = Go.Sort.grow (redrawn u5 q.d) q.os := fun d os => Rg (nil_19 v 0 _ (HNG.out d os))
      have q20 : ∀ d os, Calls Try.prog 20 #[v, .agg #[.int .i64 i, .int .i64 t, .slice s.A0 s.n0 s.c0, .slice s.A1 s.n1 s.c1, .slice s.A2 s.n2 s.c2, .slice s.A3 s.n3 s.c3]] (Go.Sort.grow (redrawn u5 d) os) fun e w'' => e = .returned (.bool false) ∧ ∃ q : Regrown, w'' = Go.Sort.grow (redrawn u5 q.d) q.os := fun d os => Rg (nil_20 v i t s _ (HNG.out d os))
      have q21 : ∀ d os, Calls Try.prog 21 #[v, .int .i64 1, .int .i64 5] (Go.Sort.grow (redrawn u5 d) os) fun e w'' => e = .returned (.slice none 0 0) ∧ ∃ q : Regrown, w'' = Go.Sort.grow (redrawn u5 q.d) q.os := fun d os => Rg (nil_21 v 1 5 _ (HNG.out d os))
      have q23 : ∀ d os, Calls Try.prog 23 #[v] (Go.Sort.grow (redrawn u5 d) os) fun e w'' => e = .returned (.agg #[.int .i64 0, .int .i64 0, .slice none 0 0, .slice none 0 0, .slice none 0 0, .slice none 0 0]) ∧ ∃ q : Regrown, w'' = Go.Sort.grow (redrawn u5 q.d) q.os := fun d os => Rg (nil_23 v _ (HNG.out d os))
      have q22 : ∀ d os, Calls Try.prog 22 #[.agg #[.int .i64 0, .int .i64 0, .slice none 0 0, .slice none 0 0, .slice none 0 0, .slice none 0 0], .agg #[.int .i64 0, .int .i64 0, .slice none 0 0, .slice none 0 0, .slice none 0 0, .slice none 0 0]] (Go.Sort.grow (redrawn u5 d) os) fun e w'' => e = .returned (.bool true) ∧ ∃ q : Regrown, w'' = Go.Sort.grow (redrawn u5 q.d) q.os := fun d os => Rg (sameBase_f 0 0 ⟨none, 0, 0, none, 0, 0, none, 0, 0, none, 0, 0⟩ ⟨none, 0, 0, none, 0, 0, none, 0, 0, none, 0, 0⟩ ⟨[], [], [], []⟩ _ (HCZ.out _) (HCZ.out _))
      refine wp_region_quiet_below (by kernel_rfl) (by kernel_rfl) ?_
      refine HeldU.out ?_
      repeat (
        refine hqU_step (fun K hK => ?_)
        go_simp
        first
          | (refine hK _ ?_; clear hK K)
          | (apply Exists.intro
             refine ⟨fun _ => ?_, hK _ ?_⟩
             (with_reducible first
               | exact q16 _ _
               | exact q17 _ _
               | exact q18 _ _
               | exact q19 _ _
               | exact q20 _ _
               | exact q21 _ _
               | exact q23 _ _
               | exact q22 _ _)
             clear hK K))
      refine HeldU.mk (wpQuiet_nil ?_)
      intro _ hw'
      obtain ⟨⟨dq, osq⟩, hw''⟩ := hw'
      subst hw''
      have HU6 : Hid (Ok w3 (Go.Sort.grow (redrawn u5 dq) osq)) := Lib.hid (HOK.out.trans (HU5.out.trans (below_regrown u5 dq osq)))
      clear q16 q17 q18 q19 q20 q21 q22 q23 r0 r1 r3 r4 r5 r6 r7 r8 s0 s1 s2 s3
      generalize Go.Sort.grow (redrawn u5 dq) osq = u6 at *
      have HLT : Hid (2 - ((k : Int) + 1).toNat < 2 - (k : Int).toNat) := Lib.hid (by omega)
      go_wp2_with fail
      first | exact ⟨⟨k + 1, hlt, rfl, HU6.out⟩, HLT.out⟩ | (refine ⟨?_, HLT.out⟩; (repeat apply Exists.intro); exact ⟨⟨k + 1, hlt, rfl, HU6.out⟩, rfl⟩)
    · have d1 : decide ((k : Int) < 2) = false := decide_eq_false (by omega)
      go_wp2_with fail
      go_ret
      exact ⟨rfl, HWB.out.trans HOK.out⟩
end Go.Proofs.Ytebhcadolnjplaa
