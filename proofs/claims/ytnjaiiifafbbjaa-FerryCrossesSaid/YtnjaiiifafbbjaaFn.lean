/- The law FerryCrosses, walked. -/
import Derived.Test.YtnjaiiifafbbjaaFm
import Derived.Test.YtnjaiiifafbbjaaPj
namespace Go.Proofs.Ytnjaiiifafbbjaa
open Go.RowKit

theorem quo_ok (L k : Nat) (h : L ≤ 4000) (hk : 600 * k ≤ L) : decide ((k : Int) ≤ IntKind.i64.wrap (IntKind.i64.wrap ((L : Int) / 600) + 1)) = true := by
  have e1 : IntKind.i64.wrap ((L : Int) / 600) = (L : Int) / 600 := by simp only [IntKind.wrap_i64]; omega
  rw [e1]
  have e2 : IntKind.i64.wrap ((L : Int) / 600 + 1) = (L : Int) / 600 + 1 := by simp only [IntKind.wrap_i64]; omega
  rw [e2]
  exact decide_eq_true (by omega)
theorem min_ok (L was now : Nat) (h : L ≤ 4000) (hw : was ≤ L) (hn : now = min (was + 600) L) : decide ((now : Int) = min (IntKind.i64.wrap ((was : Int) + 600)) (L : Int)) = true := by
  have e1 : IntKind.i64.wrap ((was : Int) + 600) = (was : Int) + 600 := by simp only [IntKind.wrap_i64]; omega
  rw [e1]
  exact decide_eq_true (by omega)
set_option maxRecDepth 100000 in
set_option maxHeartbeats 16000000 in
theorem ferry_w (AWAKE : ∀ w, Calls Try.prog 35 #[] w fun e w' => e = .returned (.bool true) ∧ Ok w w') (Ab As : Option Addr) (L cb n2 cs : Nat) (bs : List B8) (i t : Int) (s : S4) (cf : Cfg) (steps : List Int) (W : World)
    (hb : BytesIn W (.slice Ab L cb) bs) (hcf : CfgAt W s cf) (hst : InI W (.slice As n2 cs) steps) :
    Calls Try.prog 6 #[.slice Ab L cb, .agg #[.int .i64 i, .int .i64 t, .slice s.A0 s.n0 s.c0, .slice s.A1 s.n1 s.c1, .slice s.A2 s.n2 s.c2, .slice s.A3 s.n3 s.c3], .slice As n2 cs] W fun e w' => e = .returned (.bool true) ∧ Ok W w' := by
  have HL : Hid (L = bs.length) := Lib.hid (slice_ok hb).1
  have HN2 : Hid (n2 = steps.length) := Lib.hid (by obtain ⟨_, _, e, _⟩ := hst.form; simp only [Value.slice.injEq] at e; exact e.2.1)
  have hL6 : L ≤ 140737488351232 := by obtain ⟨_, _, e, l⟩ := hb.form; simp only [Value.slice.injEq] at e; omega
  have hN6 : n2 ≤ 17592186044416 := by obtain ⟨_, _, e, l⟩ := hst.form; simp only [Value.slice.injEq] at e; omega
  have HB := Lib.hid hb
  have HC := Lib.hid hcf
  have HS := Lib.hid hst
  have HAW := Lib.hid AWAKE
  clear hb hcf hst AWAKE
  have HO1 : Hid (Ok W (W.alloc (.cells #[.int .i64 i, .int .i64 t, .slice s.A0 s.n0 s.c0, .slice s.A1 s.n1 s.c1, .slice s.A2 s.n2 s.c2, .slice s.A3 s.n3 s.c3] 46))) := Lib.hid ((Ok.refl W).alloc _)
  have H6 : Hid (Six W.heap.size (.int .i64 i) (.int .i64 t) (.slice s.A0 s.n0 s.c0) (.slice s.A1 s.n1 s.c1) (.slice s.A2 s.n2 s.c2) (.slice s.A3 s.n3 s.c3) (W.alloc (.cells #[.int .i64 i, .int .i64 t, .slice s.A0 s.n0 s.c0, .slice s.A1 s.n1 s.c1, .slice s.A2 s.n2 s.c2, .slice s.A3 s.n3 s.c3] 46))) := Lib.hid (Six.new _ _ _ _ _ _ _ _)
  obtain ⟨Q, hQ⟩ : ∃ Q : Nat, 1 + cf.vs.length + cf.os.length + cf.ls.length + cf.ws.length = Q := ⟨_, rfl⟩
  have HQ := Lib.hid hQ
  clear hQ
  obtain ⟨d75, hd75, hrow75⟩ : ∃ d, Try.prog.underlying 75 = some d ∧ d.isRow = true := ⟨_, Try.underlying75, rfl⟩
  have HD75 := Lib.hid (And.intro hd75 hrow75)
  obtain ⟨d80, hd80, hrow80⟩ : ∃ d, Try.prog.underlying 80 = some d ∧ d.isRow = true := ⟨_, Try.underlying80, rfl⟩
  have HD := Lib.hid (And.intro hd80 hrow80)
  clear hd75 hrow75 hd80 hrow80
  go_enter Try.func6, Try.ntmps6
  go_wp2_with fail
  generalize W.alloc (.cells #[.int .i64 i, .int .i64 t, .slice s.A0 s.n0 s.c0, .slice s.A1 s.n1 s.c1, .slice s.A2 s.n2 s.c2, .slice s.A3 s.n3 s.c3] 46) = w0 at *
  obtain ⟨g0, hg0⟩ : ∃ g0, W.heap.size = g0 := ⟨_, rfl⟩
  have HG0 := Lib.hid hg0
  rw [hg0] at H6 ⊢
  clear hg0
  (with_reducible refine (HAW.out w0).mono ?_)
  rintro _ w1 ⟨rfl, o1⟩
  have HO2 : Hid (Ok W w1) := Lib.hid (HO1.out.trans o1)
  have H7 := Lib.hid (H6.out.ok o1)
  clear o1 HO1 H6 HAW
  have hc0 := H7.out.c0
  have hc1 := H7.out.c1
  have hc2 := H7.out.c2
  have hc3 := H7.out.c3
  have hc4 := H7.out.c4
  have hc5 := H7.out.c5
  by_cases hb1 : L ≤ 4000
  · by_cases hb2 : n2 ≤ 40
    · have d1 : decide (4000 < L) = false := decide_eq_false (by omega)
      have d2 : decide (40 < n2) = false := decide_eq_false (by omega)
      go_wp2_with fail
      (with_reducible refine (configOf_f s cf w1 (HC.out.ok HO2.out)).mono ?_)
      rintro _ w2 ⟨rfl, o2⟩
      rw [HQ.out]
      have HO3 : Hid (Ok W w2) := Lib.hid (HO2.out.trans o2)
      have H8 := Lib.hid (H7.out.ok o2)
      clear o2 hc0 hc1 hc2 hc3 hc4 hc5 H7 HO2
      by_cases hb3 : Q ≤ 40
      · have d3 : decide (40 < Q) = false := decide_eq_false (by omega)
        have hc0 := H8.out.c0
        have hc1 := H8.out.c1
        have hc2 := H8.out.c2
        have hc3 := H8.out.c3
        have hc4 := H8.out.c4
        have hc5 := H8.out.c5
        go_wp2_with fail
        have HR1 : Hid ((w2.alloc (.cells #[.int .i64 i, .int .i64 t, .slice s.A0 s.n0 s.c0, .slice s.A1 s.n1 s.c1, .slice s.A2 s.n2 s.c2, .slice s.A3 s.n3 s.c3, .slice Ab L cb] 75)).rangeAt w2.heap.size 0 [.int .i64 i, .int .i64 t, .slice s.A0 s.n0 s.c0, .slice s.A1 s.n1 s.c1, .slice s.A2 s.n2 s.c2, .slice s.A3 s.n3 s.c3, .slice Ab L cb]) := Lib.hid (range_new w2 [.int .i64 i, .int .i64 t, .slice s.A0 s.n0 s.c0, .slice s.A1 s.n1 s.c1, .slice s.A2 s.n2 s.c2, .slice s.A3 s.n3 s.c3, .slice Ab L cb] 75)
        have HO4 : Hid (Ok W (w2.alloc (.cells #[.int .i64 i, .int .i64 t, .slice s.A0 s.n0 s.c0, .slice s.A1 s.n1 s.c1, .slice s.A2 s.n2 s.c2, .slice s.A3 s.n3 s.c3, .slice Ab L cb] 75))) := Lib.hid (HO3.out.trans ((Ok.refl w2).alloc _))
        have HGL : Hid (w2.heap.size < (w2.alloc (.cells #[.int .i64 i, .int .i64 t, .slice s.A0 s.n0 s.c0, .slice s.A1 s.n1 s.c1, .slice s.A2 s.n2 s.c2, .slice s.A3 s.n3 s.c3, .slice Ab L cb] 75)).heap.size) := Lib.hid (by rw [World.size_alloc]; omega)
        generalize w2.alloc (.cells #[.int .i64 i, .int .i64 t, .slice s.A0 s.n0 s.c0, .slice s.A1 s.n1 s.c1, .slice s.A2 s.n2 s.c2, .slice s.A3 s.n3 s.c3, .slice Ab L cb] 75) = W1 at *
        obtain ⟨g, hg⟩ : ∃ g, w2.heap.size = g := ⟨_, rfl⟩
        rw [hg] at HR1 HGL ⊢
        clear hg d1 d2 d3 hc0 hc1 hc2 hc3 hc4 hc5 H8
        have HMM : Hid (∀ w', Ok W1 w' → CfgAt w' s cf ∧ BytesIn w' (.slice Ab L cb) bs) := Lib.hid (fun w' k => ⟨HC.out.ok (HO4.out.trans k), (HO4.out.trans k).bytes HB.out⟩)
        have HSS : Hid (∀ w', Ok W1 w' → InI w' (.slice As n2 cs) steps) := Lib.hid (fun w' k => (HO4.out.trans k).ints HS.out)
        have HRR : Hid (∀ w', Ok W1 w' → w'.rangeAt g 0 [.int .i64 i, .int .i64 t, .slice s.A0 s.n0 s.c0, .slice s.A1 s.n1 s.c1, .slice s.A2 s.n2 s.c2, .slice s.A3 s.n3 s.c3, .slice Ab L cb]) := Lib.hid (fun w' k j u hu => k.cell (HR1.out j u hu))
        have l0 : cf.vs.length ≤ 1000 := by have := HQ.out; omega
        have l1 : cf.os.length ≤ 1000 := by have := HQ.out; omega
        have l2 : cf.ls.length ≤ 1000 := by have := HQ.out; omega
        have l3 : cf.ws.length ≤ 1000 := by have := HQ.out; omega
        (with_reducible refine (fnew_f W1).mono ?_)
        rintro _ w4 ⟨rfl, hf, ok4, hsz4⟩
        obtain ⟨p, hp⟩ : ∃ p, W1.heap.size = p := ⟨_, rfl⟩
        rw [hp] at hf HGL ⊢
        have HP := Lib.hid hp
        have HST : Hid (Ok W1 w4 ∧ FS p i t L bs 0 w4) := Lib.hid ⟨ok4, .inl ⟨rfl, hf⟩⟩
        clear hf ok4 hsz4 hp HC HB HS HR1 HQ HO3
        go_wp2_with fail
        go_loopw [9, 10] (fun b i' wr => ∃ was k : Nat, was ≤ L ∧ k ≤ n2 ∧ b = .int .i64 was ∧ i' = .int .i64 k ∧ Ok W1 wr ∧ FS p i t L bs was wr) (fun _ i' _ => n2 - (intOf i').toNat)
        case atStart => exact ⟨0, 0, Nat.zero_le _, Nat.zero_le _, rfl, rfl, HST.out.1, HST.out.2⟩
        case round =>
          obtain ⟨was, k, hwL, hk, rfl, rfl, hok, hfs⟩ := hrel
          have HOK := Lib.hid hok
          have HFS := Lib.hid hfs
          clear hok hfs HST
          by_cases hlt : k < n2
          · have d1 : decide (k < n2) = true := decide_eq_true hlt
            obtain ⟨bS, oS, rfl, hcS⟩ := ((HSS.out _ HOK.out).at rfl k hlt).2
            have HCS := Lib.hid hcS
            obtain ⟨y, hy⟩ : ∃ y, steps.getD k 0 = y := ⟨_, rfl⟩
            rw [hy] at hcS HCS
            clear hy
            have hi0 : (0 : Int) ≤ (k : Int) := Int.natCast_nonneg _
            have hi1 : (k : Int) < (n2 : Int) := by omega
            go_wp2_with fail
            (with_reducible refine (pick_z y _ (was + 1) wr (by omega) (by omega) (by omega)).mono ?_)
            rintro _ w5 ⟨⟨a, ha, rfl⟩, rfl⟩
            obtain ⟨ps, hps⟩ : ∃ ps, (bs.drop a).take 600 = ps := ⟨_, rfl⟩
            have HPS := Lib.hid hps
            have HAL : Hid (a ≤ bs.length ∧ bs.length ≤ 100000) := Lib.hid (by have := HL.out; omega)
            have HRw : Hid (wr.rangeAt g 0 [.int .i64 i, .int .i64 t, .slice s.A0 s.n0 s.c0, .slice s.A1 s.n1 s.c1, .slice s.A2 s.n2 s.c2, .slice s.A3 s.n3 s.c3, .slice Ab L cb]) := Lib.hid (HRR.out _ HOK.out)
            have HMw : Hid (∀ w', Ok wr w' → CfgAt w' s cf ∧ BytesIn w' (.slice Ab L cb) bs) := Lib.hid (fun w' k => HMM.out w' (HOK.out.trans k))
            have HBOX : Hid (g < wr.heap.size) := Lib.hid (by have := HGL.out; have := HP.out; have := HOK.out.size; omega)
            clear hps
            go_upto_region 12 with fail
            go_cut [12, 13] from 57 to 64 (fun x ok wx => PcR wr i t cf a L ps x ok wx)
            case first =>
              rename_i J0 K1 hJ0 hK1
              have HJ0 := Lib.hid hJ0
              clear hJ0
              refine wp_region_held_drew (S := fun v => v.rangeAt g 0 [.int .i64 i, .int .i64 t, .slice s.A0 s.n0 s.c0, .slice s.A1 s.n1 s.c1, .slice s.A2 s.n2 s.c2, .slice s.A3 s.n3 s.c3, .slice Ab L cb]) (by kernel_rfl) (fun j u hu => ((Ok.refl wr).drew).cell (HRw.out j u hu)) ?_
              intro hS
              have HOs : Hid (Ok wr wr.drew) := Lib.hid ((Ok.refl wr).drew)
              have HSs := Lib.hid hS
              clear hS
              generalize wr.drew = ws at *
              refine wpAnyH_take (i := 0) (v := _) rfl (by kernel_rfl) (by kernel_rfl) (by kernel_rfl) (fun _ _ _ h => h) (yieldsIf_load_mid ?hwp0u1 75 (.tmp 7) rfl g 0 rfl [.int .i64 i, .int .i64 t, .slice s.A0 s.n0 s.c0, .slice s.A1 s.n1 s.c1, .slice s.A2 s.n2 s.c2, .slice s.A3 s.n3 s.c3, .slice Ab L cb] d75 (fun v h => h) HD75.out.1 HD75.out.2 info75) HSs.out ?restp0u1
              case hwp0u1 => rfl
              try go_frame
              refine wpAnyH_take (i := 3) (v := _) rfl (by kernel_rfl) (by kernel_rfl) (by kernel_rfl) (fun _ _ _ h => h) (yieldsIf_load_mid ?hwp3u2 75 (.tmp 7) rfl g 0 rfl [.int .i64 i, .int .i64 t, .slice s.A0 s.n0 s.c0, .slice s.A1 s.n1 s.c1, .slice s.A2 s.n2 s.c2, .slice s.A3 s.n3 s.c3, .slice Ab L cb] d75 (fun v h => h) HD75.out.1 HD75.out.2 info75) HSs.out ?restp3u2
              case hwp3u2 => rfl
              try go_frame
              refine wpAnyH_take (i := 1) (v := ?vp1u3) rfl (by kernel_rfl) (by kernel_rfl) (by kernel_rfl) (fun _ _ _ h => h) (Or.inl ⟨by rfl, ?hyp1u3⟩) (by exact HSs.out) ?restp1u3
              case hyp1u3 => ((intro w hSw); clear hSw; go_simp; (try with_reducible rfl))
              try go_frame
              refine wpAnyH_ready (rs := [2, 8]) (by kernel_rfl) (by simp) (AllReadyH.cons rfl (fun K hK => ?_) (AllReadyH.cons rfl (fun K hK => ?_) AllReadyH.nil))
              · have HK := Lib.hid hK
                clear hK
                go_simp
                (with_reducible refine (asks_f i t (a : Int) s L cb Ab ws).mono ?_)
                rintro _ wq4 ⟨rfl, ok⟩
                have HO4 : Hid (Ok wr wq4) := Lib.hid (HOs.out.trans ok)
                have HV4 : Hid (wq4.rangeAt g 0 [.int .i64 i, .int .i64 t, .slice s.A0 s.n0 s.c0, .slice s.A1 s.n1 s.c1, .slice s.A2 s.n2 s.c2, .slice s.A3 s.n3 s.c3, .slice Ab L cb]) := Lib.hid (fun j u hu => ok.cell (HSs.out j u hu))
                clear ok
                refine HK.out.out _ _ HV4.out (fun hJ => ?_)
                clear hJ HK K
                try go_frame
                refine wpAnyH_ready (rs := [4, 8]) (by kernel_rfl) (by simp) (AllReadyH.cons rfl (fun K hK => ?_) (AllReadyH.cons rfl (fun K hK => ?_) AllReadyH.nil))
                · have HK := Lib.hid hK
                  clear hK
                  go_simp
                  (with_reducible refine (fill_z i t (a : Int) s cf Ab L cb a bs wq4 rfl (HMw.out _ HO4.out).1 (HMw.out _ HO4.out).2 (by have := HAL.out; omega) (by have := HAL.out; omega) l0 l1 l2 l3).mono ?_)
                  rintro _ wq5 ⟨s', B', d', rfl, hcf, hby, ok⟩
                  rw [HPS.out] at hby ⊢
                  rw [← HL.out]
                  have HO5 : Hid (Ok wr wq5) := Lib.hid (HO4.out.trans ok)
                  have HV5 : Hid (wq5.rangeAt g 0 [.int .i64 i, .int .i64 t, .slice s.A0 s.n0 s.c0, .slice s.A1 s.n1 s.c1, .slice s.A2 s.n2 s.c2, .slice s.A3 s.n3 s.c3, .slice Ab L cb]) := Lib.hid (fun j u hu => ok.cell (HV4.out j u hu))
                  have HCF := Lib.hid hcf
                  have HBY := Lib.hid hby
                  have HSZF : Hid (wr.heap.size ≤ wq4.heap.size) := Lib.hid HO4.out.size
                  clear ok hcf hby
                  refine HK.out.out _ _ HV5.out (fun hJ => ?_)
                  clear hJ HK K
                  try go_frame
                  refine wpAnyH_take (i := 5) (v := ?vp5u6) rfl (by kernel_rfl) (by kernel_rfl) (by kernel_rfl) (fun _ _ _ h => h) (Or.inl ⟨by rfl, ?hyp5u6⟩) (by exact HV5.out) ?restp5u6
                  case hyp5u6 => ((intro w hSw); clear hSw; go_simp; (try with_reducible rfl))
                  try go_frame
                  refine wpAnyH_take (i := 6) (v := ?vp6u7) rfl (by kernel_rfl) (by kernel_rfl) (by kernel_rfl) (fun _ _ _ h => h) (Or.inl ⟨by rfl, ?hyp6u7⟩) (by exact HV5.out) ?restp6u7
                  case hyp6u7 => ((intro w hSw); clear hSw; go_simp; (try with_reducible rfl))
                  try go_frame
                  refine wpAnyH_take (i := 7) (v := ?vp7u8) rfl (by kernel_rfl) (by kernel_rfl) (by kernel_rfl) (fun _ _ _ h => h) (Or.inl ⟨by rfl, ?hyp7u8⟩) (by exact HV5.out) ?restp7u8
                  case hyp7u8 => ((intro w hSw); clear hSw; go_simp; (try with_reducible rfl))
                  try go_frame
                  refine wpAnyH_ready (rs := [8]) (by kernel_rfl) (by simp) (AllReadyH.cons rfl (fun K hK => ?_) AllReadyH.nil)
                  have HK := Lib.hid hK
                  clear hK
                  go_simp
                  have HTA : Hid ((wq5.alloc (.cells #[.int .u8 0, .int .i64 0, .int .i64 0, .int .i64 0, .int .i64 0, .int .i64 0, .int .i64 0, .int .i64 0, .bool false, .slice none 0 0, .int .i64 0, .int .i64 0, .slice none 0 0, .slice none 0 0, .slice none 0 0, .slice none 0 0, .int .i64 0, .int .i64 0, .int .i64 0, .slice none 0 0] 80)).there wq5.heap.size 0 20) := Lib.hid (there_new wq5 #[.int .u8 0, .int .i64 0, .int .i64 0, .int .i64 0, .int .i64 0, .int .i64 0, .int .i64 0, .int .i64 0, .bool false, .slice none 0 0, .int .i64 0, .int .i64 0, .slice none 0 0, .slice none 0 0, .slice none 0 0, .slice none 0 0, .int .i64 0, .int .i64 0, .int .i64 0, .slice none 0 0] 80)
                  have HFA : Hid (∀ k, (wq5.alloc (.cells #[.int .u8 0, .int .i64 0, .int .i64 0, .int .i64 0, .int .i64 0, .int .i64 0, .int .i64 0, .int .i64 0, .bool false, .slice none 0 0, .int .i64 0, .int .i64 0, .slice none 0 0, .slice none 0 0, .slice none 0 0, .slice none 0 0, .int .i64 0, .int .i64 0, .int .i64 0, .slice none 0 0] 80)).frozen? ⟨wq5.heap.size, k, none⟩ = false) := Lib.hid (fun k => by rw [World.frozen?, heap_alloc_new]; simp)
                  have HBA : Hid (wq5.heap.size < (wq5.alloc (.cells #[.int .u8 0, .int .i64 0, .int .i64 0, .int .i64 0, .int .i64 0, .int .i64 0, .int .i64 0, .int .i64 0, .bool false, .slice none 0 0, .int .i64 0, .int .i64 0, .slice none 0 0, .slice none 0 0, .slice none 0 0, .slice none 0 0, .int .i64 0, .int .i64 0, .int .i64 0, .slice none 0 0] 80)).heap.size) := Lib.hid (by rw [World.size_alloc]; omega)
                  have HOA : Hid (Ok wq5 (wq5.alloc (.cells #[.int .u8 0, .int .i64 0, .int .i64 0, .int .i64 0, .int .i64 0, .int .i64 0, .int .i64 0, .int .i64 0, .bool false, .slice none 0 0, .int .i64 0, .int .i64 0, .slice none 0 0, .slice none 0 0, .slice none 0 0, .slice none 0 0, .int .i64 0, .int .i64 0, .int .i64 0, .slice none 0 0] 80))) := Lib.hid ((Ok.refl _).alloc _)
                  generalize wq5.alloc (.cells #[.int .u8 0, .int .i64 0, .int .i64 0, .int .i64 0, .int .i64 0, .int .i64 0, .int .i64 0, .int .i64 0, .bool false, .slice none 0 0, .int .i64 0, .int .i64 0, .slice none 0 0, .slice none 0 0, .slice none 0 0, .slice none 0 0, .int .i64 0, .int .i64 0, .int .i64 0, .slice none 0 0] 80) = wq9 at *
                  obtain ⟨bx, hbx⟩ : ∃ bx, wq5.heap.size = bx := ⟨_, rfl⟩
                  rw [hbx] at HTA HFA HBA ⊢
                  have HBX : Hid (wq5.heap.size = bx) := Lib.hid hbx
                  have HGB : Hid (wr.heap.size ≤ bx) := Lib.hid (by rw [← hbx]; exact HO5.out.size)
                  clear hbx
                  have HO9 : Hid (Ok wr wq9) := Lib.hid (HO5.out.trans HOA.out)
                  have HV9 : Hid (wq9.rangeAt g 0 [.int .i64 i, .int .i64 t, .slice s.A0 s.n0 s.c0, .slice s.A1 s.n1 s.c1, .slice s.A2 s.n2 s.c2, .slice s.A3 s.n3 s.c3, .slice Ab L cb]) := Lib.hid (fun j u hu => HOA.out.cell (HV5.out j u hu))
                  refine HK.out.out _ _ HV9.out (fun hJ => ?_)
                  clear hJ HK K
                  try go_frame
                  refine wpAnyH_ready (rs := [9]) (by kernel_rfl) (by simp) (AllReadyH.cons rfl (fun K hK => ?_) AllReadyH.nil)
                  have HK := Lib.hid hK
                  clear hK
                  rw [if_pos (by rfl)]
                  refine wp_store_mid 80 (.tmp 12) (.tmp 63) rfl bx 0 #[.int .u8 5, .int .i64 0, .int .i64 1, .int .i64 2, .int .i64 4, .int .i64 0, .int .i64 0, .int .i64 0, .bool false, .slice none 0 0, .int .i64 i, .int .i64 t, .slice s'.A0 s'.n0 s'.c0, .slice s'.A1 s'.n1 s'.c1, .slice s'.A2 s'.n2 s'.c2, .slice s'.A3 s'.n3 s'.c3, .int .i64 (L : Int), .int .i64 (a : Int), .int .i64 0, .slice B' ps.length d'] rfl rfl HTA.out info80 (by simp [Value.oneCell']) ?_
                  have HRX : Hid ((wq9.setCells bx 0 [.int .u8 5, .int .i64 0, .int .i64 1, .int .i64 2, .int .i64 4, .int .i64 0, .int .i64 0, .int .i64 0, .bool false, .slice none 0 0, .int .i64 i, .int .i64 t, .slice s'.A0 s'.n0 s'.c0, .slice s'.A1 s'.n1 s'.c1, .slice s'.A2 s'.n2 s'.c2, .slice s'.A3 s'.n3 s'.c3, .int .i64 (L : Int), .int .i64 (a : Int), .int .i64 0, .slice B' ps.length d']).rangeAt bx 0 [.int .u8 5, .int .i64 0, .int .i64 1, .int .i64 2, .int .i64 4, .int .i64 0, .int .i64 0, .int .i64 0, .bool false, .slice none 0 0, .int .i64 i, .int .i64 t, .slice s'.A0 s'.n0 s'.c0, .slice s'.A1 s'.n1 s'.c1, .slice s'.A2 s'.n2 s'.c2, .slice s'.A3 s'.n3 s'.c3, .int .i64 (L : Int), .int .i64 (a : Int), .int .i64 0, .slice B' ps.length d']) := Lib.hid (World.rangeAt_setCells_same wq9 bx 0 [.int .u8 5, .int .i64 0, .int .i64 1, .int .i64 2, .int .i64 4, .int .i64 0, .int .i64 0, .int .i64 0, .bool false, .slice none 0 0, .int .i64 i, .int .i64 t, .slice s'.A0 s'.n0 s'.c0, .slice s'.A1 s'.n1 s'.c1, .slice s'.A2 s'.n2 s'.c2, .slice s'.A3 s'.n3 s'.c3, .int .i64 (L : Int), .int .i64 (a : Int), .int .i64 0, .slice B' ps.length d'] HTA.out)
                  have HRM : Hid ((wq9.setCells bx 0 [.int .u8 5, .int .i64 0, .int .i64 1, .int .i64 2, .int .i64 4, .int .i64 0, .int .i64 0, .int .i64 0, .bool false, .slice none 0 0, .int .i64 i, .int .i64 t, .slice s'.A0 s'.n0 s'.c0, .slice s'.A1 s'.n1 s'.c1, .slice s'.A2 s'.n2 s'.c2, .slice s'.A3 s'.n3 s'.c3, .int .i64 (L : Int), .int .i64 (a : Int), .int .i64 0, .slice B' ps.length d']).rangeAt g 0 [.int .i64 i, .int .i64 t, .slice s.A0 s.n0 s.c0, .slice s.A1 s.n1 s.c1, .slice s.A2 s.n2 s.c2, .slice s.A3 s.n3 s.c3, .slice Ab L cb]) := Lib.hid (World.rangeAt_setCells_apart HV9.out bx 0 _ (.inl (by have := HGB.out; have := HBOX.out; omega)))
                  have HOX : Hid (Ok wr (wq9.setCells bx 0 [.int .u8 5, .int .i64 0, .int .i64 1, .int .i64 2, .int .i64 4, .int .i64 0, .int .i64 0, .int .i64 0, .bool false, .slice none 0 0, .int .i64 i, .int .i64 t, .slice s'.A0 s'.n0 s'.c0, .slice s'.A1 s'.n1 s'.c1, .slice s'.A2 s'.n2 s'.c2, .slice s'.A3 s'.n3 s'.c3, .int .i64 (L : Int), .int .i64 (a : Int), .int .i64 0, .slice B' ps.length d'])) := Lib.hid (Ok.sets HGB.out _ _ _ HO9.out)
                  have HFX : Hid (∀ k, (wq9.setCells bx 0 [.int .u8 5, .int .i64 0, .int .i64 1, .int .i64 2, .int .i64 4, .int .i64 0, .int .i64 0, .int .i64 0, .bool false, .slice none 0 0, .int .i64 i, .int .i64 t, .slice s'.A0 s'.n0 s'.c0, .slice s'.A1 s'.n1 s'.c1, .slice s'.A2 s'.n2 s'.c2, .slice s'.A3 s'.n3 s'.c3, .int .i64 (L : Int), .int .i64 (a : Int), .int .i64 0, .slice B' ps.length d']).frozen? ⟨bx, k, none⟩ = false) := Lib.hid (fun k => by rw [World.frozen?_setCells]; exact HFA.out k)
                  have HOL : Hid (Ok wq5 (wq9.setCells bx 0 [.int .u8 5, .int .i64 0, .int .i64 1, .int .i64 2, .int .i64 4, .int .i64 0, .int .i64 0, .int .i64 0, .bool false, .slice none 0 0, .int .i64 i, .int .i64 t, .slice s'.A0 s'.n0 s'.c0, .slice s'.A1 s'.n1 s'.c1, .slice s'.A2 s'.n2 s'.c2, .slice s'.A3 s'.n3 s'.c3, .int .i64 (L : Int), .int .i64 (a : Int), .int .i64 0, .slice B' ps.length d'])) := Lib.hid (Ok.sets (Nat.le_of_eq HBX.out) _ _ _ HOA.out)
                  have HCX : Hid (CfgOwn (wq9.setCells bx 0 [.int .u8 5, .int .i64 0, .int .i64 1, .int .i64 2, .int .i64 4, .int .i64 0, .int .i64 0, .int .i64 0, .bool false, .slice none 0 0, .int .i64 i, .int .i64 t, .slice s'.A0 s'.n0 s'.c0, .slice s'.A1 s'.n1 s'.c1, .slice s'.A2 s'.n2 s'.c2, .slice s'.A3 s'.n3 s'.c3, .int .i64 (L : Int), .int .i64 (a : Int), .int .i64 0, .slice B' ps.length d']) wr.heap.size s' cf) := Lib.hid ((HCF.out.ok HOL.out).lower HSZF.out)
                  have HNX : Hid (OwnN (wq9.setCells bx 0 [.int .u8 5, .int .i64 0, .int .i64 1, .int .i64 2, .int .i64 4, .int .i64 0, .int .i64 0, .int .i64 0, .bool false, .slice none 0 0, .int .i64 i, .int .i64 t, .slice s'.A0 s'.n0 s'.c0, .slice s'.A1 s'.n1 s'.c1, .slice s'.A2 s'.n2 s'.c2, .slice s'.A3 s'.n3 s'.c3, .int .i64 (L : Int), .int .i64 (a : Int), .int .i64 0, .slice B' ps.length d']) wr.heap.size (.slice B' ps.length d') ps) := Lib.hid ((HBY.out.okk HOL.out).lower HSZF.out)
                  have HEX : Hid (∀ v, CfgOwn ((wq9.setCells bx 0 [.int .u8 5, .int .i64 0, .int .i64 1, .int .i64 2, .int .i64 4, .int .i64 0, .int .i64 0, .int .i64 0, .bool false, .slice none 0 0, .int .i64 i, .int .i64 t, .slice s'.A0 s'.n0 s'.c0, .slice s'.A1 s'.n1 s'.c1, .slice s'.A2 s'.n2 s'.c2, .slice s'.A3 s'.n3 s'.c3, .int .i64 (L : Int), .int .i64 (a : Int), .int .i64 0, .slice B' ps.length d']).setCell ⟨bx, 4, none⟩ v) wr.heap.size s' cf ∧ OwnN ((wq9.setCells bx 0 [.int .u8 5, .int .i64 0, .int .i64 1, .int .i64 2, .int .i64 4, .int .i64 0, .int .i64 0, .int .i64 0, .bool false, .slice none 0 0, .int .i64 i, .int .i64 t, .slice s'.A0 s'.n0 s'.c0, .slice s'.A1 s'.n1 s'.c1, .slice s'.A2 s'.n2 s'.c2, .slice s'.A3 s'.n3 s'.c3, .int .i64 (L : Int), .int .i64 (a : Int), .int .i64 0, .slice B' ps.length d']).setCell ⟨bx, 4, none⟩ v) wr.heap.size (.slice B' ps.length d') ps) := Lib.hid (fun v => ⟨(HCF.out.ok (Below.setCell HOL.out (Nat.le_of_eq HBX.out) v)).lower HSZF.out, (HBY.out.okk (Below.setCell HOL.out (Nat.le_of_eq HBX.out) v)).lower HSZF.out⟩)
                  have HBZ : Hid (bx < (wq9.setCells bx 0 [.int .u8 5, .int .i64 0, .int .i64 1, .int .i64 2, .int .i64 4, .int .i64 0, .int .i64 0, .int .i64 0, .bool false, .slice none 0 0, .int .i64 i, .int .i64 t, .slice s'.A0 s'.n0 s'.c0, .slice s'.A1 s'.n1 s'.c1, .slice s'.A2 s'.n2 s'.c2, .slice s'.A3 s'.n3 s'.c3, .int .i64 (L : Int), .int .i64 (a : Int), .int .i64 0, .slice B' ps.length d']).heap.size) := Lib.hid (World.block_lt_of_cell? _ _ (HRX.out 0 _ rfl))
                  generalize wq9.setCells bx 0 [.int .u8 5, .int .i64 0, .int .i64 1, .int .i64 2, .int .i64 4, .int .i64 0, .int .i64 0, .int .i64 0, .bool false, .slice none 0 0, .int .i64 i, .int .i64 t, .slice s'.A0 s'.n0 s'.c0, .slice s'.A1 s'.n1 s'.c1, .slice s'.A2 s'.n2 s'.c2, .slice s'.A3 s'.n3 s'.c3, .int .i64 (L : Int), .int .i64 (a : Int), .int .i64 0, .slice B' ps.length d'] = wX at *
                  refine HK.out.out _ _ HRM.out (fun hJ => ?_)
                  clear hJ HK K
                  try go_frame
                  refine wpAnyH_take (i := 10) (v := ?vp10u10) rfl (by kernel_rfl) (by kernel_rfl) (by kernel_rfl) (fun _ _ _ h => h) (Or.inl ⟨by rfl, ?hyp10u10⟩) (by exact HRM.out) ?restp10u10
                  case hyp10u10 => ((intro w hSw); clear hSw; go_simp; (try with_reducible rfl))
                  try go_frame
                  refine wpAnyH_done (by kernel_rfl) ?_ _
                  go_simp
                  first | (refine Met.intro ?_; refine hK1 _ _ (Met.intro ?_)) | refine hK1 _ _ (Met.intro ?_)
                  exact HJ0.out _ _ ⟨_, _, _, _, _, _, _, _, _, _, ⟨bx, s', B', d', rfl, rfl, HRX.out, HFX.out, HCX.out, HNX.out, HGB.out, HBZ.out, HOX.out, HEX.out⟩, rfl⟩
                · have HK := Lib.hid hK
                  clear hK
                  go_simp
                  have HTA : Hid ((wq4.alloc (.cells #[.int .u8 0, .int .i64 0, .int .i64 0, .int .i64 0, .int .i64 0, .int .i64 0, .int .i64 0, .int .i64 0, .bool false, .slice none 0 0, .int .i64 0, .int .i64 0, .slice none 0 0, .slice none 0 0, .slice none 0 0, .slice none 0 0, .int .i64 0, .int .i64 0, .int .i64 0, .slice none 0 0] 80)).there wq4.heap.size 0 20) := Lib.hid (there_new wq4 #[.int .u8 0, .int .i64 0, .int .i64 0, .int .i64 0, .int .i64 0, .int .i64 0, .int .i64 0, .int .i64 0, .bool false, .slice none 0 0, .int .i64 0, .int .i64 0, .slice none 0 0, .slice none 0 0, .slice none 0 0, .slice none 0 0, .int .i64 0, .int .i64 0, .int .i64 0, .slice none 0 0] 80)
                  have HFA : Hid (∀ k, (wq4.alloc (.cells #[.int .u8 0, .int .i64 0, .int .i64 0, .int .i64 0, .int .i64 0, .int .i64 0, .int .i64 0, .int .i64 0, .bool false, .slice none 0 0, .int .i64 0, .int .i64 0, .slice none 0 0, .slice none 0 0, .slice none 0 0, .slice none 0 0, .int .i64 0, .int .i64 0, .int .i64 0, .slice none 0 0] 80)).frozen? ⟨wq4.heap.size, k, none⟩ = false) := Lib.hid (fun k => by rw [World.frozen?, heap_alloc_new]; simp)
                  have HBA : Hid (wq4.heap.size < (wq4.alloc (.cells #[.int .u8 0, .int .i64 0, .int .i64 0, .int .i64 0, .int .i64 0, .int .i64 0, .int .i64 0, .int .i64 0, .bool false, .slice none 0 0, .int .i64 0, .int .i64 0, .slice none 0 0, .slice none 0 0, .slice none 0 0, .slice none 0 0, .int .i64 0, .int .i64 0, .int .i64 0, .slice none 0 0] 80)).heap.size) := Lib.hid (by rw [World.size_alloc]; omega)
                  have HOA : Hid (Ok wq4 (wq4.alloc (.cells #[.int .u8 0, .int .i64 0, .int .i64 0, .int .i64 0, .int .i64 0, .int .i64 0, .int .i64 0, .int .i64 0, .bool false, .slice none 0 0, .int .i64 0, .int .i64 0, .slice none 0 0, .slice none 0 0, .slice none 0 0, .slice none 0 0, .int .i64 0, .int .i64 0, .int .i64 0, .slice none 0 0] 80))) := Lib.hid ((Ok.refl _).alloc _)
                  generalize wq4.alloc (.cells #[.int .u8 0, .int .i64 0, .int .i64 0, .int .i64 0, .int .i64 0, .int .i64 0, .int .i64 0, .int .i64 0, .bool false, .slice none 0 0, .int .i64 0, .int .i64 0, .slice none 0 0, .slice none 0 0, .slice none 0 0, .slice none 0 0, .int .i64 0, .int .i64 0, .int .i64 0, .slice none 0 0] 80) = wq11 at *
                  obtain ⟨bx, hbx⟩ : ∃ bx, wq4.heap.size = bx := ⟨_, rfl⟩
                  rw [hbx] at HTA HFA HBA ⊢
                  have HBX : Hid (wq4.heap.size = bx) := Lib.hid hbx
                  have HGB : Hid (wr.heap.size ≤ bx) := Lib.hid (by rw [← hbx]; exact HO4.out.size)
                  clear hbx
                  have HO11 : Hid (Ok wr wq11) := Lib.hid (HO4.out.trans HOA.out)
                  have HV11 : Hid (wq11.rangeAt g 0 [.int .i64 i, .int .i64 t, .slice s.A0 s.n0 s.c0, .slice s.A1 s.n1 s.c1, .slice s.A2 s.n2 s.c2, .slice s.A3 s.n3 s.c3, .slice Ab L cb]) := Lib.hid (fun j u hu => HOA.out.cell (HV4.out j u hu))
                  refine HK.out.out _ _ HV11.out (fun hJ => ?_)
                  clear hJ HK K
                  try go_frame
                  refine wpAnyH_ready (rs := [4]) (by kernel_rfl) (by simp) (AllReadyH.cons rfl (fun K hK => ?_) AllReadyH.nil)
                  have HK := Lib.hid hK
                  clear hK
                  go_simp
                  (with_reducible refine (fill_z i t (a : Int) s cf Ab L cb a bs wq11 rfl (HMw.out _ HO11.out).1 (HMw.out _ HO11.out).2 (by have := HAL.out; omega) (by have := HAL.out; omega) l0 l1 l2 l3).mono ?_)
                  rintro _ wq12 ⟨s', B', d', rfl, hcf, hby, ok⟩
                  rw [HPS.out] at hby ⊢
                  rw [← HL.out]
                  have HO12 : Hid (Ok wr wq12) := Lib.hid (HO11.out.trans ok)
                  have HV12 : Hid (wq12.rangeAt g 0 [.int .i64 i, .int .i64 t, .slice s.A0 s.n0 s.c0, .slice s.A1 s.n1 s.c1, .slice s.A2 s.n2 s.c2, .slice s.A3 s.n3 s.c3, .slice Ab L cb]) := Lib.hid (fun j u hu => ok.cell (HV11.out j u hu))
                  have HCF := Lib.hid hcf
                  have HBY := Lib.hid hby
                  have HSZF : Hid (wr.heap.size ≤ wq11.heap.size) := Lib.hid HO11.out.size
                  have HBF : Hid (bx < wq11.heap.size) := Lib.hid HBA.out
                  have HTA := Lib.hid (there_ok HTA.out ok)
                  have HFA := Lib.hid (fun k => Ok.frz ok (HFA.out k) HBA.out)
                  have HBA := Lib.hid (Nat.lt_of_lt_of_le HBA.out ok.size)
                  clear ok hcf hby
                  refine HK.out.out _ _ HV12.out (fun hJ => ?_)
                  clear hJ HK K
                  try go_frame
                  refine wpAnyH_take (i := 5) (v := ?vp5u13) rfl (by kernel_rfl) (by kernel_rfl) (by kernel_rfl) (fun _ _ _ h => h) (Or.inl ⟨by rfl, ?hyp5u13⟩) (by exact HV12.out) ?restp5u13
                  case hyp5u13 => ((intro w hSw); clear hSw; go_simp; (try with_reducible rfl))
                  try go_frame
                  refine wpAnyH_take (i := 6) (v := ?vp6u14) rfl (by kernel_rfl) (by kernel_rfl) (by kernel_rfl) (fun _ _ _ h => h) (Or.inl ⟨by rfl, ?hyp6u14⟩) (by exact HV12.out) ?restp6u14
                  case hyp6u14 => ((intro w hSw); clear hSw; go_simp; (try with_reducible rfl))
                  try go_frame
                  refine wpAnyH_take (i := 7) (v := ?vp7u15) rfl (by kernel_rfl) (by kernel_rfl) (by kernel_rfl) (fun _ _ _ h => h) (Or.inl ⟨by rfl, ?hyp7u15⟩) (by exact HV12.out) ?restp7u15
                  case hyp7u15 => ((intro w hSw); clear hSw; go_simp; (try with_reducible rfl))
                  try go_frame
                  refine wpAnyH_ready (rs := [9]) (by kernel_rfl) (by simp) (AllReadyH.cons rfl (fun K hK => ?_) AllReadyH.nil)
                  have HK := Lib.hid hK
                  clear hK
                  rw [if_pos (by rfl)]
                  refine wp_store_mid 80 (.tmp 12) (.tmp 63) rfl bx 0 #[.int .u8 5, .int .i64 0, .int .i64 1, .int .i64 2, .int .i64 4, .int .i64 0, .int .i64 0, .int .i64 0, .bool false, .slice none 0 0, .int .i64 i, .int .i64 t, .slice s'.A0 s'.n0 s'.c0, .slice s'.A1 s'.n1 s'.c1, .slice s'.A2 s'.n2 s'.c2, .slice s'.A3 s'.n3 s'.c3, .int .i64 (L : Int), .int .i64 (a : Int), .int .i64 0, .slice B' ps.length d'] rfl rfl HTA.out info80 (by simp [Value.oneCell']) ?_
                  have HRX : Hid ((wq12.setCells bx 0 [.int .u8 5, .int .i64 0, .int .i64 1, .int .i64 2, .int .i64 4, .int .i64 0, .int .i64 0, .int .i64 0, .bool false, .slice none 0 0, .int .i64 i, .int .i64 t, .slice s'.A0 s'.n0 s'.c0, .slice s'.A1 s'.n1 s'.c1, .slice s'.A2 s'.n2 s'.c2, .slice s'.A3 s'.n3 s'.c3, .int .i64 (L : Int), .int .i64 (a : Int), .int .i64 0, .slice B' ps.length d']).rangeAt bx 0 [.int .u8 5, .int .i64 0, .int .i64 1, .int .i64 2, .int .i64 4, .int .i64 0, .int .i64 0, .int .i64 0, .bool false, .slice none 0 0, .int .i64 i, .int .i64 t, .slice s'.A0 s'.n0 s'.c0, .slice s'.A1 s'.n1 s'.c1, .slice s'.A2 s'.n2 s'.c2, .slice s'.A3 s'.n3 s'.c3, .int .i64 (L : Int), .int .i64 (a : Int), .int .i64 0, .slice B' ps.length d']) := Lib.hid (World.rangeAt_setCells_same wq12 bx 0 [.int .u8 5, .int .i64 0, .int .i64 1, .int .i64 2, .int .i64 4, .int .i64 0, .int .i64 0, .int .i64 0, .bool false, .slice none 0 0, .int .i64 i, .int .i64 t, .slice s'.A0 s'.n0 s'.c0, .slice s'.A1 s'.n1 s'.c1, .slice s'.A2 s'.n2 s'.c2, .slice s'.A3 s'.n3 s'.c3, .int .i64 (L : Int), .int .i64 (a : Int), .int .i64 0, .slice B' ps.length d'] HTA.out)
                  have HRM : Hid ((wq12.setCells bx 0 [.int .u8 5, .int .i64 0, .int .i64 1, .int .i64 2, .int .i64 4, .int .i64 0, .int .i64 0, .int .i64 0, .bool false, .slice none 0 0, .int .i64 i, .int .i64 t, .slice s'.A0 s'.n0 s'.c0, .slice s'.A1 s'.n1 s'.c1, .slice s'.A2 s'.n2 s'.c2, .slice s'.A3 s'.n3 s'.c3, .int .i64 (L : Int), .int .i64 (a : Int), .int .i64 0, .slice B' ps.length d']).rangeAt g 0 [.int .i64 i, .int .i64 t, .slice s.A0 s.n0 s.c0, .slice s.A1 s.n1 s.c1, .slice s.A2 s.n2 s.c2, .slice s.A3 s.n3 s.c3, .slice Ab L cb]) := Lib.hid (World.rangeAt_setCells_apart HV12.out bx 0 _ (.inl (by have := HGB.out; have := HBOX.out; omega)))
                  have HOX : Hid (Ok wr (wq12.setCells bx 0 [.int .u8 5, .int .i64 0, .int .i64 1, .int .i64 2, .int .i64 4, .int .i64 0, .int .i64 0, .int .i64 0, .bool false, .slice none 0 0, .int .i64 i, .int .i64 t, .slice s'.A0 s'.n0 s'.c0, .slice s'.A1 s'.n1 s'.c1, .slice s'.A2 s'.n2 s'.c2, .slice s'.A3 s'.n3 s'.c3, .int .i64 (L : Int), .int .i64 (a : Int), .int .i64 0, .slice B' ps.length d'])) := Lib.hid (Ok.sets HGB.out _ _ _ HO12.out)
                  have HFX : Hid (∀ k, (wq12.setCells bx 0 [.int .u8 5, .int .i64 0, .int .i64 1, .int .i64 2, .int .i64 4, .int .i64 0, .int .i64 0, .int .i64 0, .bool false, .slice none 0 0, .int .i64 i, .int .i64 t, .slice s'.A0 s'.n0 s'.c0, .slice s'.A1 s'.n1 s'.c1, .slice s'.A2 s'.n2 s'.c2, .slice s'.A3 s'.n3 s'.c3, .int .i64 (L : Int), .int .i64 (a : Int), .int .i64 0, .slice B' ps.length d']).frozen? ⟨bx, k, none⟩ = false) := Lib.hid (fun k => by rw [World.frozen?_setCells]; exact HFA.out k)
                  have HCX : Hid (CfgOwn (wq12.setCells bx 0 [.int .u8 5, .int .i64 0, .int .i64 1, .int .i64 2, .int .i64 4, .int .i64 0, .int .i64 0, .int .i64 0, .bool false, .slice none 0 0, .int .i64 i, .int .i64 t, .slice s'.A0 s'.n0 s'.c0, .slice s'.A1 s'.n1 s'.c1, .slice s'.A2 s'.n2 s'.c2, .slice s'.A3 s'.n3 s'.c3, .int .i64 (L : Int), .int .i64 (a : Int), .int .i64 0, .slice B' ps.length d']) wr.heap.size s' cf) := Lib.hid (((sets_own [.int .u8 5, .int .i64 0, .int .i64 1, .int .i64 2, .int .i64 4, .int .i64 0, .int .i64 0, .int .i64 0, .bool false, .slice none 0 0, .int .i64 i, .int .i64 t, .slice s'.A0 s'.n0 s'.c0, .slice s'.A1 s'.n1 s'.c1, .slice s'.A2 s'.n2 s'.c2, .slice s'.A3 s'.n3 s'.c3, .int .i64 (L : Int), .int .i64 (a : Int), .int .i64 0, .slice B' ps.length d'] 0 wq12 _ HBF.out).1 HCF.out).lower HSZF.out)
                  have HNX : Hid (OwnN (wq12.setCells bx 0 [.int .u8 5, .int .i64 0, .int .i64 1, .int .i64 2, .int .i64 4, .int .i64 0, .int .i64 0, .int .i64 0, .bool false, .slice none 0 0, .int .i64 i, .int .i64 t, .slice s'.A0 s'.n0 s'.c0, .slice s'.A1 s'.n1 s'.c1, .slice s'.A2 s'.n2 s'.c2, .slice s'.A3 s'.n3 s'.c3, .int .i64 (L : Int), .int .i64 (a : Int), .int .i64 0, .slice B' ps.length d']) wr.heap.size (.slice B' ps.length d') ps) := Lib.hid (((sets_own [.int .u8 5, .int .i64 0, .int .i64 1, .int .i64 2, .int .i64 4, .int .i64 0, .int .i64 0, .int .i64 0, .bool false, .slice none 0 0, .int .i64 i, .int .i64 t, .slice s'.A0 s'.n0 s'.c0, .slice s'.A1 s'.n1 s'.c1, .slice s'.A2 s'.n2 s'.c2, .slice s'.A3 s'.n3 s'.c3, .int .i64 (L : Int), .int .i64 (a : Int), .int .i64 0, .slice B' ps.length d'] 0 wq12 _ HBF.out).2 HBY.out).lower HSZF.out)
                  have HEX : Hid (∀ v, CfgOwn ((wq12.setCells bx 0 [.int .u8 5, .int .i64 0, .int .i64 1, .int .i64 2, .int .i64 4, .int .i64 0, .int .i64 0, .int .i64 0, .bool false, .slice none 0 0, .int .i64 i, .int .i64 t, .slice s'.A0 s'.n0 s'.c0, .slice s'.A1 s'.n1 s'.c1, .slice s'.A2 s'.n2 s'.c2, .slice s'.A3 s'.n3 s'.c3, .int .i64 (L : Int), .int .i64 (a : Int), .int .i64 0, .slice B' ps.length d']).setCell ⟨bx, 4, none⟩ v) wr.heap.size s' cf ∧ OwnN ((wq12.setCells bx 0 [.int .u8 5, .int .i64 0, .int .i64 1, .int .i64 2, .int .i64 4, .int .i64 0, .int .i64 0, .int .i64 0, .bool false, .slice none 0 0, .int .i64 i, .int .i64 t, .slice s'.A0 s'.n0 s'.c0, .slice s'.A1 s'.n1 s'.c1, .slice s'.A2 s'.n2 s'.c2, .slice s'.A3 s'.n3 s'.c3, .int .i64 (L : Int), .int .i64 (a : Int), .int .i64 0, .slice B' ps.length d']).setCell ⟨bx, 4, none⟩ v) wr.heap.size (.slice B' ps.length d') ps) := Lib.hid (fun v => ⟨(((sets_own [.int .u8 5, .int .i64 0, .int .i64 1, .int .i64 2, .int .i64 4, .int .i64 0, .int .i64 0, .int .i64 0, .bool false, .slice none 0 0, .int .i64 i, .int .i64 t, .slice s'.A0 s'.n0 s'.c0, .slice s'.A1 s'.n1 s'.c1, .slice s'.A2 s'.n2 s'.c2, .slice s'.A3 s'.n3 s'.c3, .int .i64 (L : Int), .int .i64 (a : Int), .int .i64 0, .slice B' ps.length d'] 0 wq12 _ HBF.out).1 HCF.out).set bx 4 v HBF.out).lower HSZF.out, (((sets_own [.int .u8 5, .int .i64 0, .int .i64 1, .int .i64 2, .int .i64 4, .int .i64 0, .int .i64 0, .int .i64 0, .bool false, .slice none 0 0, .int .i64 i, .int .i64 t, .slice s'.A0 s'.n0 s'.c0, .slice s'.A1 s'.n1 s'.c1, .slice s'.A2 s'.n2 s'.c2, .slice s'.A3 s'.n3 s'.c3, .int .i64 (L : Int), .int .i64 (a : Int), .int .i64 0, .slice B' ps.length d'] 0 wq12 _ HBF.out).2 HBY.out).set bx 4 v HBF.out).lower HSZF.out⟩)
                  have HBZ : Hid (bx < (wq12.setCells bx 0 [.int .u8 5, .int .i64 0, .int .i64 1, .int .i64 2, .int .i64 4, .int .i64 0, .int .i64 0, .int .i64 0, .bool false, .slice none 0 0, .int .i64 i, .int .i64 t, .slice s'.A0 s'.n0 s'.c0, .slice s'.A1 s'.n1 s'.c1, .slice s'.A2 s'.n2 s'.c2, .slice s'.A3 s'.n3 s'.c3, .int .i64 (L : Int), .int .i64 (a : Int), .int .i64 0, .slice B' ps.length d']).heap.size) := Lib.hid (World.block_lt_of_cell? _ _ (HRX.out 0 _ rfl))
                  generalize wq12.setCells bx 0 [.int .u8 5, .int .i64 0, .int .i64 1, .int .i64 2, .int .i64 4, .int .i64 0, .int .i64 0, .int .i64 0, .bool false, .slice none 0 0, .int .i64 i, .int .i64 t, .slice s'.A0 s'.n0 s'.c0, .slice s'.A1 s'.n1 s'.c1, .slice s'.A2 s'.n2 s'.c2, .slice s'.A3 s'.n3 s'.c3, .int .i64 (L : Int), .int .i64 (a : Int), .int .i64 0, .slice B' ps.length d'] = wX at *
                  refine HK.out.out _ _ HRM.out (fun hJ => ?_)
                  clear hJ HK K
                  try go_frame
                  refine wpAnyH_take (i := 10) (v := ?vp10u16) rfl (by kernel_rfl) (by kernel_rfl) (by kernel_rfl) (fun _ _ _ h => h) (Or.inl ⟨by rfl, ?hyp10u16⟩) (by exact HRM.out) ?restp10u16
                  case hyp10u16 => ((intro w hSw); clear hSw; go_simp; (try with_reducible rfl))
                  try go_frame
                  refine wpAnyH_done (by kernel_rfl) ?_ _
                  go_simp
                  first | (refine Met.intro ?_; refine hK1 _ _ (Met.intro ?_)) | refine hK1 _ _ (Met.intro ?_)
                  exact HJ0.out _ _ ⟨_, _, _, _, _, _, _, _, _, _, ⟨bx, s', B', d', rfl, rfl, HRX.out, HFX.out, HCX.out, HNX.out, HGB.out, HBZ.out, HOX.out, HEX.out⟩, rfl⟩
              · have HK := Lib.hid hK
                clear hK
                go_simp
                have HTA : Hid ((ws.alloc (.cells #[.int .u8 0, .int .i64 0, .int .i64 0, .int .i64 0, .int .i64 0, .int .i64 0, .int .i64 0, .int .i64 0, .bool false, .slice none 0 0, .int .i64 0, .int .i64 0, .slice none 0 0, .slice none 0 0, .slice none 0 0, .slice none 0 0, .int .i64 0, .int .i64 0, .int .i64 0, .slice none 0 0] 80)).there ws.heap.size 0 20) := Lib.hid (there_new ws #[.int .u8 0, .int .i64 0, .int .i64 0, .int .i64 0, .int .i64 0, .int .i64 0, .int .i64 0, .int .i64 0, .bool false, .slice none 0 0, .int .i64 0, .int .i64 0, .slice none 0 0, .slice none 0 0, .slice none 0 0, .slice none 0 0, .int .i64 0, .int .i64 0, .int .i64 0, .slice none 0 0] 80)
                have HFA : Hid (∀ k, (ws.alloc (.cells #[.int .u8 0, .int .i64 0, .int .i64 0, .int .i64 0, .int .i64 0, .int .i64 0, .int .i64 0, .int .i64 0, .bool false, .slice none 0 0, .int .i64 0, .int .i64 0, .slice none 0 0, .slice none 0 0, .slice none 0 0, .slice none 0 0, .int .i64 0, .int .i64 0, .int .i64 0, .slice none 0 0] 80)).frozen? ⟨ws.heap.size, k, none⟩ = false) := Lib.hid (fun k => by rw [World.frozen?, heap_alloc_new]; simp)
                have HBA : Hid (ws.heap.size < (ws.alloc (.cells #[.int .u8 0, .int .i64 0, .int .i64 0, .int .i64 0, .int .i64 0, .int .i64 0, .int .i64 0, .int .i64 0, .bool false, .slice none 0 0, .int .i64 0, .int .i64 0, .slice none 0 0, .slice none 0 0, .slice none 0 0, .slice none 0 0, .int .i64 0, .int .i64 0, .int .i64 0, .slice none 0 0] 80)).heap.size) := Lib.hid (by rw [World.size_alloc]; omega)
                have HOA : Hid (Ok ws (ws.alloc (.cells #[.int .u8 0, .int .i64 0, .int .i64 0, .int .i64 0, .int .i64 0, .int .i64 0, .int .i64 0, .int .i64 0, .bool false, .slice none 0 0, .int .i64 0, .int .i64 0, .slice none 0 0, .slice none 0 0, .slice none 0 0, .slice none 0 0, .int .i64 0, .int .i64 0, .int .i64 0, .slice none 0 0] 80))) := Lib.hid ((Ok.refl _).alloc _)
                generalize ws.alloc (.cells #[.int .u8 0, .int .i64 0, .int .i64 0, .int .i64 0, .int .i64 0, .int .i64 0, .int .i64 0, .int .i64 0, .bool false, .slice none 0 0, .int .i64 0, .int .i64 0, .slice none 0 0, .slice none 0 0, .slice none 0 0, .slice none 0 0, .int .i64 0, .int .i64 0, .int .i64 0, .slice none 0 0] 80) = wq17 at *
                obtain ⟨bx, hbx⟩ : ∃ bx, ws.heap.size = bx := ⟨_, rfl⟩
                rw [hbx] at HTA HFA HBA ⊢
                have HBX : Hid (ws.heap.size = bx) := Lib.hid hbx
                have HGB : Hid (wr.heap.size ≤ bx) := Lib.hid (by rw [← hbx]; exact HOs.out.size)
                clear hbx
                have HO17 : Hid (Ok wr wq17) := Lib.hid (HOs.out.trans HOA.out)
                have HV17 : Hid (wq17.rangeAt g 0 [.int .i64 i, .int .i64 t, .slice s.A0 s.n0 s.c0, .slice s.A1 s.n1 s.c1, .slice s.A2 s.n2 s.c2, .slice s.A3 s.n3 s.c3, .slice Ab L cb]) := Lib.hid (fun j u hu => HOA.out.cell (HSs.out j u hu))
                refine HK.out.out _ _ HV17.out (fun hJ => ?_)
                clear hJ HK K
                try go_frame
                refine wpAnyH_ready (rs := [2]) (by kernel_rfl) (by simp) (AllReadyH.cons rfl (fun K hK => ?_) AllReadyH.nil)
                have HK := Lib.hid hK
                clear hK
                go_simp
                (with_reducible refine (asks_f i t (a : Int) s L cb Ab wq17).mono ?_)
                rintro _ wq18 ⟨rfl, ok⟩
                have HO18 : Hid (Ok wr wq18) := Lib.hid (HO17.out.trans ok)
                have HV18 : Hid (wq18.rangeAt g 0 [.int .i64 i, .int .i64 t, .slice s.A0 s.n0 s.c0, .slice s.A1 s.n1 s.c1, .slice s.A2 s.n2 s.c2, .slice s.A3 s.n3 s.c3, .slice Ab L cb]) := Lib.hid (fun j u hu => ok.cell (HV17.out j u hu))
                have HTA := Lib.hid (there_ok HTA.out ok)
                have HFA := Lib.hid (fun k => Ok.frz ok (HFA.out k) HBA.out)
                have HBA := Lib.hid (Nat.lt_of_lt_of_le HBA.out ok.size)
                clear ok
                refine HK.out.out _ _ HV18.out (fun hJ => ?_)
                clear hJ HK K
                try go_frame
                refine wpAnyH_ready (rs := [4]) (by kernel_rfl) (by simp) (AllReadyH.cons rfl (fun K hK => ?_) AllReadyH.nil)
                have HK := Lib.hid hK
                clear hK
                go_simp
                (with_reducible refine (fill_z i t (a : Int) s cf Ab L cb a bs wq18 rfl (HMw.out _ HO18.out).1 (HMw.out _ HO18.out).2 (by have := HAL.out; omega) (by have := HAL.out; omega) l0 l1 l2 l3).mono ?_)
                rintro _ wq19 ⟨s', B', d', rfl, hcf, hby, ok⟩
                rw [HPS.out] at hby ⊢
                rw [← HL.out]
                have HO19 : Hid (Ok wr wq19) := Lib.hid (HO18.out.trans ok)
                have HV19 : Hid (wq19.rangeAt g 0 [.int .i64 i, .int .i64 t, .slice s.A0 s.n0 s.c0, .slice s.A1 s.n1 s.c1, .slice s.A2 s.n2 s.c2, .slice s.A3 s.n3 s.c3, .slice Ab L cb]) := Lib.hid (fun j u hu => ok.cell (HV18.out j u hu))
                have HCF := Lib.hid hcf
                have HBY := Lib.hid hby
                have HSZF : Hid (wr.heap.size ≤ wq18.heap.size) := Lib.hid HO18.out.size
                have HBF : Hid (bx < wq18.heap.size) := Lib.hid HBA.out
                have HTA := Lib.hid (there_ok HTA.out ok)
                have HFA := Lib.hid (fun k => Ok.frz ok (HFA.out k) HBA.out)
                have HBA := Lib.hid (Nat.lt_of_lt_of_le HBA.out ok.size)
                clear ok hcf hby
                refine HK.out.out _ _ HV19.out (fun hJ => ?_)
                clear hJ HK K
                try go_frame
                refine wpAnyH_take (i := 5) (v := ?vp5u20) rfl (by kernel_rfl) (by kernel_rfl) (by kernel_rfl) (fun _ _ _ h => h) (Or.inl ⟨by rfl, ?hyp5u20⟩) (by exact HV19.out) ?restp5u20
                case hyp5u20 => ((intro w hSw); clear hSw; go_simp; (try with_reducible rfl))
                try go_frame
                refine wpAnyH_take (i := 6) (v := ?vp6u21) rfl (by kernel_rfl) (by kernel_rfl) (by kernel_rfl) (fun _ _ _ h => h) (Or.inl ⟨by rfl, ?hyp6u21⟩) (by exact HV19.out) ?restp6u21
                case hyp6u21 => ((intro w hSw); clear hSw; go_simp; (try with_reducible rfl))
                try go_frame
                refine wpAnyH_take (i := 7) (v := ?vp7u22) rfl (by kernel_rfl) (by kernel_rfl) (by kernel_rfl) (fun _ _ _ h => h) (Or.inl ⟨by rfl, ?hyp7u22⟩) (by exact HV19.out) ?restp7u22
                case hyp7u22 => ((intro w hSw); clear hSw; go_simp; (try with_reducible rfl))
                try go_frame
                refine wpAnyH_ready (rs := [9]) (by kernel_rfl) (by simp) (AllReadyH.cons rfl (fun K hK => ?_) AllReadyH.nil)
                have HK := Lib.hid hK
                clear hK
                rw [if_pos (by rfl)]
                refine wp_store_mid 80 (.tmp 12) (.tmp 63) rfl bx 0 #[.int .u8 5, .int .i64 0, .int .i64 1, .int .i64 2, .int .i64 4, .int .i64 0, .int .i64 0, .int .i64 0, .bool false, .slice none 0 0, .int .i64 i, .int .i64 t, .slice s'.A0 s'.n0 s'.c0, .slice s'.A1 s'.n1 s'.c1, .slice s'.A2 s'.n2 s'.c2, .slice s'.A3 s'.n3 s'.c3, .int .i64 (L : Int), .int .i64 (a : Int), .int .i64 0, .slice B' ps.length d'] rfl rfl HTA.out info80 (by simp [Value.oneCell']) ?_
                have HRX : Hid ((wq19.setCells bx 0 [.int .u8 5, .int .i64 0, .int .i64 1, .int .i64 2, .int .i64 4, .int .i64 0, .int .i64 0, .int .i64 0, .bool false, .slice none 0 0, .int .i64 i, .int .i64 t, .slice s'.A0 s'.n0 s'.c0, .slice s'.A1 s'.n1 s'.c1, .slice s'.A2 s'.n2 s'.c2, .slice s'.A3 s'.n3 s'.c3, .int .i64 (L : Int), .int .i64 (a : Int), .int .i64 0, .slice B' ps.length d']).rangeAt bx 0 [.int .u8 5, .int .i64 0, .int .i64 1, .int .i64 2, .int .i64 4, .int .i64 0, .int .i64 0, .int .i64 0, .bool false, .slice none 0 0, .int .i64 i, .int .i64 t, .slice s'.A0 s'.n0 s'.c0, .slice s'.A1 s'.n1 s'.c1, .slice s'.A2 s'.n2 s'.c2, .slice s'.A3 s'.n3 s'.c3, .int .i64 (L : Int), .int .i64 (a : Int), .int .i64 0, .slice B' ps.length d']) := Lib.hid (World.rangeAt_setCells_same wq19 bx 0 [.int .u8 5, .int .i64 0, .int .i64 1, .int .i64 2, .int .i64 4, .int .i64 0, .int .i64 0, .int .i64 0, .bool false, .slice none 0 0, .int .i64 i, .int .i64 t, .slice s'.A0 s'.n0 s'.c0, .slice s'.A1 s'.n1 s'.c1, .slice s'.A2 s'.n2 s'.c2, .slice s'.A3 s'.n3 s'.c3, .int .i64 (L : Int), .int .i64 (a : Int), .int .i64 0, .slice B' ps.length d'] HTA.out)
                have HRM : Hid ((wq19.setCells bx 0 [.int .u8 5, .int .i64 0, .int .i64 1, .int .i64 2, .int .i64 4, .int .i64 0, .int .i64 0, .int .i64 0, .bool false, .slice none 0 0, .int .i64 i, .int .i64 t, .slice s'.A0 s'.n0 s'.c0, .slice s'.A1 s'.n1 s'.c1, .slice s'.A2 s'.n2 s'.c2, .slice s'.A3 s'.n3 s'.c3, .int .i64 (L : Int), .int .i64 (a : Int), .int .i64 0, .slice B' ps.length d']).rangeAt g 0 [.int .i64 i, .int .i64 t, .slice s.A0 s.n0 s.c0, .slice s.A1 s.n1 s.c1, .slice s.A2 s.n2 s.c2, .slice s.A3 s.n3 s.c3, .slice Ab L cb]) := Lib.hid (World.rangeAt_setCells_apart HV19.out bx 0 _ (.inl (by have := HGB.out; have := HBOX.out; omega)))
                have HOX : Hid (Ok wr (wq19.setCells bx 0 [.int .u8 5, .int .i64 0, .int .i64 1, .int .i64 2, .int .i64 4, .int .i64 0, .int .i64 0, .int .i64 0, .bool false, .slice none 0 0, .int .i64 i, .int .i64 t, .slice s'.A0 s'.n0 s'.c0, .slice s'.A1 s'.n1 s'.c1, .slice s'.A2 s'.n2 s'.c2, .slice s'.A3 s'.n3 s'.c3, .int .i64 (L : Int), .int .i64 (a : Int), .int .i64 0, .slice B' ps.length d'])) := Lib.hid (Ok.sets HGB.out _ _ _ HO19.out)
                have HFX : Hid (∀ k, (wq19.setCells bx 0 [.int .u8 5, .int .i64 0, .int .i64 1, .int .i64 2, .int .i64 4, .int .i64 0, .int .i64 0, .int .i64 0, .bool false, .slice none 0 0, .int .i64 i, .int .i64 t, .slice s'.A0 s'.n0 s'.c0, .slice s'.A1 s'.n1 s'.c1, .slice s'.A2 s'.n2 s'.c2, .slice s'.A3 s'.n3 s'.c3, .int .i64 (L : Int), .int .i64 (a : Int), .int .i64 0, .slice B' ps.length d']).frozen? ⟨bx, k, none⟩ = false) := Lib.hid (fun k => by rw [World.frozen?_setCells]; exact HFA.out k)
                have HCX : Hid (CfgOwn (wq19.setCells bx 0 [.int .u8 5, .int .i64 0, .int .i64 1, .int .i64 2, .int .i64 4, .int .i64 0, .int .i64 0, .int .i64 0, .bool false, .slice none 0 0, .int .i64 i, .int .i64 t, .slice s'.A0 s'.n0 s'.c0, .slice s'.A1 s'.n1 s'.c1, .slice s'.A2 s'.n2 s'.c2, .slice s'.A3 s'.n3 s'.c3, .int .i64 (L : Int), .int .i64 (a : Int), .int .i64 0, .slice B' ps.length d']) wr.heap.size s' cf) := Lib.hid (((sets_own [.int .u8 5, .int .i64 0, .int .i64 1, .int .i64 2, .int .i64 4, .int .i64 0, .int .i64 0, .int .i64 0, .bool false, .slice none 0 0, .int .i64 i, .int .i64 t, .slice s'.A0 s'.n0 s'.c0, .slice s'.A1 s'.n1 s'.c1, .slice s'.A2 s'.n2 s'.c2, .slice s'.A3 s'.n3 s'.c3, .int .i64 (L : Int), .int .i64 (a : Int), .int .i64 0, .slice B' ps.length d'] 0 wq19 _ HBF.out).1 HCF.out).lower HSZF.out)
                have HNX : Hid (OwnN (wq19.setCells bx 0 [.int .u8 5, .int .i64 0, .int .i64 1, .int .i64 2, .int .i64 4, .int .i64 0, .int .i64 0, .int .i64 0, .bool false, .slice none 0 0, .int .i64 i, .int .i64 t, .slice s'.A0 s'.n0 s'.c0, .slice s'.A1 s'.n1 s'.c1, .slice s'.A2 s'.n2 s'.c2, .slice s'.A3 s'.n3 s'.c3, .int .i64 (L : Int), .int .i64 (a : Int), .int .i64 0, .slice B' ps.length d']) wr.heap.size (.slice B' ps.length d') ps) := Lib.hid (((sets_own [.int .u8 5, .int .i64 0, .int .i64 1, .int .i64 2, .int .i64 4, .int .i64 0, .int .i64 0, .int .i64 0, .bool false, .slice none 0 0, .int .i64 i, .int .i64 t, .slice s'.A0 s'.n0 s'.c0, .slice s'.A1 s'.n1 s'.c1, .slice s'.A2 s'.n2 s'.c2, .slice s'.A3 s'.n3 s'.c3, .int .i64 (L : Int), .int .i64 (a : Int), .int .i64 0, .slice B' ps.length d'] 0 wq19 _ HBF.out).2 HBY.out).lower HSZF.out)
                have HEX : Hid (∀ v, CfgOwn ((wq19.setCells bx 0 [.int .u8 5, .int .i64 0, .int .i64 1, .int .i64 2, .int .i64 4, .int .i64 0, .int .i64 0, .int .i64 0, .bool false, .slice none 0 0, .int .i64 i, .int .i64 t, .slice s'.A0 s'.n0 s'.c0, .slice s'.A1 s'.n1 s'.c1, .slice s'.A2 s'.n2 s'.c2, .slice s'.A3 s'.n3 s'.c3, .int .i64 (L : Int), .int .i64 (a : Int), .int .i64 0, .slice B' ps.length d']).setCell ⟨bx, 4, none⟩ v) wr.heap.size s' cf ∧ OwnN ((wq19.setCells bx 0 [.int .u8 5, .int .i64 0, .int .i64 1, .int .i64 2, .int .i64 4, .int .i64 0, .int .i64 0, .int .i64 0, .bool false, .slice none 0 0, .int .i64 i, .int .i64 t, .slice s'.A0 s'.n0 s'.c0, .slice s'.A1 s'.n1 s'.c1, .slice s'.A2 s'.n2 s'.c2, .slice s'.A3 s'.n3 s'.c3, .int .i64 (L : Int), .int .i64 (a : Int), .int .i64 0, .slice B' ps.length d']).setCell ⟨bx, 4, none⟩ v) wr.heap.size (.slice B' ps.length d') ps) := Lib.hid (fun v => ⟨(((sets_own [.int .u8 5, .int .i64 0, .int .i64 1, .int .i64 2, .int .i64 4, .int .i64 0, .int .i64 0, .int .i64 0, .bool false, .slice none 0 0, .int .i64 i, .int .i64 t, .slice s'.A0 s'.n0 s'.c0, .slice s'.A1 s'.n1 s'.c1, .slice s'.A2 s'.n2 s'.c2, .slice s'.A3 s'.n3 s'.c3, .int .i64 (L : Int), .int .i64 (a : Int), .int .i64 0, .slice B' ps.length d'] 0 wq19 _ HBF.out).1 HCF.out).set bx 4 v HBF.out).lower HSZF.out, (((sets_own [.int .u8 5, .int .i64 0, .int .i64 1, .int .i64 2, .int .i64 4, .int .i64 0, .int .i64 0, .int .i64 0, .bool false, .slice none 0 0, .int .i64 i, .int .i64 t, .slice s'.A0 s'.n0 s'.c0, .slice s'.A1 s'.n1 s'.c1, .slice s'.A2 s'.n2 s'.c2, .slice s'.A3 s'.n3 s'.c3, .int .i64 (L : Int), .int .i64 (a : Int), .int .i64 0, .slice B' ps.length d'] 0 wq19 _ HBF.out).2 HBY.out).set bx 4 v HBF.out).lower HSZF.out⟩)
                have HBZ : Hid (bx < (wq19.setCells bx 0 [.int .u8 5, .int .i64 0, .int .i64 1, .int .i64 2, .int .i64 4, .int .i64 0, .int .i64 0, .int .i64 0, .bool false, .slice none 0 0, .int .i64 i, .int .i64 t, .slice s'.A0 s'.n0 s'.c0, .slice s'.A1 s'.n1 s'.c1, .slice s'.A2 s'.n2 s'.c2, .slice s'.A3 s'.n3 s'.c3, .int .i64 (L : Int), .int .i64 (a : Int), .int .i64 0, .slice B' ps.length d']).heap.size) := Lib.hid (World.block_lt_of_cell? _ _ (HRX.out 0 _ rfl))
                generalize wq19.setCells bx 0 [.int .u8 5, .int .i64 0, .int .i64 1, .int .i64 2, .int .i64 4, .int .i64 0, .int .i64 0, .int .i64 0, .bool false, .slice none 0 0, .int .i64 i, .int .i64 t, .slice s'.A0 s'.n0 s'.c0, .slice s'.A1 s'.n1 s'.c1, .slice s'.A2 s'.n2 s'.c2, .slice s'.A3 s'.n3 s'.c3, .int .i64 (L : Int), .int .i64 (a : Int), .int .i64 0, .slice B' ps.length d'] = wX at *
                refine HK.out.out _ _ HRM.out (fun hJ => ?_)
                clear hJ HK K
                try go_frame
                refine wpAnyH_take (i := 10) (v := ?vp10u23) rfl (by kernel_rfl) (by kernel_rfl) (by kernel_rfl) (fun _ _ _ h => h) (Or.inl ⟨by rfl, ?hyp10u23⟩) (by exact HRM.out) ?restp10u23
                case hyp10u23 => ((intro w hSw); clear hSw; go_simp; (try with_reducible rfl))
                try go_frame
                refine wpAnyH_done (by kernel_rfl) ?_ _
                go_simp
                first | (refine Met.intro ?_; refine hK1 _ _ (Met.intro ?_)) | refine hK1 _ _ (Met.intro ?_)
                exact HJ0.out _ _ ⟨_, _, _, _, _, _, _, _, _, _, ⟨bx, s', B', d', rfl, rfl, HRX.out, HFX.out, HCX.out, HNX.out, HGB.out, HBZ.out, HOX.out, HEX.out⟩, rfl⟩
            case rest =>
              obtain ⟨bx, s', B', d', rfl, rfl, hrx, hfx, hcx, hnx, hgb, hbz, hox, hex⟩ := hcut
              have HEX := Lib.hid hex
              have HRX := Lib.hid hrx
              have HFX := Lib.hid hfx
              have HCX := Lib.hid hcx
              have HNX := Lib.hid hnx
              have HGB := Lib.hid hgb
              have HBZ := Lib.hid hbz
              have HOX := Lib.hid hox
              clear hrx hfx hcx hnx hgb hbz hox hex
              have hcS := HOX.out.cell HCS.out
              by_cases hm : y.tmod 5 = 4
              · have dm : decide (y.tmod 5 = 4) = true := decide_eq_true hm
                by_cases ha0 : 0 < a
                · have da : decide (0 < a) = true := decide_eq_true ha0
                  have da' : decide ((0 : Int) < (a : Int)) = true := decide_eq_true (by omega)
                  have hx4 := HRX.out 4 _ rfl
                  have hxf := HFX.out 4
                  go_upto_region 17 with fail
                  rename_i K17 hK17
                  have HK17 := Lib.hid hK17
                  clear hK17
                  clear hx4 hxf da da' dm hcS
                  have HRX' := Lib.hid (range_set HRX.out 4 (.int .i64 9) (by simp))
                  have HCX' := Lib.hid (HEX.out (.int .i64 9))
                  have HOX' := Lib.hid (Below.setCell HOX.out (p := ⟨bx, 4, none⟩) HGB.out (.int .i64 9))
                  clear HRX HCX HNX HOX HEX HFX HBZ
                  generalize wc.setCell ⟨bx, 4, none⟩ (.int .i64 9) = wy at *
                  have HRX : Hid (wy.rangeAt bx 0 [.int .u8 5, .int .i64 0, .int .i64 1, .int .i64 2, .int .i64 9, .int .i64 0, .int .i64 0, .int .i64 0, .bool false, .slice none 0 0, .int .i64 i, .int .i64 t, .slice s'.A0 s'.n0 s'.c0, .slice s'.A1 s'.n1 s'.c1, .slice s'.A2 s'.n2 s'.c2, .slice s'.A3 s'.n3 s'.c3, .int .i64 (L : Int), .int .i64 (a : Int), .int .i64 0, .slice B' ps.length d']) := HRX'
                  have HCX := Lib.hid HCX'.out.1
                  have HNX := Lib.hid HCX'.out.2
                  have HOX : Hid (Ok wr wy) := HOX'
                  clear HRX' HCX' HOX'
                  refine wp_region_lit ?_
                  refine wpList_step (fun K hK => ?_)
                  rw [if_pos (by rfl)]
                  go_simp
                  refine hK _ _ ?_
                  clear hK K
                  try go_frame
                  refine wpList_load_w (by rfl) 80 (.tmp 12) rfl bx 0 rfl [.int .u8 5, .int .i64 0, .int .i64 1, .int .i64 2, .int .i64 9, .int .i64 0, .int .i64 0, .int .i64 0, .bool false, .slice none 0 0, .int .i64 i, .int .i64 t, .slice s'.A0 s'.n0 s'.c0, .slice s'.A1 s'.n1 s'.c1, .slice s'.A2 s'.n2 s'.c2, .slice s'.A3 s'.n3 s'.c3, .int .i64 (L : Int), .int .i64 (a : Int), .int .i64 0, .slice B' ps.length d'] d80 HRX.out HD.out.1 HD.out.2 info80 ?_
                  try go_frame
                  refine wpList_step (fun K hK => ?_)
                  rw [if_pos (by rfl)]
                  go_simp
                  (with_reducible refine (take_any W1 wr wy p HP.out 9 i t s' cf L was a ps.length d' B' bs ps HL.out HPS.out rfl hb1 (by omega) hwL (.inr ⟨rfl, ha0⟩) HOK.out HFS.out HOX.out HCX.out HNX.out l0 l1 l2 l3).mono ?_)
                  rintro _ wq ⟨now, wh, i', t', s2, A2, m2, c2, nw, rfl, h0, hf, hh⟩
                  have HQ0 := Lib.hid h0
                  have HQF := Lib.hid hf
                  have HQH := Lib.hid hh
                  clear h0 hf hh
                  refine hK _ _ ?_
                  clear hK K
                  try go_frame
                  refine wpList_step (fun K hK => ?_)
                  rw [if_pos (by rfl)]
                  go_simp
                  refine hK _ _ ?_
                  clear hK K
                  try go_frame
                  refine wpList_step (fun K hK => ?_)
                  rw [if_pos (by rfl)]
                  go_simp
                  refine hK _ _ ?_
                  clear hK K
                  try go_frame
                  refine wpList_step (fun K hK => ?_)
                  rw [if_pos (by rfl)]
                  go_simp
                  refine hK _ _ ?_
                  clear hK K
                  try go_frame
                  refine wpList_step (fun K hK => ?_)
                  rw [if_pos (by rfl)]
                  go_simp
                  refine hK _ _ ?_
                  clear hK K
                  try go_frame
                  have HTH : Hid ((wq.alloc (.cells #[.int .i64 0, .int .i64 0, .slice none 0 0, .slice none 0 0, .slice none 0 0, .slice none 0 0, .slice none 0 0] 75)).there wq.heap.size 0 7) := Lib.hid (there_new wq #[.int .i64 0, .int .i64 0, .slice none 0 0, .slice none 0 0, .slice none 0 0, .slice none 0 0, .slice none 0 0] 75)
                  obtain ⟨bz, hbz⟩ : ∃ bz, wq.heap.size = bz := ⟨_, rfl⟩
                  have HFIN := Lib.hid (taken_new W1 wr wy wq p i t L bs cf 9 was a bx bz hbz [.int .u8 5, .int .i64 0, .int .i64 1, .int .i64 2, .int .i64 9, .int .i64 0, .int .i64 0, .int .i64 0, .bool false, .slice none 0 0, .int .i64 i, .int .i64 t, .slice s'.A0 s'.n0 s'.c0, .slice s'.A1 s'.n1 s'.c1, .slice s'.A2 s'.n2 s'.c2, .slice s'.A3 s'.n3 s'.c3, .int .i64 (L : Int), .int .i64 (a : Int), .int .i64 0, .slice B' ps.length d'] now wh i' t' s2 A2 m2 c2 nw (by have := HAL.out; omega) l0 l1 l2 l3 HGB.out HRX.out HQ0.out HQF.out HQH.out)
                  refine wpList_step (fun K hK => ?_)
                  rw [if_pos (by rfl)]
                  go_simp
                  refine hK _ _ ?_
                  clear hK K
                  try go_frame
                  rw [hbz] at HTH
                  clear hbz HQ0 HQF HQH
                  generalize wq.alloc (.cells #[.int .i64 0, .int .i64 0, .slice none 0 0, .slice none 0 0, .slice none 0 0, .slice none 0 0, .slice none 0 0] 75) = wz at *
                  refine wpList_step (fun K hK => ?_)
                  rw [if_pos (by rfl)]
                  go_simp
                  refine hK _ _ ?_
                  clear hK K
                  try go_frame
                  refine wpList_step (fun K hK => ?_)
                  rw [if_pos (by rfl)]
                  go_simp
                  refine hK _ _ ?_
                  clear hK K
                  try go_frame
                  refine wpList_store_mid rfl 75 (.tmp 16) (.tmp 84) rfl bz 0 #[.int .i64 i', .int .i64 t', .slice s2.A0 s2.n0 s2.c0, .slice s2.A1 s2.n1 s2.c1, .slice s2.A2 s2.n2 s2.c2, .slice s2.A3 s2.n3 s2.c3, .slice A2 m2 c2] rfl rfl HTH.out info75 (by simp [Value.oneCell']) ?_
                  have HT : Hid (TakR W1 p i t L bs cf 9 was a bx [.int .u8 5, .int .i64 0, .int .i64 1, .int .i64 2, .int .i64 9, .int .i64 0, .int .i64 0, .int .i64 0, .bool false, .slice none 0 0, .int .i64 i, .int .i64 t, .slice s'.A0 s'.n0 s'.c0, .slice s'.A1 s'.n1 s'.c1, .slice s'.A2 s'.n2 s'.c2, .slice s'.A3 s'.n3 s'.c3, .int .i64 (L : Int), .int .i64 (a : Int), .int .i64 0, .slice B' ps.length d'] (.int .i64 (now : Int)) (.bool wh) (.pointer (some ⟨bz, 0, none⟩)) (wz.setCells bz 0 [.int .i64 i', .int .i64 t', .slice s2.A0 s2.n0 s2.c0, .slice s2.A1 s2.n1 s2.c1, .slice s2.A2 s2.n2 s2.c2, .slice s2.A3 s2.n3 s2.c3, .slice A2 m2 c2])) := HFIN
                  clear HFIN HTH
                  generalize wz.setCells bz 0 [.int .i64 i', .int .i64 t', .slice s2.A0 s2.n0 s2.c0, .slice s2.A1 s2.n1 s2.c1, .slice s2.A2 s2.n2 s2.c2, .slice s2.A3 s2.n3 s2.c3, .slice A2 m2 c2] = wX at *
                  clear HRX HCX HNX HOX
                  try go_frame
                  refine wpList_nil ?_
                  refine HK17.out _ _ ?_
                  clear HK17
                  obtain ⟨now', wh', bz', i'', t'', s3, A3, m3, c3, nw', e1, e2, e3, hok2, hx2, hz2, hf2, hh⟩ := HT.out
                  clear HT
                  simp only [Value.int.injEq, true_and, Int.natCast_inj, Value.bool.injEq, Value.pointer.injEq, Option.some.injEq, Addr.mk.injEq, and_true] at e1 e2 e3
                  subst e1 e2 e3
                  have HOK2 := Lib.hid hok2
                  have HX2 := Lib.hid hx2
                  have HZ2 := Lib.hid hz2
                  have HF2 := Lib.hid hf2
                  clear hok2 hx2 hz2 hf2
                  rcases hh with ⟨rfl, hn1, hn2, hn3⟩ | ⟨rfl, e2, e3, e4, e5, e6, hcc, hbb, -, e9⟩
                  · have d6 : decide ((L : Int) < (now : Int)) = false := decide_eq_false (by omega)
                    have d6' : decide (L < now) = false := decide_eq_false (by omega)
                    have hx4 := HX2.out 4 _ rfl
                    obtain hnow : nw' = was := by rcases hn3 with ⟨h, _⟩ | ⟨_, h⟩; omega; exact h
                    clear hn3
                    go_wp2_with fail
                    refine ⟨⟨nw', k + 1, hn2, hlt, by first | rfl | rw [hnow], by go_num, HOK2.out, HF2.out⟩, ?_⟩
                    show n2 - ((k : Int) + 1).toNat < n2 - (k : Int).toNat
                    omega
                  · exact absurd e9 (by decide)
                · have da : decide (0 < a) = false := decide_eq_false ha0
                  have da' : decide ((0 : Int) < (a : Int)) = false := decide_eq_false (by omega)
                  go_upto_region 17 with fail
                  rename_i K17 hK17
                  have HK17 := Lib.hid hK17
                  clear hK17
                  clear da da' dm hcS HEX HFX HBZ
                  refine wp_region_lit ?_
                  refine wpList_step (fun K hK => ?_)
                  rw [if_pos (by rfl)]
                  go_simp
                  refine hK _ _ ?_
                  clear hK K
                  try go_frame
                  refine wpList_load_w (by rfl) 80 (.tmp 12) rfl bx 0 rfl [.int .u8 5, .int .i64 0, .int .i64 1, .int .i64 2, .int .i64 4, .int .i64 0, .int .i64 0, .int .i64 0, .bool false, .slice none 0 0, .int .i64 i, .int .i64 t, .slice s'.A0 s'.n0 s'.c0, .slice s'.A1 s'.n1 s'.c1, .slice s'.A2 s'.n2 s'.c2, .slice s'.A3 s'.n3 s'.c3, .int .i64 (L : Int), .int .i64 (a : Int), .int .i64 0, .slice B' ps.length d'] d80 HRX.out HD.out.1 HD.out.2 info80 ?_
                  try go_frame
                  refine wpList_step (fun K hK => ?_)
                  rw [if_pos (by rfl)]
                  go_simp
                  (with_reducible refine (take_any W1 wr wc p HP.out 4 i t s' cf L was a ps.length d' B' bs ps HL.out HPS.out rfl hb1 (by omega) hwL (.inl rfl) HOK.out HFS.out HOX.out HCX.out HNX.out l0 l1 l2 l3).mono ?_)
                  rintro _ wq ⟨now, wh, i', t', s2, A2, m2, c2, nw, rfl, h0, hf, hh⟩
                  have HQ0 := Lib.hid h0
                  have HQF := Lib.hid hf
                  have HQH := Lib.hid hh
                  clear h0 hf hh
                  refine hK _ _ ?_
                  clear hK K
                  try go_frame
                  refine wpList_step (fun K hK => ?_)
                  rw [if_pos (by rfl)]
                  go_simp
                  refine hK _ _ ?_
                  clear hK K
                  try go_frame
                  refine wpList_step (fun K hK => ?_)
                  rw [if_pos (by rfl)]
                  go_simp
                  refine hK _ _ ?_
                  clear hK K
                  try go_frame
                  refine wpList_step (fun K hK => ?_)
                  rw [if_pos (by rfl)]
                  go_simp
                  refine hK _ _ ?_
                  clear hK K
                  try go_frame
                  refine wpList_step (fun K hK => ?_)
                  rw [if_pos (by rfl)]
                  go_simp
                  refine hK _ _ ?_
                  clear hK K
                  try go_frame
                  have HTH : Hid ((wq.alloc (.cells #[.int .i64 0, .int .i64 0, .slice none 0 0, .slice none 0 0, .slice none 0 0, .slice none 0 0, .slice none 0 0] 75)).there wq.heap.size 0 7) := Lib.hid (there_new wq #[.int .i64 0, .int .i64 0, .slice none 0 0, .slice none 0 0, .slice none 0 0, .slice none 0 0, .slice none 0 0] 75)
                  obtain ⟨bz, hbz⟩ : ∃ bz, wq.heap.size = bz := ⟨_, rfl⟩
                  have HFIN := Lib.hid (taken_new W1 wr wc wq p i t L bs cf 4 was a bx bz hbz [.int .u8 5, .int .i64 0, .int .i64 1, .int .i64 2, .int .i64 4, .int .i64 0, .int .i64 0, .int .i64 0, .bool false, .slice none 0 0, .int .i64 i, .int .i64 t, .slice s'.A0 s'.n0 s'.c0, .slice s'.A1 s'.n1 s'.c1, .slice s'.A2 s'.n2 s'.c2, .slice s'.A3 s'.n3 s'.c3, .int .i64 (L : Int), .int .i64 (a : Int), .int .i64 0, .slice B' ps.length d'] now wh i' t' s2 A2 m2 c2 nw (by have := HAL.out; omega) l0 l1 l2 l3 HGB.out HRX.out HQ0.out HQF.out HQH.out)
                  refine wpList_step (fun K hK => ?_)
                  rw [if_pos (by rfl)]
                  go_simp
                  refine hK _ _ ?_
                  clear hK K
                  try go_frame
                  rw [hbz] at HTH
                  clear hbz HQ0 HQF HQH
                  generalize wq.alloc (.cells #[.int .i64 0, .int .i64 0, .slice none 0 0, .slice none 0 0, .slice none 0 0, .slice none 0 0, .slice none 0 0] 75) = wz at *
                  refine wpList_step (fun K hK => ?_)
                  rw [if_pos (by rfl)]
                  go_simp
                  refine hK _ _ ?_
                  clear hK K
                  try go_frame
                  refine wpList_step (fun K hK => ?_)
                  rw [if_pos (by rfl)]
                  go_simp
                  refine hK _ _ ?_
                  clear hK K
                  try go_frame
                  refine wpList_store_mid rfl 75 (.tmp 16) (.tmp 84) rfl bz 0 #[.int .i64 i', .int .i64 t', .slice s2.A0 s2.n0 s2.c0, .slice s2.A1 s2.n1 s2.c1, .slice s2.A2 s2.n2 s2.c2, .slice s2.A3 s2.n3 s2.c3, .slice A2 m2 c2] rfl rfl HTH.out info75 (by simp [Value.oneCell']) ?_
                  have HT : Hid (TakR W1 p i t L bs cf 4 was a bx [.int .u8 5, .int .i64 0, .int .i64 1, .int .i64 2, .int .i64 4, .int .i64 0, .int .i64 0, .int .i64 0, .bool false, .slice none 0 0, .int .i64 i, .int .i64 t, .slice s'.A0 s'.n0 s'.c0, .slice s'.A1 s'.n1 s'.c1, .slice s'.A2 s'.n2 s'.c2, .slice s'.A3 s'.n3 s'.c3, .int .i64 (L : Int), .int .i64 (a : Int), .int .i64 0, .slice B' ps.length d'] (.int .i64 (now : Int)) (.bool wh) (.pointer (some ⟨bz, 0, none⟩)) (wz.setCells bz 0 [.int .i64 i', .int .i64 t', .slice s2.A0 s2.n0 s2.c0, .slice s2.A1 s2.n1 s2.c1, .slice s2.A2 s2.n2 s2.c2, .slice s2.A3 s2.n3 s2.c3, .slice A2 m2 c2])) := HFIN
                  clear HFIN HTH
                  generalize wz.setCells bz 0 [.int .i64 i', .int .i64 t', .slice s2.A0 s2.n0 s2.c0, .slice s2.A1 s2.n1 s2.c1, .slice s2.A2 s2.n2 s2.c2, .slice s2.A3 s2.n3 s2.c3, .slice A2 m2 c2] = wX at *
                  clear HRX HCX HNX HOX
                  try go_frame
                  refine wpList_nil ?_
                  refine HK17.out _ _ ?_
                  clear HK17
                  obtain ⟨now', wh', bz', i'', t'', s3, A3, m3, c3, nw', e1, e2, e3, hok2, hx2, hz2, hf2, hh⟩ := HT.out
                  clear HT
                  simp only [Value.int.injEq, true_and, Int.natCast_inj, Value.bool.injEq, Value.pointer.injEq, Option.some.injEq, Addr.mk.injEq, and_true] at e1 e2 e3
                  subst e1 e2 e3
                  have HOK2 := Lib.hid hok2
                  have HX2 := Lib.hid hx2
                  have HZ2 := Lib.hid hz2
                  have HF2 := Lib.hid hf2
                  clear hok2 hx2 hz2 hf2
                  rcases hh with ⟨rfl, hn1, hn2, hn3⟩ | ⟨rfl, e2, e3, e4, e5, e6, hcc, hbb, -, e9⟩
                  · have d6 : decide ((L : Int) < (now : Int)) = false := decide_eq_false (by omega)
                    have d6' : decide (L < now) = false := decide_eq_false (by omega)
                    have hx4 := HX2.out 4 _ rfl
                    obtain ⟨-, hnow, hwn, -, -⟩ : now = nw' ∧ now = nw' ∧ was ≤ nw' ∧ True ∧ True := by rcases hn3 with ⟨_, h1, h2, _⟩ | ⟨h, _⟩; exact ⟨h1, h1, h2, trivial, trivial⟩; omega
                    have d5 : decide ((now : Int) < (was : Int)) = false := decide_eq_false (by omega)
                    have d5' : decide (now < was) = false := decide_eq_false (by omega)
                    clear hn3
                    go_wp2_with fail
                    refine ⟨⟨nw', k + 1, hn2, hlt, by first | rfl | rw [hnow], by go_num, HOK2.out, HF2.out⟩, ?_⟩
                    show n2 - ((k : Int) + 1).toNat < n2 - (k : Int).toNat
                    omega
                  · obtain rfl := e2.symm
                    obtain rfl := e3.symm
                    obtain rfl := e4.symm
                    obtain rfl := e5.symm
                    obtain rfl := e6.symm
                    clear e9
                    have HCC := Lib.hid hcc
                    have HBB := Lib.hid hbb
                    have HRm := Lib.hid (HRR.out _ HOK2.out)
                    have HMm := Lib.hid (HMM.out _ HOK2.out)
                    clear hcc hbb
                    go_upto_region 19 with fail
                    rename_i K19 hK19
                    have HK19 := Lib.hid hK19
                    clear hK19
                    refine wp_region_lit ?_
                    refine wpList_step (fun K hK => ?_)
                    rw [if_pos (by rfl)]
                    go_simp
                    refine hK _ _ ?_
                    clear hK K
                    try go_frame
                    refine wpList_step (fun K hK => ?_)
                    rw [if_pos (by rfl)]
                    go_simp
                    refine hK _ _ ?_
                    clear hK K
                    try go_frame
                    refine wpList_step (fun K hK => ?_)
                    rw [if_pos (by rfl)]
                    go_simp
                    refine hK _ _ ?_
                    clear hK K
                    try go_frame
                    refine wpList_step (fun K hK => ?_)
                    rw [if_pos (by rfl)]
                    go_simp
                    refine hK _ _ ?_
                    clear hK K
                    try go_frame
                    refine wpList_step (fun K hK => ?_)
                    rw [if_pos (by rfl)]
                    go_simp
                    refine hK _ _ ?_
                    clear hK K
                    try go_frame
                    refine wpList_load_w (by rfl) 75 (.tmp 16) rfl bz 0 rfl [.int .i64 i, .int .i64 t, .slice s3.A0 s3.n0 s3.c0, .slice s3.A1 s3.n1 s3.c1, .slice s3.A2 s3.n2 s3.c2, .slice s3.A3 s3.n3 s3.c3, .slice A3 L c3] d75 HZ2.out HD75.out.1 HD75.out.2 info75 ?_
                    try go_frame
                    refine wpList_load_w (by rfl) 75 (.tmp 7) rfl g 0 rfl [.int .i64 i, .int .i64 t, .slice s.A0 s.n0 s.c0, .slice s.A1 s.n1 s.c1, .slice s.A2 s.n2 s.c2, .slice s.A3 s.n3 s.c3, .slice Ab L cb] d75 HRm.out HD75.out.1 HD75.out.2 info75 ?_
                    try go_frame
                    refine wpList_step (fun K hK => ?_)
                    rw [if_pos (by rfl)]
                    go_simp
                    (with_reducible refine (sameImage_f i t s3 s cf A3 Ab L L c3 cb bs wX HCC.out HMm.out.1 HBB.out HMm.out.2).mono ?_)
                    rintro _ w8 ⟨rfl, ok8⟩
                    refine hK _ _ ?_
                    clear hK K
                    try go_frame
                    refine wpList_step (fun K hK => ?_)
                    rw [if_pos (by rfl)]
                    go_simp
                    refine hK _ _ ?_
                    clear hK K
                    try go_frame
                    refine wpList_step (fun K hK => ?_)
                    rw [if_pos (by rfl)]
                    go_simp
                    refine hK _ _ ?_
                    clear hK K
                    try go_frame
                    refine wpList_nil ?_
                    refine HK19.out _ _ ?_
                    clear HK19
                    go_wp2_with fail
                    refine ⟨⟨0, k + 1, Nat.zero_le _, hlt, by first | rfl | go_num, by go_num, HOK2.out.trans ok8, HF2.out.ok ok8⟩, ?_⟩
                    show n2 - ((k : Int) + 1).toNat < n2 - (k : Int).toNat
                    omega
              · have dm : decide (y.tmod 5 = 4) = false := decide_eq_false hm
                go_upto_region 17 with fail
                rename_i K17 hK17
                have HK17 := Lib.hid hK17
                clear hK17
                clear dm hcS HEX HFX HBZ
                refine wp_region_lit ?_
                refine wpList_step (fun K hK => ?_)
                rw [if_pos (by rfl)]
                go_simp
                refine hK _ _ ?_
                clear hK K
                try go_frame
                refine wpList_load_w (by rfl) 80 (.tmp 12) rfl bx 0 rfl [.int .u8 5, .int .i64 0, .int .i64 1, .int .i64 2, .int .i64 4, .int .i64 0, .int .i64 0, .int .i64 0, .bool false, .slice none 0 0, .int .i64 i, .int .i64 t, .slice s'.A0 s'.n0 s'.c0, .slice s'.A1 s'.n1 s'.c1, .slice s'.A2 s'.n2 s'.c2, .slice s'.A3 s'.n3 s'.c3, .int .i64 (L : Int), .int .i64 (a : Int), .int .i64 0, .slice B' ps.length d'] d80 HRX.out HD.out.1 HD.out.2 info80 ?_
                try go_frame
                refine wpList_step (fun K hK => ?_)
                rw [if_pos (by rfl)]
                go_simp
                (with_reducible refine (take_any W1 wr wc p HP.out 4 i t s' cf L was a ps.length d' B' bs ps HL.out HPS.out rfl hb1 (by omega) hwL (.inl rfl) HOK.out HFS.out HOX.out HCX.out HNX.out l0 l1 l2 l3).mono ?_)
                rintro _ wq ⟨now, wh, i', t', s2, A2, m2, c2, nw, rfl, h0, hf, hh⟩
                have HQ0 := Lib.hid h0
                have HQF := Lib.hid hf
                have HQH := Lib.hid hh
                clear h0 hf hh
                refine hK _ _ ?_
                clear hK K
                try go_frame
                refine wpList_step (fun K hK => ?_)
                rw [if_pos (by rfl)]
                go_simp
                refine hK _ _ ?_
                clear hK K
                try go_frame
                refine wpList_step (fun K hK => ?_)
                rw [if_pos (by rfl)]
                go_simp
                refine hK _ _ ?_
                clear hK K
                try go_frame
                refine wpList_step (fun K hK => ?_)
                rw [if_pos (by rfl)]
                go_simp
                refine hK _ _ ?_
                clear hK K
                try go_frame
                refine wpList_step (fun K hK => ?_)
                rw [if_pos (by rfl)]
                go_simp
                refine hK _ _ ?_
                clear hK K
                try go_frame
                have HTH : Hid ((wq.alloc (.cells #[.int .i64 0, .int .i64 0, .slice none 0 0, .slice none 0 0, .slice none 0 0, .slice none 0 0, .slice none 0 0] 75)).there wq.heap.size 0 7) := Lib.hid (there_new wq #[.int .i64 0, .int .i64 0, .slice none 0 0, .slice none 0 0, .slice none 0 0, .slice none 0 0, .slice none 0 0] 75)
                obtain ⟨bz, hbz⟩ : ∃ bz, wq.heap.size = bz := ⟨_, rfl⟩
                have HFIN := Lib.hid (taken_new W1 wr wc wq p i t L bs cf 4 was a bx bz hbz [.int .u8 5, .int .i64 0, .int .i64 1, .int .i64 2, .int .i64 4, .int .i64 0, .int .i64 0, .int .i64 0, .bool false, .slice none 0 0, .int .i64 i, .int .i64 t, .slice s'.A0 s'.n0 s'.c0, .slice s'.A1 s'.n1 s'.c1, .slice s'.A2 s'.n2 s'.c2, .slice s'.A3 s'.n3 s'.c3, .int .i64 (L : Int), .int .i64 (a : Int), .int .i64 0, .slice B' ps.length d'] now wh i' t' s2 A2 m2 c2 nw (by have := HAL.out; omega) l0 l1 l2 l3 HGB.out HRX.out HQ0.out HQF.out HQH.out)
                refine wpList_step (fun K hK => ?_)
                rw [if_pos (by rfl)]
                go_simp
                refine hK _ _ ?_
                clear hK K
                try go_frame
                rw [hbz] at HTH
                clear hbz HQ0 HQF HQH
                generalize wq.alloc (.cells #[.int .i64 0, .int .i64 0, .slice none 0 0, .slice none 0 0, .slice none 0 0, .slice none 0 0, .slice none 0 0] 75) = wz at *
                refine wpList_step (fun K hK => ?_)
                rw [if_pos (by rfl)]
                go_simp
                refine hK _ _ ?_
                clear hK K
                try go_frame
                refine wpList_step (fun K hK => ?_)
                rw [if_pos (by rfl)]
                go_simp
                refine hK _ _ ?_
                clear hK K
                try go_frame
                refine wpList_store_mid rfl 75 (.tmp 16) (.tmp 84) rfl bz 0 #[.int .i64 i', .int .i64 t', .slice s2.A0 s2.n0 s2.c0, .slice s2.A1 s2.n1 s2.c1, .slice s2.A2 s2.n2 s2.c2, .slice s2.A3 s2.n3 s2.c3, .slice A2 m2 c2] rfl rfl HTH.out info75 (by simp [Value.oneCell']) ?_
                have HT : Hid (TakR W1 p i t L bs cf 4 was a bx [.int .u8 5, .int .i64 0, .int .i64 1, .int .i64 2, .int .i64 4, .int .i64 0, .int .i64 0, .int .i64 0, .bool false, .slice none 0 0, .int .i64 i, .int .i64 t, .slice s'.A0 s'.n0 s'.c0, .slice s'.A1 s'.n1 s'.c1, .slice s'.A2 s'.n2 s'.c2, .slice s'.A3 s'.n3 s'.c3, .int .i64 (L : Int), .int .i64 (a : Int), .int .i64 0, .slice B' ps.length d'] (.int .i64 (now : Int)) (.bool wh) (.pointer (some ⟨bz, 0, none⟩)) (wz.setCells bz 0 [.int .i64 i', .int .i64 t', .slice s2.A0 s2.n0 s2.c0, .slice s2.A1 s2.n1 s2.c1, .slice s2.A2 s2.n2 s2.c2, .slice s2.A3 s2.n3 s2.c3, .slice A2 m2 c2])) := HFIN
                clear HFIN HTH
                generalize wz.setCells bz 0 [.int .i64 i', .int .i64 t', .slice s2.A0 s2.n0 s2.c0, .slice s2.A1 s2.n1 s2.c1, .slice s2.A2 s2.n2 s2.c2, .slice s2.A3 s2.n3 s2.c3, .slice A2 m2 c2] = wX at *
                clear HRX HCX HNX HOX
                try go_frame
                refine wpList_nil ?_
                refine HK17.out _ _ ?_
                clear HK17
                obtain ⟨now', wh', bz', i'', t'', s3, A3, m3, c3, nw', e1, e2, e3, hok2, hx2, hz2, hf2, hh⟩ := HT.out
                clear HT
                simp only [Value.int.injEq, true_and, Int.natCast_inj, Value.bool.injEq, Value.pointer.injEq, Option.some.injEq, Addr.mk.injEq, and_true] at e1 e2 e3
                subst e1 e2 e3
                have HOK2 := Lib.hid hok2
                have HX2 := Lib.hid hx2
                have HZ2 := Lib.hid hz2
                have HF2 := Lib.hid hf2
                clear hok2 hx2 hz2 hf2
                rcases hh with ⟨rfl, hn1, hn2, hn3⟩ | ⟨rfl, e2, e3, e4, e5, e6, hcc, hbb, -, e9⟩
                · have d6 : decide ((L : Int) < (now : Int)) = false := decide_eq_false (by omega)
                  have d6' : decide (L < now) = false := decide_eq_false (by omega)
                  have hx4 := HX2.out 4 _ rfl
                  obtain ⟨-, hnow, hwn, -, -⟩ : now = nw' ∧ now = nw' ∧ was ≤ nw' ∧ True ∧ True := by rcases hn3 with ⟨_, h1, h2, _⟩ | ⟨h, _⟩; exact ⟨h1, h1, h2, trivial, trivial⟩; omega
                  have d5 : decide ((now : Int) < (was : Int)) = false := decide_eq_false (by omega)
                  have d5' : decide (now < was) = false := decide_eq_false (by omega)
                  clear hn3
                  go_wp2_with fail
                  refine ⟨⟨nw', k + 1, hn2, hlt, by first | rfl | rw [hnow], by go_num, HOK2.out, HF2.out⟩, ?_⟩
                  show n2 - ((k : Int) + 1).toNat < n2 - (k : Int).toNat
                  omega
                · obtain rfl := e2.symm
                  obtain rfl := e3.symm
                  obtain rfl := e4.symm
                  obtain rfl := e5.symm
                  obtain rfl := e6.symm
                  clear e9
                  have HCC := Lib.hid hcc
                  have HBB := Lib.hid hbb
                  have HRm := Lib.hid (HRR.out _ HOK2.out)
                  have HMm := Lib.hid (HMM.out _ HOK2.out)
                  clear hcc hbb
                  go_upto_region 19 with fail
                  rename_i K19 hK19
                  have HK19 := Lib.hid hK19
                  clear hK19
                  refine wp_region_lit ?_
                  refine wpList_step (fun K hK => ?_)
                  rw [if_pos (by rfl)]
                  go_simp
                  refine hK _ _ ?_
                  clear hK K
                  try go_frame
                  refine wpList_step (fun K hK => ?_)
                  rw [if_pos (by rfl)]
                  go_simp
                  refine hK _ _ ?_
                  clear hK K
                  try go_frame
                  refine wpList_step (fun K hK => ?_)
                  rw [if_pos (by rfl)]
                  go_simp
                  refine hK _ _ ?_
                  clear hK K
                  try go_frame
                  refine wpList_step (fun K hK => ?_)
                  rw [if_pos (by rfl)]
                  go_simp
                  refine hK _ _ ?_
                  clear hK K
                  try go_frame
                  refine wpList_step (fun K hK => ?_)
                  rw [if_pos (by rfl)]
                  go_simp
                  refine hK _ _ ?_
                  clear hK K
                  try go_frame
                  refine wpList_load_w (by rfl) 75 (.tmp 16) rfl bz 0 rfl [.int .i64 i, .int .i64 t, .slice s3.A0 s3.n0 s3.c0, .slice s3.A1 s3.n1 s3.c1, .slice s3.A2 s3.n2 s3.c2, .slice s3.A3 s3.n3 s3.c3, .slice A3 L c3] d75 HZ2.out HD75.out.1 HD75.out.2 info75 ?_
                  try go_frame
                  refine wpList_load_w (by rfl) 75 (.tmp 7) rfl g 0 rfl [.int .i64 i, .int .i64 t, .slice s.A0 s.n0 s.c0, .slice s.A1 s.n1 s.c1, .slice s.A2 s.n2 s.c2, .slice s.A3 s.n3 s.c3, .slice Ab L cb] d75 HRm.out HD75.out.1 HD75.out.2 info75 ?_
                  try go_frame
                  refine wpList_step (fun K hK => ?_)
                  rw [if_pos (by rfl)]
                  go_simp
                  (with_reducible refine (sameImage_f i t s3 s cf A3 Ab L L c3 cb bs wX HCC.out HMm.out.1 HBB.out HMm.out.2).mono ?_)
                  rintro _ w8 ⟨rfl, ok8⟩
                  refine hK _ _ ?_
                  clear hK K
                  try go_frame
                  refine wpList_step (fun K hK => ?_)
                  rw [if_pos (by rfl)]
                  go_simp
                  refine hK _ _ ?_
                  clear hK K
                  try go_frame
                  refine wpList_step (fun K hK => ?_)
                  rw [if_pos (by rfl)]
                  go_simp
                  refine hK _ _ ?_
                  clear hK K
                  try go_frame
                  refine wpList_nil ?_
                  refine HK19.out _ _ ?_
                  clear HK19
                  go_wp2_with fail
                  refine ⟨⟨0, k + 1, Nat.zero_le _, hlt, by first | rfl | go_num, by go_num, HOK2.out.trans ok8, HF2.out.ok ok8⟩, ?_⟩
                  show n2 - ((k : Int) + 1).toNat < n2 - (k : Int).toNat
                  omega
          · have d1 : decide (k < n2) = false := decide_eq_false hlt
            have d1' : decide ((k : Int) < (n2 : Int)) = false := decide_eq_false (by omega)
            go_wp2_with fail
            obtain ⟨tm0, i0, t0, z0, u0, A0, m0, c0, xs0, hf0⟩ := HFS.out.any
            (with_reducible refine (drop_f p tm0 i0 t0 z0 u0 A0 m0 c0 xs0 wr hf0).mono ?_)
            rintro _ w5 ⟨rfl, hf5, hr5⟩
            have HOK5 : Hid (Ok W1 w5) := Lib.hid (Below.trans HOK.out (hr5.below hf0 (Nat.le_of_eq HP.out)))
            have HF5 : Hid (FS p i t L bs 0 w5) := Lib.hid (.inl ⟨rfl, hf5⟩)
            clear hf5 hr5 hf0 HOK HFS d1 d1'
            go_wp2_with fail
            go_loopw [17, 18] (fun b i' wr => ∃ k : Nat, 600 * k ≤ L ∧ b = .int .i64 ((600 * k : Nat) : Int) ∧ i' = .int .i64 k ∧ Ok W1 wr ∧ FS p i t L bs (600 * k) wr) (fun _ i' _ => L + 1 - (intOf i').toNat)
            case atStart => exact ⟨0, Nat.zero_le _, rfl, rfl, HOK5.out, HF5.out⟩
            case round =>
              obtain ⟨k, hkL, rfl, rfl, hok, hfs⟩ := hrel
              obtain ⟨was, hwas⟩ : ∃ was, 600 * k = was := ⟨_, rfl⟩
              rw [hwas] at hkL hfs ⊢
              have HWK := Lib.hid hwas
              have HOK := Lib.hid hok
              have HFS := Lib.hid hfs
              have hwL := hkL
              clear hok hfs hwas HOK5 HF5 hkL
              have hk7 : k ≤ 7 := by have := HWK.out; omega
              have d2 : decide ((k : Int) ≤ IntKind.i64.wrap (IntKind.i64.wrap ((L : Int) / 600) + 1)) = true := quo_ok L k hb1 (by have := HWK.out; omega)
              go_upto_region 29 with fail
              rename_i K29 hK29
              have HK29 := Lib.hid hK29
              clear hK29
              refine wp_region_lit ?_
              refine wpList_step (fun K hK => ?_)
              rw [if_pos (by rfl)]
              go_simp
              refine hK _ _ ?_
              clear hK K
              try go_frame
              refine wpList_step (fun K hK => ?_)
              rw [if_pos (by rfl)]
              go_simp
              refine hK _ _ ?_
              clear hK K
              try go_frame
              refine wpList_step (fun K hK => ?_)
              rw [if_pos (by rfl)]
              go_simp
              refine hK _ _ ?_
              clear hK K
              try go_frame
              refine wpList_step (fun K hK => ?_)
              rw [if_pos (by rfl)]
              go_simp
              refine hK _ _ ?_
              clear hK K
              try go_frame
              refine wpList_step (fun K hK => ?_)
              rw [if_pos (by rfl)]
              go_simp
              refine hK _ _ ?_
              clear hK K
              try go_frame
              refine wpList_step (fun K hK => ?_)
              rw [if_pos (by rfl)]
              go_simp
              refine hK _ _ ?_
              clear hK K
              try go_frame
              refine wpList_nil ?_
              refine HK29.out _ _ ?_
              clear HK29
              obtain ⟨ps, hps⟩ : ∃ ps, (bs.drop was).take 600 = ps := ⟨_, rfl⟩
              have HPS := Lib.hid hps
              have HAL : Hid (was ≤ bs.length ∧ bs.length ≤ 100000) := Lib.hid (by have := HL.out; omega)
              have HRw : Hid (wr.rangeAt g 0 [.int .i64 i, .int .i64 t, .slice s.A0 s.n0 s.c0, .slice s.A1 s.n1 s.c1, .slice s.A2 s.n2 s.c2, .slice s.A3 s.n3 s.c3, .slice Ab L cb]) := Lib.hid (HRR.out _ HOK.out)
              have HMw : Hid (∀ w', Ok wr w' → CfgAt w' s cf ∧ BytesIn w' (.slice Ab L cb) bs) := Lib.hid (fun w' k => HMM.out w' (HOK.out.trans k))
              have HBOX : Hid (g < wr.heap.size) := Lib.hid (by have := HGL.out; have := HP.out; have := HOK.out.size; omega)
              clear hps d2
              go_upto_region 31 with fail
              go_cut [19, 20] from 132 to 139 (fun x ok wx => PcR wr i t cf was L ps x ok wx)
              case first =>
                rename_i J0 K1 hJ0 hK1
                have HJ0 := Lib.hid hJ0
                clear hJ0
                refine wp_region_held_drew (S := fun v => v.rangeAt g 0 [.int .i64 i, .int .i64 t, .slice s.A0 s.n0 s.c0, .slice s.A1 s.n1 s.c1, .slice s.A2 s.n2 s.c2, .slice s.A3 s.n3 s.c3, .slice Ab L cb]) (by kernel_rfl) (fun j u hu => ((Ok.refl wr).drew).cell (HRw.out j u hu)) ?_
                intro hS
                have HOs : Hid (Ok wr wr.drew) := Lib.hid ((Ok.refl wr).drew)
                have HSs := Lib.hid hS
                clear hS
                generalize wr.drew = ws at *
                refine wpAnyH_take (i := 0) (v := _) rfl (by kernel_rfl) (by kernel_rfl) (by kernel_rfl) (fun _ _ _ h => h) (yieldsIf_load_mid ?hwp0u24 75 (.tmp 7) rfl g 0 rfl [.int .i64 i, .int .i64 t, .slice s.A0 s.n0 s.c0, .slice s.A1 s.n1 s.c1, .slice s.A2 s.n2 s.c2, .slice s.A3 s.n3 s.c3, .slice Ab L cb] d75 (fun v h => h) HD75.out.1 HD75.out.2 info75) HSs.out ?restp0u24
                case hwp0u24 => rfl
                try go_frame
                refine wpAnyH_take (i := 3) (v := _) rfl (by kernel_rfl) (by kernel_rfl) (by kernel_rfl) (fun _ _ _ h => h) (yieldsIf_load_mid ?hwp3u25 75 (.tmp 7) rfl g 0 rfl [.int .i64 i, .int .i64 t, .slice s.A0 s.n0 s.c0, .slice s.A1 s.n1 s.c1, .slice s.A2 s.n2 s.c2, .slice s.A3 s.n3 s.c3, .slice Ab L cb] d75 (fun v h => h) HD75.out.1 HD75.out.2 info75) HSs.out ?restp3u25
                case hwp3u25 => rfl
                try go_frame
                refine wpAnyH_take (i := 1) (v := ?vp1u26) rfl (by kernel_rfl) (by kernel_rfl) (by kernel_rfl) (fun _ _ _ h => h) (Or.inl ⟨by rfl, ?hyp1u26⟩) (by exact HSs.out) ?restp1u26
                case hyp1u26 => ((intro w hSw); clear hSw; go_simp; (try with_reducible rfl))
                try go_frame
                refine wpAnyH_ready (rs := [2, 8]) (by kernel_rfl) (by simp) (AllReadyH.cons rfl (fun K hK => ?_) (AllReadyH.cons rfl (fun K hK => ?_) AllReadyH.nil))
                · have HK := Lib.hid hK
                  clear hK
                  go_simp
                  (with_reducible refine (asks_f i t (was : Int) s L cb Ab ws).mono ?_)
                  rintro _ wq27 ⟨rfl, ok⟩
                  have HO27 : Hid (Ok wr wq27) := Lib.hid (HOs.out.trans ok)
                  have HV27 : Hid (wq27.rangeAt g 0 [.int .i64 i, .int .i64 t, .slice s.A0 s.n0 s.c0, .slice s.A1 s.n1 s.c1, .slice s.A2 s.n2 s.c2, .slice s.A3 s.n3 s.c3, .slice Ab L cb]) := Lib.hid (fun j u hu => ok.cell (HSs.out j u hu))
                  clear ok
                  refine HK.out.out _ _ HV27.out (fun hJ => ?_)
                  clear hJ HK K
                  try go_frame
                  refine wpAnyH_ready (rs := [4, 8]) (by kernel_rfl) (by simp) (AllReadyH.cons rfl (fun K hK => ?_) (AllReadyH.cons rfl (fun K hK => ?_) AllReadyH.nil))
                  · have HK := Lib.hid hK
                    clear hK
                    go_simp
                    (with_reducible refine (fill_z i t (was : Int) s cf Ab L cb was bs wq27 rfl (HMw.out _ HO27.out).1 (HMw.out _ HO27.out).2 (by have := HAL.out; omega) (by have := HAL.out; omega) l0 l1 l2 l3).mono ?_)
                    rintro _ wq28 ⟨s', B', d', rfl, hcf, hby, ok⟩
                    rw [HPS.out] at hby ⊢
                    rw [← HL.out]
                    have HO28 : Hid (Ok wr wq28) := Lib.hid (HO27.out.trans ok)
                    have HV28 : Hid (wq28.rangeAt g 0 [.int .i64 i, .int .i64 t, .slice s.A0 s.n0 s.c0, .slice s.A1 s.n1 s.c1, .slice s.A2 s.n2 s.c2, .slice s.A3 s.n3 s.c3, .slice Ab L cb]) := Lib.hid (fun j u hu => ok.cell (HV27.out j u hu))
                    have HCF := Lib.hid hcf
                    have HBY := Lib.hid hby
                    have HSZF : Hid (wr.heap.size ≤ wq27.heap.size) := Lib.hid HO27.out.size
                    clear ok hcf hby
                    refine HK.out.out _ _ HV28.out (fun hJ => ?_)
                    clear hJ HK K
                    try go_frame
                    refine wpAnyH_take (i := 5) (v := ?vp5u29) rfl (by kernel_rfl) (by kernel_rfl) (by kernel_rfl) (fun _ _ _ h => h) (Or.inl ⟨by rfl, ?hyp5u29⟩) (by exact HV28.out) ?restp5u29
                    case hyp5u29 => ((intro w hSw); clear hSw; go_simp; (try with_reducible rfl))
                    try go_frame
                    refine wpAnyH_take (i := 6) (v := ?vp6u30) rfl (by kernel_rfl) (by kernel_rfl) (by kernel_rfl) (fun _ _ _ h => h) (Or.inl ⟨by rfl, ?hyp6u30⟩) (by exact HV28.out) ?restp6u30
                    case hyp6u30 => ((intro w hSw); clear hSw; go_simp; (try with_reducible rfl))
                    try go_frame
                    refine wpAnyH_take (i := 7) (v := ?vp7u31) rfl (by kernel_rfl) (by kernel_rfl) (by kernel_rfl) (fun _ _ _ h => h) (Or.inl ⟨by rfl, ?hyp7u31⟩) (by exact HV28.out) ?restp7u31
                    case hyp7u31 => ((intro w hSw); clear hSw; go_simp; (try with_reducible rfl))
                    try go_frame
                    refine wpAnyH_ready (rs := [8]) (by kernel_rfl) (by simp) (AllReadyH.cons rfl (fun K hK => ?_) AllReadyH.nil)
                    have HK := Lib.hid hK
                    clear hK
                    go_simp
                    have HTA : Hid ((wq28.alloc (.cells #[.int .u8 0, .int .i64 0, .int .i64 0, .int .i64 0, .int .i64 0, .int .i64 0, .int .i64 0, .int .i64 0, .bool false, .slice none 0 0, .int .i64 0, .int .i64 0, .slice none 0 0, .slice none 0 0, .slice none 0 0, .slice none 0 0, .int .i64 0, .int .i64 0, .int .i64 0, .slice none 0 0] 80)).there wq28.heap.size 0 20) := Lib.hid (there_new wq28 #[.int .u8 0, .int .i64 0, .int .i64 0, .int .i64 0, .int .i64 0, .int .i64 0, .int .i64 0, .int .i64 0, .bool false, .slice none 0 0, .int .i64 0, .int .i64 0, .slice none 0 0, .slice none 0 0, .slice none 0 0, .slice none 0 0, .int .i64 0, .int .i64 0, .int .i64 0, .slice none 0 0] 80)
                    have HFA : Hid (∀ k, (wq28.alloc (.cells #[.int .u8 0, .int .i64 0, .int .i64 0, .int .i64 0, .int .i64 0, .int .i64 0, .int .i64 0, .int .i64 0, .bool false, .slice none 0 0, .int .i64 0, .int .i64 0, .slice none 0 0, .slice none 0 0, .slice none 0 0, .slice none 0 0, .int .i64 0, .int .i64 0, .int .i64 0, .slice none 0 0] 80)).frozen? ⟨wq28.heap.size, k, none⟩ = false) := Lib.hid (fun k => by rw [World.frozen?, heap_alloc_new]; simp)
                    have HBA : Hid (wq28.heap.size < (wq28.alloc (.cells #[.int .u8 0, .int .i64 0, .int .i64 0, .int .i64 0, .int .i64 0, .int .i64 0, .int .i64 0, .int .i64 0, .bool false, .slice none 0 0, .int .i64 0, .int .i64 0, .slice none 0 0, .slice none 0 0, .slice none 0 0, .slice none 0 0, .int .i64 0, .int .i64 0, .int .i64 0, .slice none 0 0] 80)).heap.size) := Lib.hid (by rw [World.size_alloc]; omega)
                    have HOA : Hid (Ok wq28 (wq28.alloc (.cells #[.int .u8 0, .int .i64 0, .int .i64 0, .int .i64 0, .int .i64 0, .int .i64 0, .int .i64 0, .int .i64 0, .bool false, .slice none 0 0, .int .i64 0, .int .i64 0, .slice none 0 0, .slice none 0 0, .slice none 0 0, .slice none 0 0, .int .i64 0, .int .i64 0, .int .i64 0, .slice none 0 0] 80))) := Lib.hid ((Ok.refl _).alloc _)
                    generalize wq28.alloc (.cells #[.int .u8 0, .int .i64 0, .int .i64 0, .int .i64 0, .int .i64 0, .int .i64 0, .int .i64 0, .int .i64 0, .bool false, .slice none 0 0, .int .i64 0, .int .i64 0, .slice none 0 0, .slice none 0 0, .slice none 0 0, .slice none 0 0, .int .i64 0, .int .i64 0, .int .i64 0, .slice none 0 0] 80) = wq32 at *
                    obtain ⟨bx, hbx⟩ : ∃ bx, wq28.heap.size = bx := ⟨_, rfl⟩
                    rw [hbx] at HTA HFA HBA ⊢
                    have HBX : Hid (wq28.heap.size = bx) := Lib.hid hbx
                    have HGB : Hid (wr.heap.size ≤ bx) := Lib.hid (by rw [← hbx]; exact HO28.out.size)
                    clear hbx
                    have HO32 : Hid (Ok wr wq32) := Lib.hid (HO28.out.trans HOA.out)
                    have HV32 : Hid (wq32.rangeAt g 0 [.int .i64 i, .int .i64 t, .slice s.A0 s.n0 s.c0, .slice s.A1 s.n1 s.c1, .slice s.A2 s.n2 s.c2, .slice s.A3 s.n3 s.c3, .slice Ab L cb]) := Lib.hid (fun j u hu => HOA.out.cell (HV28.out j u hu))
                    refine HK.out.out _ _ HV32.out (fun hJ => ?_)
                    clear hJ HK K
                    try go_frame
                    refine wpAnyH_ready (rs := [9]) (by kernel_rfl) (by simp) (AllReadyH.cons rfl (fun K hK => ?_) AllReadyH.nil)
                    have HK := Lib.hid hK
                    clear hK
                    rw [if_pos (by rfl)]
                    refine wp_store_mid 80 (.tmp 19) (.tmp 138) rfl bx 0 #[.int .u8 5, .int .i64 0, .int .i64 1, .int .i64 2, .int .i64 4, .int .i64 0, .int .i64 0, .int .i64 0, .bool false, .slice none 0 0, .int .i64 i, .int .i64 t, .slice s'.A0 s'.n0 s'.c0, .slice s'.A1 s'.n1 s'.c1, .slice s'.A2 s'.n2 s'.c2, .slice s'.A3 s'.n3 s'.c3, .int .i64 (L : Int), .int .i64 (was : Int), .int .i64 0, .slice B' ps.length d'] rfl rfl HTA.out info80 (by simp [Value.oneCell']) ?_
                    have HRX : Hid ((wq32.setCells bx 0 [.int .u8 5, .int .i64 0, .int .i64 1, .int .i64 2, .int .i64 4, .int .i64 0, .int .i64 0, .int .i64 0, .bool false, .slice none 0 0, .int .i64 i, .int .i64 t, .slice s'.A0 s'.n0 s'.c0, .slice s'.A1 s'.n1 s'.c1, .slice s'.A2 s'.n2 s'.c2, .slice s'.A3 s'.n3 s'.c3, .int .i64 (L : Int), .int .i64 (was : Int), .int .i64 0, .slice B' ps.length d']).rangeAt bx 0 [.int .u8 5, .int .i64 0, .int .i64 1, .int .i64 2, .int .i64 4, .int .i64 0, .int .i64 0, .int .i64 0, .bool false, .slice none 0 0, .int .i64 i, .int .i64 t, .slice s'.A0 s'.n0 s'.c0, .slice s'.A1 s'.n1 s'.c1, .slice s'.A2 s'.n2 s'.c2, .slice s'.A3 s'.n3 s'.c3, .int .i64 (L : Int), .int .i64 (was : Int), .int .i64 0, .slice B' ps.length d']) := Lib.hid (World.rangeAt_setCells_same wq32 bx 0 [.int .u8 5, .int .i64 0, .int .i64 1, .int .i64 2, .int .i64 4, .int .i64 0, .int .i64 0, .int .i64 0, .bool false, .slice none 0 0, .int .i64 i, .int .i64 t, .slice s'.A0 s'.n0 s'.c0, .slice s'.A1 s'.n1 s'.c1, .slice s'.A2 s'.n2 s'.c2, .slice s'.A3 s'.n3 s'.c3, .int .i64 (L : Int), .int .i64 (was : Int), .int .i64 0, .slice B' ps.length d'] HTA.out)
                    have HRM : Hid ((wq32.setCells bx 0 [.int .u8 5, .int .i64 0, .int .i64 1, .int .i64 2, .int .i64 4, .int .i64 0, .int .i64 0, .int .i64 0, .bool false, .slice none 0 0, .int .i64 i, .int .i64 t, .slice s'.A0 s'.n0 s'.c0, .slice s'.A1 s'.n1 s'.c1, .slice s'.A2 s'.n2 s'.c2, .slice s'.A3 s'.n3 s'.c3, .int .i64 (L : Int), .int .i64 (was : Int), .int .i64 0, .slice B' ps.length d']).rangeAt g 0 [.int .i64 i, .int .i64 t, .slice s.A0 s.n0 s.c0, .slice s.A1 s.n1 s.c1, .slice s.A2 s.n2 s.c2, .slice s.A3 s.n3 s.c3, .slice Ab L cb]) := Lib.hid (World.rangeAt_setCells_apart HV32.out bx 0 _ (.inl (by have := HGB.out; have := HBOX.out; omega)))
                    have HOX : Hid (Ok wr (wq32.setCells bx 0 [.int .u8 5, .int .i64 0, .int .i64 1, .int .i64 2, .int .i64 4, .int .i64 0, .int .i64 0, .int .i64 0, .bool false, .slice none 0 0, .int .i64 i, .int .i64 t, .slice s'.A0 s'.n0 s'.c0, .slice s'.A1 s'.n1 s'.c1, .slice s'.A2 s'.n2 s'.c2, .slice s'.A3 s'.n3 s'.c3, .int .i64 (L : Int), .int .i64 (was : Int), .int .i64 0, .slice B' ps.length d'])) := Lib.hid (Ok.sets HGB.out _ _ _ HO32.out)
                    have HFX : Hid (∀ k, (wq32.setCells bx 0 [.int .u8 5, .int .i64 0, .int .i64 1, .int .i64 2, .int .i64 4, .int .i64 0, .int .i64 0, .int .i64 0, .bool false, .slice none 0 0, .int .i64 i, .int .i64 t, .slice s'.A0 s'.n0 s'.c0, .slice s'.A1 s'.n1 s'.c1, .slice s'.A2 s'.n2 s'.c2, .slice s'.A3 s'.n3 s'.c3, .int .i64 (L : Int), .int .i64 (was : Int), .int .i64 0, .slice B' ps.length d']).frozen? ⟨bx, k, none⟩ = false) := Lib.hid (fun k => by rw [World.frozen?_setCells]; exact HFA.out k)
                    have HOL : Hid (Ok wq28 (wq32.setCells bx 0 [.int .u8 5, .int .i64 0, .int .i64 1, .int .i64 2, .int .i64 4, .int .i64 0, .int .i64 0, .int .i64 0, .bool false, .slice none 0 0, .int .i64 i, .int .i64 t, .slice s'.A0 s'.n0 s'.c0, .slice s'.A1 s'.n1 s'.c1, .slice s'.A2 s'.n2 s'.c2, .slice s'.A3 s'.n3 s'.c3, .int .i64 (L : Int), .int .i64 (was : Int), .int .i64 0, .slice B' ps.length d'])) := Lib.hid (Ok.sets (Nat.le_of_eq HBX.out) _ _ _ HOA.out)
                    have HCX : Hid (CfgOwn (wq32.setCells bx 0 [.int .u8 5, .int .i64 0, .int .i64 1, .int .i64 2, .int .i64 4, .int .i64 0, .int .i64 0, .int .i64 0, .bool false, .slice none 0 0, .int .i64 i, .int .i64 t, .slice s'.A0 s'.n0 s'.c0, .slice s'.A1 s'.n1 s'.c1, .slice s'.A2 s'.n2 s'.c2, .slice s'.A3 s'.n3 s'.c3, .int .i64 (L : Int), .int .i64 (was : Int), .int .i64 0, .slice B' ps.length d']) wr.heap.size s' cf) := Lib.hid ((HCF.out.ok HOL.out).lower HSZF.out)
                    have HNX : Hid (OwnN (wq32.setCells bx 0 [.int .u8 5, .int .i64 0, .int .i64 1, .int .i64 2, .int .i64 4, .int .i64 0, .int .i64 0, .int .i64 0, .bool false, .slice none 0 0, .int .i64 i, .int .i64 t, .slice s'.A0 s'.n0 s'.c0, .slice s'.A1 s'.n1 s'.c1, .slice s'.A2 s'.n2 s'.c2, .slice s'.A3 s'.n3 s'.c3, .int .i64 (L : Int), .int .i64 (was : Int), .int .i64 0, .slice B' ps.length d']) wr.heap.size (.slice B' ps.length d') ps) := Lib.hid ((HBY.out.okk HOL.out).lower HSZF.out)
                    have HEX : Hid (∀ v, CfgOwn ((wq32.setCells bx 0 [.int .u8 5, .int .i64 0, .int .i64 1, .int .i64 2, .int .i64 4, .int .i64 0, .int .i64 0, .int .i64 0, .bool false, .slice none 0 0, .int .i64 i, .int .i64 t, .slice s'.A0 s'.n0 s'.c0, .slice s'.A1 s'.n1 s'.c1, .slice s'.A2 s'.n2 s'.c2, .slice s'.A3 s'.n3 s'.c3, .int .i64 (L : Int), .int .i64 (was : Int), .int .i64 0, .slice B' ps.length d']).setCell ⟨bx, 4, none⟩ v) wr.heap.size s' cf ∧ OwnN ((wq32.setCells bx 0 [.int .u8 5, .int .i64 0, .int .i64 1, .int .i64 2, .int .i64 4, .int .i64 0, .int .i64 0, .int .i64 0, .bool false, .slice none 0 0, .int .i64 i, .int .i64 t, .slice s'.A0 s'.n0 s'.c0, .slice s'.A1 s'.n1 s'.c1, .slice s'.A2 s'.n2 s'.c2, .slice s'.A3 s'.n3 s'.c3, .int .i64 (L : Int), .int .i64 (was : Int), .int .i64 0, .slice B' ps.length d']).setCell ⟨bx, 4, none⟩ v) wr.heap.size (.slice B' ps.length d') ps) := Lib.hid (fun v => ⟨(HCF.out.ok (Below.setCell HOL.out (Nat.le_of_eq HBX.out) v)).lower HSZF.out, (HBY.out.okk (Below.setCell HOL.out (Nat.le_of_eq HBX.out) v)).lower HSZF.out⟩)
                    have HBZ : Hid (bx < (wq32.setCells bx 0 [.int .u8 5, .int .i64 0, .int .i64 1, .int .i64 2, .int .i64 4, .int .i64 0, .int .i64 0, .int .i64 0, .bool false, .slice none 0 0, .int .i64 i, .int .i64 t, .slice s'.A0 s'.n0 s'.c0, .slice s'.A1 s'.n1 s'.c1, .slice s'.A2 s'.n2 s'.c2, .slice s'.A3 s'.n3 s'.c3, .int .i64 (L : Int), .int .i64 (was : Int), .int .i64 0, .slice B' ps.length d']).heap.size) := Lib.hid (World.block_lt_of_cell? _ _ (HRX.out 0 _ rfl))
                    generalize wq32.setCells bx 0 [.int .u8 5, .int .i64 0, .int .i64 1, .int .i64 2, .int .i64 4, .int .i64 0, .int .i64 0, .int .i64 0, .bool false, .slice none 0 0, .int .i64 i, .int .i64 t, .slice s'.A0 s'.n0 s'.c0, .slice s'.A1 s'.n1 s'.c1, .slice s'.A2 s'.n2 s'.c2, .slice s'.A3 s'.n3 s'.c3, .int .i64 (L : Int), .int .i64 (was : Int), .int .i64 0, .slice B' ps.length d'] = wX at *
                    refine HK.out.out _ _ HRM.out (fun hJ => ?_)
                    clear hJ HK K
                    try go_frame
                    refine wpAnyH_take (i := 10) (v := ?vp10u33) rfl (by kernel_rfl) (by kernel_rfl) (by kernel_rfl) (fun _ _ _ h => h) (Or.inl ⟨by rfl, ?hyp10u33⟩) (by exact HRM.out) ?restp10u33
                    case hyp10u33 => ((intro w hSw); clear hSw; go_simp; (try with_reducible rfl))
                    try go_frame
                    refine wpAnyH_done (by kernel_rfl) ?_ _
                    go_simp
                    first | (refine Met.intro ?_; refine hK1 _ _ (Met.intro ?_)) | refine hK1 _ _ (Met.intro ?_)
                    exact HJ0.out _ _ ⟨_, _, _, _, _, _, _, _, _, _, ⟨bx, s', B', d', rfl, rfl, HRX.out, HFX.out, HCX.out, HNX.out, HGB.out, HBZ.out, HOX.out, HEX.out⟩, rfl⟩
                  · have HK := Lib.hid hK
                    clear hK
                    go_simp
                    have HTA : Hid ((wq27.alloc (.cells #[.int .u8 0, .int .i64 0, .int .i64 0, .int .i64 0, .int .i64 0, .int .i64 0, .int .i64 0, .int .i64 0, .bool false, .slice none 0 0, .int .i64 0, .int .i64 0, .slice none 0 0, .slice none 0 0, .slice none 0 0, .slice none 0 0, .int .i64 0, .int .i64 0, .int .i64 0, .slice none 0 0] 80)).there wq27.heap.size 0 20) := Lib.hid (there_new wq27 #[.int .u8 0, .int .i64 0, .int .i64 0, .int .i64 0, .int .i64 0, .int .i64 0, .int .i64 0, .int .i64 0, .bool false, .slice none 0 0, .int .i64 0, .int .i64 0, .slice none 0 0, .slice none 0 0, .slice none 0 0, .slice none 0 0, .int .i64 0, .int .i64 0, .int .i64 0, .slice none 0 0] 80)
                    have HFA : Hid (∀ k, (wq27.alloc (.cells #[.int .u8 0, .int .i64 0, .int .i64 0, .int .i64 0, .int .i64 0, .int .i64 0, .int .i64 0, .int .i64 0, .bool false, .slice none 0 0, .int .i64 0, .int .i64 0, .slice none 0 0, .slice none 0 0, .slice none 0 0, .slice none 0 0, .int .i64 0, .int .i64 0, .int .i64 0, .slice none 0 0] 80)).frozen? ⟨wq27.heap.size, k, none⟩ = false) := Lib.hid (fun k => by rw [World.frozen?, heap_alloc_new]; simp)
                    have HBA : Hid (wq27.heap.size < (wq27.alloc (.cells #[.int .u8 0, .int .i64 0, .int .i64 0, .int .i64 0, .int .i64 0, .int .i64 0, .int .i64 0, .int .i64 0, .bool false, .slice none 0 0, .int .i64 0, .int .i64 0, .slice none 0 0, .slice none 0 0, .slice none 0 0, .slice none 0 0, .int .i64 0, .int .i64 0, .int .i64 0, .slice none 0 0] 80)).heap.size) := Lib.hid (by rw [World.size_alloc]; omega)
                    have HOA : Hid (Ok wq27 (wq27.alloc (.cells #[.int .u8 0, .int .i64 0, .int .i64 0, .int .i64 0, .int .i64 0, .int .i64 0, .int .i64 0, .int .i64 0, .bool false, .slice none 0 0, .int .i64 0, .int .i64 0, .slice none 0 0, .slice none 0 0, .slice none 0 0, .slice none 0 0, .int .i64 0, .int .i64 0, .int .i64 0, .slice none 0 0] 80))) := Lib.hid ((Ok.refl _).alloc _)
                    generalize wq27.alloc (.cells #[.int .u8 0, .int .i64 0, .int .i64 0, .int .i64 0, .int .i64 0, .int .i64 0, .int .i64 0, .int .i64 0, .bool false, .slice none 0 0, .int .i64 0, .int .i64 0, .slice none 0 0, .slice none 0 0, .slice none 0 0, .slice none 0 0, .int .i64 0, .int .i64 0, .int .i64 0, .slice none 0 0] 80) = wq34 at *
                    obtain ⟨bx, hbx⟩ : ∃ bx, wq27.heap.size = bx := ⟨_, rfl⟩
                    rw [hbx] at HTA HFA HBA ⊢
                    have HBX : Hid (wq27.heap.size = bx) := Lib.hid hbx
                    have HGB : Hid (wr.heap.size ≤ bx) := Lib.hid (by rw [← hbx]; exact HO27.out.size)
                    clear hbx
                    have HO34 : Hid (Ok wr wq34) := Lib.hid (HO27.out.trans HOA.out)
                    have HV34 : Hid (wq34.rangeAt g 0 [.int .i64 i, .int .i64 t, .slice s.A0 s.n0 s.c0, .slice s.A1 s.n1 s.c1, .slice s.A2 s.n2 s.c2, .slice s.A3 s.n3 s.c3, .slice Ab L cb]) := Lib.hid (fun j u hu => HOA.out.cell (HV27.out j u hu))
                    refine HK.out.out _ _ HV34.out (fun hJ => ?_)
                    clear hJ HK K
                    try go_frame
                    refine wpAnyH_ready (rs := [4]) (by kernel_rfl) (by simp) (AllReadyH.cons rfl (fun K hK => ?_) AllReadyH.nil)
                    have HK := Lib.hid hK
                    clear hK
                    go_simp
                    (with_reducible refine (fill_z i t (was : Int) s cf Ab L cb was bs wq34 rfl (HMw.out _ HO34.out).1 (HMw.out _ HO34.out).2 (by have := HAL.out; omega) (by have := HAL.out; omega) l0 l1 l2 l3).mono ?_)
                    rintro _ wq35 ⟨s', B', d', rfl, hcf, hby, ok⟩
                    rw [HPS.out] at hby ⊢
                    rw [← HL.out]
                    have HO35 : Hid (Ok wr wq35) := Lib.hid (HO34.out.trans ok)
                    have HV35 : Hid (wq35.rangeAt g 0 [.int .i64 i, .int .i64 t, .slice s.A0 s.n0 s.c0, .slice s.A1 s.n1 s.c1, .slice s.A2 s.n2 s.c2, .slice s.A3 s.n3 s.c3, .slice Ab L cb]) := Lib.hid (fun j u hu => ok.cell (HV34.out j u hu))
                    have HCF := Lib.hid hcf
                    have HBY := Lib.hid hby
                    have HSZF : Hid (wr.heap.size ≤ wq34.heap.size) := Lib.hid HO34.out.size
                    have HBF : Hid (bx < wq34.heap.size) := Lib.hid HBA.out
                    have HTA := Lib.hid (there_ok HTA.out ok)
                    have HFA := Lib.hid (fun k => Ok.frz ok (HFA.out k) HBA.out)
                    have HBA := Lib.hid (Nat.lt_of_lt_of_le HBA.out ok.size)
                    clear ok hcf hby
                    refine HK.out.out _ _ HV35.out (fun hJ => ?_)
                    clear hJ HK K
                    try go_frame
                    refine wpAnyH_take (i := 5) (v := ?vp5u36) rfl (by kernel_rfl) (by kernel_rfl) (by kernel_rfl) (fun _ _ _ h => h) (Or.inl ⟨by rfl, ?hyp5u36⟩) (by exact HV35.out) ?restp5u36
                    case hyp5u36 => ((intro w hSw); clear hSw; go_simp; (try with_reducible rfl))
                    try go_frame
                    refine wpAnyH_take (i := 6) (v := ?vp6u37) rfl (by kernel_rfl) (by kernel_rfl) (by kernel_rfl) (fun _ _ _ h => h) (Or.inl ⟨by rfl, ?hyp6u37⟩) (by exact HV35.out) ?restp6u37
                    case hyp6u37 => ((intro w hSw); clear hSw; go_simp; (try with_reducible rfl))
                    try go_frame
                    refine wpAnyH_take (i := 7) (v := ?vp7u38) rfl (by kernel_rfl) (by kernel_rfl) (by kernel_rfl) (fun _ _ _ h => h) (Or.inl ⟨by rfl, ?hyp7u38⟩) (by exact HV35.out) ?restp7u38
                    case hyp7u38 => ((intro w hSw); clear hSw; go_simp; (try with_reducible rfl))
                    try go_frame
                    refine wpAnyH_ready (rs := [9]) (by kernel_rfl) (by simp) (AllReadyH.cons rfl (fun K hK => ?_) AllReadyH.nil)
                    have HK := Lib.hid hK
                    clear hK
                    rw [if_pos (by rfl)]
                    refine wp_store_mid 80 (.tmp 19) (.tmp 138) rfl bx 0 #[.int .u8 5, .int .i64 0, .int .i64 1, .int .i64 2, .int .i64 4, .int .i64 0, .int .i64 0, .int .i64 0, .bool false, .slice none 0 0, .int .i64 i, .int .i64 t, .slice s'.A0 s'.n0 s'.c0, .slice s'.A1 s'.n1 s'.c1, .slice s'.A2 s'.n2 s'.c2, .slice s'.A3 s'.n3 s'.c3, .int .i64 (L : Int), .int .i64 (was : Int), .int .i64 0, .slice B' ps.length d'] rfl rfl HTA.out info80 (by simp [Value.oneCell']) ?_
                    have HRX : Hid ((wq35.setCells bx 0 [.int .u8 5, .int .i64 0, .int .i64 1, .int .i64 2, .int .i64 4, .int .i64 0, .int .i64 0, .int .i64 0, .bool false, .slice none 0 0, .int .i64 i, .int .i64 t, .slice s'.A0 s'.n0 s'.c0, .slice s'.A1 s'.n1 s'.c1, .slice s'.A2 s'.n2 s'.c2, .slice s'.A3 s'.n3 s'.c3, .int .i64 (L : Int), .int .i64 (was : Int), .int .i64 0, .slice B' ps.length d']).rangeAt bx 0 [.int .u8 5, .int .i64 0, .int .i64 1, .int .i64 2, .int .i64 4, .int .i64 0, .int .i64 0, .int .i64 0, .bool false, .slice none 0 0, .int .i64 i, .int .i64 t, .slice s'.A0 s'.n0 s'.c0, .slice s'.A1 s'.n1 s'.c1, .slice s'.A2 s'.n2 s'.c2, .slice s'.A3 s'.n3 s'.c3, .int .i64 (L : Int), .int .i64 (was : Int), .int .i64 0, .slice B' ps.length d']) := Lib.hid (World.rangeAt_setCells_same wq35 bx 0 [.int .u8 5, .int .i64 0, .int .i64 1, .int .i64 2, .int .i64 4, .int .i64 0, .int .i64 0, .int .i64 0, .bool false, .slice none 0 0, .int .i64 i, .int .i64 t, .slice s'.A0 s'.n0 s'.c0, .slice s'.A1 s'.n1 s'.c1, .slice s'.A2 s'.n2 s'.c2, .slice s'.A3 s'.n3 s'.c3, .int .i64 (L : Int), .int .i64 (was : Int), .int .i64 0, .slice B' ps.length d'] HTA.out)
                    have HRM : Hid ((wq35.setCells bx 0 [.int .u8 5, .int .i64 0, .int .i64 1, .int .i64 2, .int .i64 4, .int .i64 0, .int .i64 0, .int .i64 0, .bool false, .slice none 0 0, .int .i64 i, .int .i64 t, .slice s'.A0 s'.n0 s'.c0, .slice s'.A1 s'.n1 s'.c1, .slice s'.A2 s'.n2 s'.c2, .slice s'.A3 s'.n3 s'.c3, .int .i64 (L : Int), .int .i64 (was : Int), .int .i64 0, .slice B' ps.length d']).rangeAt g 0 [.int .i64 i, .int .i64 t, .slice s.A0 s.n0 s.c0, .slice s.A1 s.n1 s.c1, .slice s.A2 s.n2 s.c2, .slice s.A3 s.n3 s.c3, .slice Ab L cb]) := Lib.hid (World.rangeAt_setCells_apart HV35.out bx 0 _ (.inl (by have := HGB.out; have := HBOX.out; omega)))
                    have HOX : Hid (Ok wr (wq35.setCells bx 0 [.int .u8 5, .int .i64 0, .int .i64 1, .int .i64 2, .int .i64 4, .int .i64 0, .int .i64 0, .int .i64 0, .bool false, .slice none 0 0, .int .i64 i, .int .i64 t, .slice s'.A0 s'.n0 s'.c0, .slice s'.A1 s'.n1 s'.c1, .slice s'.A2 s'.n2 s'.c2, .slice s'.A3 s'.n3 s'.c3, .int .i64 (L : Int), .int .i64 (was : Int), .int .i64 0, .slice B' ps.length d'])) := Lib.hid (Ok.sets HGB.out _ _ _ HO35.out)
                    have HFX : Hid (∀ k, (wq35.setCells bx 0 [.int .u8 5, .int .i64 0, .int .i64 1, .int .i64 2, .int .i64 4, .int .i64 0, .int .i64 0, .int .i64 0, .bool false, .slice none 0 0, .int .i64 i, .int .i64 t, .slice s'.A0 s'.n0 s'.c0, .slice s'.A1 s'.n1 s'.c1, .slice s'.A2 s'.n2 s'.c2, .slice s'.A3 s'.n3 s'.c3, .int .i64 (L : Int), .int .i64 (was : Int), .int .i64 0, .slice B' ps.length d']).frozen? ⟨bx, k, none⟩ = false) := Lib.hid (fun k => by rw [World.frozen?_setCells]; exact HFA.out k)
                    have HCX : Hid (CfgOwn (wq35.setCells bx 0 [.int .u8 5, .int .i64 0, .int .i64 1, .int .i64 2, .int .i64 4, .int .i64 0, .int .i64 0, .int .i64 0, .bool false, .slice none 0 0, .int .i64 i, .int .i64 t, .slice s'.A0 s'.n0 s'.c0, .slice s'.A1 s'.n1 s'.c1, .slice s'.A2 s'.n2 s'.c2, .slice s'.A3 s'.n3 s'.c3, .int .i64 (L : Int), .int .i64 (was : Int), .int .i64 0, .slice B' ps.length d']) wr.heap.size s' cf) := Lib.hid (((sets_own [.int .u8 5, .int .i64 0, .int .i64 1, .int .i64 2, .int .i64 4, .int .i64 0, .int .i64 0, .int .i64 0, .bool false, .slice none 0 0, .int .i64 i, .int .i64 t, .slice s'.A0 s'.n0 s'.c0, .slice s'.A1 s'.n1 s'.c1, .slice s'.A2 s'.n2 s'.c2, .slice s'.A3 s'.n3 s'.c3, .int .i64 (L : Int), .int .i64 (was : Int), .int .i64 0, .slice B' ps.length d'] 0 wq35 _ HBF.out).1 HCF.out).lower HSZF.out)
                    have HNX : Hid (OwnN (wq35.setCells bx 0 [.int .u8 5, .int .i64 0, .int .i64 1, .int .i64 2, .int .i64 4, .int .i64 0, .int .i64 0, .int .i64 0, .bool false, .slice none 0 0, .int .i64 i, .int .i64 t, .slice s'.A0 s'.n0 s'.c0, .slice s'.A1 s'.n1 s'.c1, .slice s'.A2 s'.n2 s'.c2, .slice s'.A3 s'.n3 s'.c3, .int .i64 (L : Int), .int .i64 (was : Int), .int .i64 0, .slice B' ps.length d']) wr.heap.size (.slice B' ps.length d') ps) := Lib.hid (((sets_own [.int .u8 5, .int .i64 0, .int .i64 1, .int .i64 2, .int .i64 4, .int .i64 0, .int .i64 0, .int .i64 0, .bool false, .slice none 0 0, .int .i64 i, .int .i64 t, .slice s'.A0 s'.n0 s'.c0, .slice s'.A1 s'.n1 s'.c1, .slice s'.A2 s'.n2 s'.c2, .slice s'.A3 s'.n3 s'.c3, .int .i64 (L : Int), .int .i64 (was : Int), .int .i64 0, .slice B' ps.length d'] 0 wq35 _ HBF.out).2 HBY.out).lower HSZF.out)
                    have HEX : Hid (∀ v, CfgOwn ((wq35.setCells bx 0 [.int .u8 5, .int .i64 0, .int .i64 1, .int .i64 2, .int .i64 4, .int .i64 0, .int .i64 0, .int .i64 0, .bool false, .slice none 0 0, .int .i64 i, .int .i64 t, .slice s'.A0 s'.n0 s'.c0, .slice s'.A1 s'.n1 s'.c1, .slice s'.A2 s'.n2 s'.c2, .slice s'.A3 s'.n3 s'.c3, .int .i64 (L : Int), .int .i64 (was : Int), .int .i64 0, .slice B' ps.length d']).setCell ⟨bx, 4, none⟩ v) wr.heap.size s' cf ∧ OwnN ((wq35.setCells bx 0 [.int .u8 5, .int .i64 0, .int .i64 1, .int .i64 2, .int .i64 4, .int .i64 0, .int .i64 0, .int .i64 0, .bool false, .slice none 0 0, .int .i64 i, .int .i64 t, .slice s'.A0 s'.n0 s'.c0, .slice s'.A1 s'.n1 s'.c1, .slice s'.A2 s'.n2 s'.c2, .slice s'.A3 s'.n3 s'.c3, .int .i64 (L : Int), .int .i64 (was : Int), .int .i64 0, .slice B' ps.length d']).setCell ⟨bx, 4, none⟩ v) wr.heap.size (.slice B' ps.length d') ps) := Lib.hid (fun v => ⟨(((sets_own [.int .u8 5, .int .i64 0, .int .i64 1, .int .i64 2, .int .i64 4, .int .i64 0, .int .i64 0, .int .i64 0, .bool false, .slice none 0 0, .int .i64 i, .int .i64 t, .slice s'.A0 s'.n0 s'.c0, .slice s'.A1 s'.n1 s'.c1, .slice s'.A2 s'.n2 s'.c2, .slice s'.A3 s'.n3 s'.c3, .int .i64 (L : Int), .int .i64 (was : Int), .int .i64 0, .slice B' ps.length d'] 0 wq35 _ HBF.out).1 HCF.out).set bx 4 v HBF.out).lower HSZF.out, (((sets_own [.int .u8 5, .int .i64 0, .int .i64 1, .int .i64 2, .int .i64 4, .int .i64 0, .int .i64 0, .int .i64 0, .bool false, .slice none 0 0, .int .i64 i, .int .i64 t, .slice s'.A0 s'.n0 s'.c0, .slice s'.A1 s'.n1 s'.c1, .slice s'.A2 s'.n2 s'.c2, .slice s'.A3 s'.n3 s'.c3, .int .i64 (L : Int), .int .i64 (was : Int), .int .i64 0, .slice B' ps.length d'] 0 wq35 _ HBF.out).2 HBY.out).set bx 4 v HBF.out).lower HSZF.out⟩)
                    have HBZ : Hid (bx < (wq35.setCells bx 0 [.int .u8 5, .int .i64 0, .int .i64 1, .int .i64 2, .int .i64 4, .int .i64 0, .int .i64 0, .int .i64 0, .bool false, .slice none 0 0, .int .i64 i, .int .i64 t, .slice s'.A0 s'.n0 s'.c0, .slice s'.A1 s'.n1 s'.c1, .slice s'.A2 s'.n2 s'.c2, .slice s'.A3 s'.n3 s'.c3, .int .i64 (L : Int), .int .i64 (was : Int), .int .i64 0, .slice B' ps.length d']).heap.size) := Lib.hid (World.block_lt_of_cell? _ _ (HRX.out 0 _ rfl))
                    generalize wq35.setCells bx 0 [.int .u8 5, .int .i64 0, .int .i64 1, .int .i64 2, .int .i64 4, .int .i64 0, .int .i64 0, .int .i64 0, .bool false, .slice none 0 0, .int .i64 i, .int .i64 t, .slice s'.A0 s'.n0 s'.c0, .slice s'.A1 s'.n1 s'.c1, .slice s'.A2 s'.n2 s'.c2, .slice s'.A3 s'.n3 s'.c3, .int .i64 (L : Int), .int .i64 (was : Int), .int .i64 0, .slice B' ps.length d'] = wX at *
                    refine HK.out.out _ _ HRM.out (fun hJ => ?_)
                    clear hJ HK K
                    try go_frame
                    refine wpAnyH_take (i := 10) (v := ?vp10u39) rfl (by kernel_rfl) (by kernel_rfl) (by kernel_rfl) (fun _ _ _ h => h) (Or.inl ⟨by rfl, ?hyp10u39⟩) (by exact HRM.out) ?restp10u39
                    case hyp10u39 => ((intro w hSw); clear hSw; go_simp; (try with_reducible rfl))
                    try go_frame
                    refine wpAnyH_done (by kernel_rfl) ?_ _
                    go_simp
                    first | (refine Met.intro ?_; refine hK1 _ _ (Met.intro ?_)) | refine hK1 _ _ (Met.intro ?_)
                    exact HJ0.out _ _ ⟨_, _, _, _, _, _, _, _, _, _, ⟨bx, s', B', d', rfl, rfl, HRX.out, HFX.out, HCX.out, HNX.out, HGB.out, HBZ.out, HOX.out, HEX.out⟩, rfl⟩
                · have HK := Lib.hid hK
                  clear hK
                  go_simp
                  have HTA : Hid ((ws.alloc (.cells #[.int .u8 0, .int .i64 0, .int .i64 0, .int .i64 0, .int .i64 0, .int .i64 0, .int .i64 0, .int .i64 0, .bool false, .slice none 0 0, .int .i64 0, .int .i64 0, .slice none 0 0, .slice none 0 0, .slice none 0 0, .slice none 0 0, .int .i64 0, .int .i64 0, .int .i64 0, .slice none 0 0] 80)).there ws.heap.size 0 20) := Lib.hid (there_new ws #[.int .u8 0, .int .i64 0, .int .i64 0, .int .i64 0, .int .i64 0, .int .i64 0, .int .i64 0, .int .i64 0, .bool false, .slice none 0 0, .int .i64 0, .int .i64 0, .slice none 0 0, .slice none 0 0, .slice none 0 0, .slice none 0 0, .int .i64 0, .int .i64 0, .int .i64 0, .slice none 0 0] 80)
                  have HFA : Hid (∀ k, (ws.alloc (.cells #[.int .u8 0, .int .i64 0, .int .i64 0, .int .i64 0, .int .i64 0, .int .i64 0, .int .i64 0, .int .i64 0, .bool false, .slice none 0 0, .int .i64 0, .int .i64 0, .slice none 0 0, .slice none 0 0, .slice none 0 0, .slice none 0 0, .int .i64 0, .int .i64 0, .int .i64 0, .slice none 0 0] 80)).frozen? ⟨ws.heap.size, k, none⟩ = false) := Lib.hid (fun k => by rw [World.frozen?, heap_alloc_new]; simp)
                  have HBA : Hid (ws.heap.size < (ws.alloc (.cells #[.int .u8 0, .int .i64 0, .int .i64 0, .int .i64 0, .int .i64 0, .int .i64 0, .int .i64 0, .int .i64 0, .bool false, .slice none 0 0, .int .i64 0, .int .i64 0, .slice none 0 0, .slice none 0 0, .slice none 0 0, .slice none 0 0, .int .i64 0, .int .i64 0, .int .i64 0, .slice none 0 0] 80)).heap.size) := Lib.hid (by rw [World.size_alloc]; omega)
                  have HOA : Hid (Ok ws (ws.alloc (.cells #[.int .u8 0, .int .i64 0, .int .i64 0, .int .i64 0, .int .i64 0, .int .i64 0, .int .i64 0, .int .i64 0, .bool false, .slice none 0 0, .int .i64 0, .int .i64 0, .slice none 0 0, .slice none 0 0, .slice none 0 0, .slice none 0 0, .int .i64 0, .int .i64 0, .int .i64 0, .slice none 0 0] 80))) := Lib.hid ((Ok.refl _).alloc _)
                  generalize ws.alloc (.cells #[.int .u8 0, .int .i64 0, .int .i64 0, .int .i64 0, .int .i64 0, .int .i64 0, .int .i64 0, .int .i64 0, .bool false, .slice none 0 0, .int .i64 0, .int .i64 0, .slice none 0 0, .slice none 0 0, .slice none 0 0, .slice none 0 0, .int .i64 0, .int .i64 0, .int .i64 0, .slice none 0 0] 80) = wq40 at *
                  obtain ⟨bx, hbx⟩ : ∃ bx, ws.heap.size = bx := ⟨_, rfl⟩
                  rw [hbx] at HTA HFA HBA ⊢
                  have HBX : Hid (ws.heap.size = bx) := Lib.hid hbx
                  have HGB : Hid (wr.heap.size ≤ bx) := Lib.hid (by rw [← hbx]; exact HOs.out.size)
                  clear hbx
                  have HO40 : Hid (Ok wr wq40) := Lib.hid (HOs.out.trans HOA.out)
                  have HV40 : Hid (wq40.rangeAt g 0 [.int .i64 i, .int .i64 t, .slice s.A0 s.n0 s.c0, .slice s.A1 s.n1 s.c1, .slice s.A2 s.n2 s.c2, .slice s.A3 s.n3 s.c3, .slice Ab L cb]) := Lib.hid (fun j u hu => HOA.out.cell (HSs.out j u hu))
                  refine HK.out.out _ _ HV40.out (fun hJ => ?_)
                  clear hJ HK K
                  try go_frame
                  refine wpAnyH_ready (rs := [2]) (by kernel_rfl) (by simp) (AllReadyH.cons rfl (fun K hK => ?_) AllReadyH.nil)
                  have HK := Lib.hid hK
                  clear hK
                  go_simp
                  (with_reducible refine (asks_f i t (was : Int) s L cb Ab wq40).mono ?_)
                  rintro _ wq41 ⟨rfl, ok⟩
                  have HO41 : Hid (Ok wr wq41) := Lib.hid (HO40.out.trans ok)
                  have HV41 : Hid (wq41.rangeAt g 0 [.int .i64 i, .int .i64 t, .slice s.A0 s.n0 s.c0, .slice s.A1 s.n1 s.c1, .slice s.A2 s.n2 s.c2, .slice s.A3 s.n3 s.c3, .slice Ab L cb]) := Lib.hid (fun j u hu => ok.cell (HV40.out j u hu))
                  have HTA := Lib.hid (there_ok HTA.out ok)
                  have HFA := Lib.hid (fun k => Ok.frz ok (HFA.out k) HBA.out)
                  have HBA := Lib.hid (Nat.lt_of_lt_of_le HBA.out ok.size)
                  clear ok
                  refine HK.out.out _ _ HV41.out (fun hJ => ?_)
                  clear hJ HK K
                  try go_frame
                  refine wpAnyH_ready (rs := [4]) (by kernel_rfl) (by simp) (AllReadyH.cons rfl (fun K hK => ?_) AllReadyH.nil)
                  have HK := Lib.hid hK
                  clear hK
                  go_simp
                  (with_reducible refine (fill_z i t (was : Int) s cf Ab L cb was bs wq41 rfl (HMw.out _ HO41.out).1 (HMw.out _ HO41.out).2 (by have := HAL.out; omega) (by have := HAL.out; omega) l0 l1 l2 l3).mono ?_)
                  rintro _ wq42 ⟨s', B', d', rfl, hcf, hby, ok⟩
                  rw [HPS.out] at hby ⊢
                  rw [← HL.out]
                  have HO42 : Hid (Ok wr wq42) := Lib.hid (HO41.out.trans ok)
                  have HV42 : Hid (wq42.rangeAt g 0 [.int .i64 i, .int .i64 t, .slice s.A0 s.n0 s.c0, .slice s.A1 s.n1 s.c1, .slice s.A2 s.n2 s.c2, .slice s.A3 s.n3 s.c3, .slice Ab L cb]) := Lib.hid (fun j u hu => ok.cell (HV41.out j u hu))
                  have HCF := Lib.hid hcf
                  have HBY := Lib.hid hby
                  have HSZF : Hid (wr.heap.size ≤ wq41.heap.size) := Lib.hid HO41.out.size
                  have HBF : Hid (bx < wq41.heap.size) := Lib.hid HBA.out
                  have HTA := Lib.hid (there_ok HTA.out ok)
                  have HFA := Lib.hid (fun k => Ok.frz ok (HFA.out k) HBA.out)
                  have HBA := Lib.hid (Nat.lt_of_lt_of_le HBA.out ok.size)
                  clear ok hcf hby
                  refine HK.out.out _ _ HV42.out (fun hJ => ?_)
                  clear hJ HK K
                  try go_frame
                  refine wpAnyH_take (i := 5) (v := ?vp5u43) rfl (by kernel_rfl) (by kernel_rfl) (by kernel_rfl) (fun _ _ _ h => h) (Or.inl ⟨by rfl, ?hyp5u43⟩) (by exact HV42.out) ?restp5u43
                  case hyp5u43 => ((intro w hSw); clear hSw; go_simp; (try with_reducible rfl))
                  try go_frame
                  refine wpAnyH_take (i := 6) (v := ?vp6u44) rfl (by kernel_rfl) (by kernel_rfl) (by kernel_rfl) (fun _ _ _ h => h) (Or.inl ⟨by rfl, ?hyp6u44⟩) (by exact HV42.out) ?restp6u44
                  case hyp6u44 => ((intro w hSw); clear hSw; go_simp; (try with_reducible rfl))
                  try go_frame
                  refine wpAnyH_take (i := 7) (v := ?vp7u45) rfl (by kernel_rfl) (by kernel_rfl) (by kernel_rfl) (fun _ _ _ h => h) (Or.inl ⟨by rfl, ?hyp7u45⟩) (by exact HV42.out) ?restp7u45
                  case hyp7u45 => ((intro w hSw); clear hSw; go_simp; (try with_reducible rfl))
                  try go_frame
                  refine wpAnyH_ready (rs := [9]) (by kernel_rfl) (by simp) (AllReadyH.cons rfl (fun K hK => ?_) AllReadyH.nil)
                  have HK := Lib.hid hK
                  clear hK
                  rw [if_pos (by rfl)]
                  refine wp_store_mid 80 (.tmp 19) (.tmp 138) rfl bx 0 #[.int .u8 5, .int .i64 0, .int .i64 1, .int .i64 2, .int .i64 4, .int .i64 0, .int .i64 0, .int .i64 0, .bool false, .slice none 0 0, .int .i64 i, .int .i64 t, .slice s'.A0 s'.n0 s'.c0, .slice s'.A1 s'.n1 s'.c1, .slice s'.A2 s'.n2 s'.c2, .slice s'.A3 s'.n3 s'.c3, .int .i64 (L : Int), .int .i64 (was : Int), .int .i64 0, .slice B' ps.length d'] rfl rfl HTA.out info80 (by simp [Value.oneCell']) ?_
                  have HRX : Hid ((wq42.setCells bx 0 [.int .u8 5, .int .i64 0, .int .i64 1, .int .i64 2, .int .i64 4, .int .i64 0, .int .i64 0, .int .i64 0, .bool false, .slice none 0 0, .int .i64 i, .int .i64 t, .slice s'.A0 s'.n0 s'.c0, .slice s'.A1 s'.n1 s'.c1, .slice s'.A2 s'.n2 s'.c2, .slice s'.A3 s'.n3 s'.c3, .int .i64 (L : Int), .int .i64 (was : Int), .int .i64 0, .slice B' ps.length d']).rangeAt bx 0 [.int .u8 5, .int .i64 0, .int .i64 1, .int .i64 2, .int .i64 4, .int .i64 0, .int .i64 0, .int .i64 0, .bool false, .slice none 0 0, .int .i64 i, .int .i64 t, .slice s'.A0 s'.n0 s'.c0, .slice s'.A1 s'.n1 s'.c1, .slice s'.A2 s'.n2 s'.c2, .slice s'.A3 s'.n3 s'.c3, .int .i64 (L : Int), .int .i64 (was : Int), .int .i64 0, .slice B' ps.length d']) := Lib.hid (World.rangeAt_setCells_same wq42 bx 0 [.int .u8 5, .int .i64 0, .int .i64 1, .int .i64 2, .int .i64 4, .int .i64 0, .int .i64 0, .int .i64 0, .bool false, .slice none 0 0, .int .i64 i, .int .i64 t, .slice s'.A0 s'.n0 s'.c0, .slice s'.A1 s'.n1 s'.c1, .slice s'.A2 s'.n2 s'.c2, .slice s'.A3 s'.n3 s'.c3, .int .i64 (L : Int), .int .i64 (was : Int), .int .i64 0, .slice B' ps.length d'] HTA.out)
                  have HRM : Hid ((wq42.setCells bx 0 [.int .u8 5, .int .i64 0, .int .i64 1, .int .i64 2, .int .i64 4, .int .i64 0, .int .i64 0, .int .i64 0, .bool false, .slice none 0 0, .int .i64 i, .int .i64 t, .slice s'.A0 s'.n0 s'.c0, .slice s'.A1 s'.n1 s'.c1, .slice s'.A2 s'.n2 s'.c2, .slice s'.A3 s'.n3 s'.c3, .int .i64 (L : Int), .int .i64 (was : Int), .int .i64 0, .slice B' ps.length d']).rangeAt g 0 [.int .i64 i, .int .i64 t, .slice s.A0 s.n0 s.c0, .slice s.A1 s.n1 s.c1, .slice s.A2 s.n2 s.c2, .slice s.A3 s.n3 s.c3, .slice Ab L cb]) := Lib.hid (World.rangeAt_setCells_apart HV42.out bx 0 _ (.inl (by have := HGB.out; have := HBOX.out; omega)))
                  have HOX : Hid (Ok wr (wq42.setCells bx 0 [.int .u8 5, .int .i64 0, .int .i64 1, .int .i64 2, .int .i64 4, .int .i64 0, .int .i64 0, .int .i64 0, .bool false, .slice none 0 0, .int .i64 i, .int .i64 t, .slice s'.A0 s'.n0 s'.c0, .slice s'.A1 s'.n1 s'.c1, .slice s'.A2 s'.n2 s'.c2, .slice s'.A3 s'.n3 s'.c3, .int .i64 (L : Int), .int .i64 (was : Int), .int .i64 0, .slice B' ps.length d'])) := Lib.hid (Ok.sets HGB.out _ _ _ HO42.out)
                  have HFX : Hid (∀ k, (wq42.setCells bx 0 [.int .u8 5, .int .i64 0, .int .i64 1, .int .i64 2, .int .i64 4, .int .i64 0, .int .i64 0, .int .i64 0, .bool false, .slice none 0 0, .int .i64 i, .int .i64 t, .slice s'.A0 s'.n0 s'.c0, .slice s'.A1 s'.n1 s'.c1, .slice s'.A2 s'.n2 s'.c2, .slice s'.A3 s'.n3 s'.c3, .int .i64 (L : Int), .int .i64 (was : Int), .int .i64 0, .slice B' ps.length d']).frozen? ⟨bx, k, none⟩ = false) := Lib.hid (fun k => by rw [World.frozen?_setCells]; exact HFA.out k)
                  have HCX : Hid (CfgOwn (wq42.setCells bx 0 [.int .u8 5, .int .i64 0, .int .i64 1, .int .i64 2, .int .i64 4, .int .i64 0, .int .i64 0, .int .i64 0, .bool false, .slice none 0 0, .int .i64 i, .int .i64 t, .slice s'.A0 s'.n0 s'.c0, .slice s'.A1 s'.n1 s'.c1, .slice s'.A2 s'.n2 s'.c2, .slice s'.A3 s'.n3 s'.c3, .int .i64 (L : Int), .int .i64 (was : Int), .int .i64 0, .slice B' ps.length d']) wr.heap.size s' cf) := Lib.hid (((sets_own [.int .u8 5, .int .i64 0, .int .i64 1, .int .i64 2, .int .i64 4, .int .i64 0, .int .i64 0, .int .i64 0, .bool false, .slice none 0 0, .int .i64 i, .int .i64 t, .slice s'.A0 s'.n0 s'.c0, .slice s'.A1 s'.n1 s'.c1, .slice s'.A2 s'.n2 s'.c2, .slice s'.A3 s'.n3 s'.c3, .int .i64 (L : Int), .int .i64 (was : Int), .int .i64 0, .slice B' ps.length d'] 0 wq42 _ HBF.out).1 HCF.out).lower HSZF.out)
                  have HNX : Hid (OwnN (wq42.setCells bx 0 [.int .u8 5, .int .i64 0, .int .i64 1, .int .i64 2, .int .i64 4, .int .i64 0, .int .i64 0, .int .i64 0, .bool false, .slice none 0 0, .int .i64 i, .int .i64 t, .slice s'.A0 s'.n0 s'.c0, .slice s'.A1 s'.n1 s'.c1, .slice s'.A2 s'.n2 s'.c2, .slice s'.A3 s'.n3 s'.c3, .int .i64 (L : Int), .int .i64 (was : Int), .int .i64 0, .slice B' ps.length d']) wr.heap.size (.slice B' ps.length d') ps) := Lib.hid (((sets_own [.int .u8 5, .int .i64 0, .int .i64 1, .int .i64 2, .int .i64 4, .int .i64 0, .int .i64 0, .int .i64 0, .bool false, .slice none 0 0, .int .i64 i, .int .i64 t, .slice s'.A0 s'.n0 s'.c0, .slice s'.A1 s'.n1 s'.c1, .slice s'.A2 s'.n2 s'.c2, .slice s'.A3 s'.n3 s'.c3, .int .i64 (L : Int), .int .i64 (was : Int), .int .i64 0, .slice B' ps.length d'] 0 wq42 _ HBF.out).2 HBY.out).lower HSZF.out)
                  have HEX : Hid (∀ v, CfgOwn ((wq42.setCells bx 0 [.int .u8 5, .int .i64 0, .int .i64 1, .int .i64 2, .int .i64 4, .int .i64 0, .int .i64 0, .int .i64 0, .bool false, .slice none 0 0, .int .i64 i, .int .i64 t, .slice s'.A0 s'.n0 s'.c0, .slice s'.A1 s'.n1 s'.c1, .slice s'.A2 s'.n2 s'.c2, .slice s'.A3 s'.n3 s'.c3, .int .i64 (L : Int), .int .i64 (was : Int), .int .i64 0, .slice B' ps.length d']).setCell ⟨bx, 4, none⟩ v) wr.heap.size s' cf ∧ OwnN ((wq42.setCells bx 0 [.int .u8 5, .int .i64 0, .int .i64 1, .int .i64 2, .int .i64 4, .int .i64 0, .int .i64 0, .int .i64 0, .bool false, .slice none 0 0, .int .i64 i, .int .i64 t, .slice s'.A0 s'.n0 s'.c0, .slice s'.A1 s'.n1 s'.c1, .slice s'.A2 s'.n2 s'.c2, .slice s'.A3 s'.n3 s'.c3, .int .i64 (L : Int), .int .i64 (was : Int), .int .i64 0, .slice B' ps.length d']).setCell ⟨bx, 4, none⟩ v) wr.heap.size (.slice B' ps.length d') ps) := Lib.hid (fun v => ⟨(((sets_own [.int .u8 5, .int .i64 0, .int .i64 1, .int .i64 2, .int .i64 4, .int .i64 0, .int .i64 0, .int .i64 0, .bool false, .slice none 0 0, .int .i64 i, .int .i64 t, .slice s'.A0 s'.n0 s'.c0, .slice s'.A1 s'.n1 s'.c1, .slice s'.A2 s'.n2 s'.c2, .slice s'.A3 s'.n3 s'.c3, .int .i64 (L : Int), .int .i64 (was : Int), .int .i64 0, .slice B' ps.length d'] 0 wq42 _ HBF.out).1 HCF.out).set bx 4 v HBF.out).lower HSZF.out, (((sets_own [.int .u8 5, .int .i64 0, .int .i64 1, .int .i64 2, .int .i64 4, .int .i64 0, .int .i64 0, .int .i64 0, .bool false, .slice none 0 0, .int .i64 i, .int .i64 t, .slice s'.A0 s'.n0 s'.c0, .slice s'.A1 s'.n1 s'.c1, .slice s'.A2 s'.n2 s'.c2, .slice s'.A3 s'.n3 s'.c3, .int .i64 (L : Int), .int .i64 (was : Int), .int .i64 0, .slice B' ps.length d'] 0 wq42 _ HBF.out).2 HBY.out).set bx 4 v HBF.out).lower HSZF.out⟩)
                  have HBZ : Hid (bx < (wq42.setCells bx 0 [.int .u8 5, .int .i64 0, .int .i64 1, .int .i64 2, .int .i64 4, .int .i64 0, .int .i64 0, .int .i64 0, .bool false, .slice none 0 0, .int .i64 i, .int .i64 t, .slice s'.A0 s'.n0 s'.c0, .slice s'.A1 s'.n1 s'.c1, .slice s'.A2 s'.n2 s'.c2, .slice s'.A3 s'.n3 s'.c3, .int .i64 (L : Int), .int .i64 (was : Int), .int .i64 0, .slice B' ps.length d']).heap.size) := Lib.hid (World.block_lt_of_cell? _ _ (HRX.out 0 _ rfl))
                  generalize wq42.setCells bx 0 [.int .u8 5, .int .i64 0, .int .i64 1, .int .i64 2, .int .i64 4, .int .i64 0, .int .i64 0, .int .i64 0, .bool false, .slice none 0 0, .int .i64 i, .int .i64 t, .slice s'.A0 s'.n0 s'.c0, .slice s'.A1 s'.n1 s'.c1, .slice s'.A2 s'.n2 s'.c2, .slice s'.A3 s'.n3 s'.c3, .int .i64 (L : Int), .int .i64 (was : Int), .int .i64 0, .slice B' ps.length d'] = wX at *
                  refine HK.out.out _ _ HRM.out (fun hJ => ?_)
                  clear hJ HK K
                  try go_frame
                  refine wpAnyH_take (i := 10) (v := ?vp10u46) rfl (by kernel_rfl) (by kernel_rfl) (by kernel_rfl) (fun _ _ _ h => h) (Or.inl ⟨by rfl, ?hyp10u46⟩) (by exact HRM.out) ?restp10u46
                  case hyp10u46 => ((intro w hSw); clear hSw; go_simp; (try with_reducible rfl))
                  try go_frame
                  refine wpAnyH_done (by kernel_rfl) ?_ _
                  go_simp
                  first | (refine Met.intro ?_; refine hK1 _ _ (Met.intro ?_)) | refine hK1 _ _ (Met.intro ?_)
                  exact HJ0.out _ _ ⟨_, _, _, _, _, _, _, _, _, _, ⟨bx, s', B', d', rfl, rfl, HRX.out, HFX.out, HCX.out, HNX.out, HGB.out, HBZ.out, HOX.out, HEX.out⟩, rfl⟩
              case rest =>
                obtain ⟨bx, s', B', d', rfl, rfl, hrx, hfx, hcx, hnx, hgb, hbz, hox, hex⟩ := hcut
                have HRX := Lib.hid hrx
                have HCX := Lib.hid hcx
                have HNX := Lib.hid hnx
                have HGB := Lib.hid hgb
                have HOX := Lib.hid hox
                clear hrx hfx hcx hnx hgb hbz hox hex
                go_upto_region 32 with fail
                rename_i K17 hK17
                have HK17 := Lib.hid hK17
                clear hK17
                refine wp_region_lit ?_
                refine wpList_step (fun K hK => ?_)
                rw [if_pos (by rfl)]
                go_simp
                refine hK _ _ ?_
                clear hK K
                try go_frame
                refine wpList_load_w (by rfl) 80 (.tmp 19) rfl bx 0 rfl [.int .u8 5, .int .i64 0, .int .i64 1, .int .i64 2, .int .i64 4, .int .i64 0, .int .i64 0, .int .i64 0, .bool false, .slice none 0 0, .int .i64 i, .int .i64 t, .slice s'.A0 s'.n0 s'.c0, .slice s'.A1 s'.n1 s'.c1, .slice s'.A2 s'.n2 s'.c2, .slice s'.A3 s'.n3 s'.c3, .int .i64 (L : Int), .int .i64 (was : Int), .int .i64 0, .slice B' ps.length d'] d80 HRX.out HD.out.1 HD.out.2 info80 ?_
                try go_frame
                refine wpList_step (fun K hK => ?_)
                rw [if_pos (by rfl)]
                go_simp
                (with_reducible refine (take_any W1 wr wc p HP.out 4 i t s' cf L was was ps.length d' B' bs ps HL.out HPS.out rfl hb1 (Nat.le_refl _) hwL (.inl rfl) HOK.out HFS.out HOX.out HCX.out HNX.out l0 l1 l2 l3).mono ?_)
                rintro _ wq ⟨now, wh, i', t', s2, A2, m2, c2, nw, rfl, h0, hf, hh⟩
                have HQ0 := Lib.hid h0
                have HQF := Lib.hid hf
                have HQH := Lib.hid hh
                clear h0 hf hh
                refine hK _ _ ?_
                clear hK K
                try go_frame
                refine wpList_step (fun K hK => ?_)
                rw [if_pos (by rfl)]
                go_simp
                refine hK _ _ ?_
                clear hK K
                try go_frame
                refine wpList_step (fun K hK => ?_)
                rw [if_pos (by rfl)]
                go_simp
                refine hK _ _ ?_
                clear hK K
                try go_frame
                refine wpList_step (fun K hK => ?_)
                rw [if_pos (by rfl)]
                go_simp
                refine hK _ _ ?_
                clear hK K
                try go_frame
                refine wpList_step (fun K hK => ?_)
                rw [if_pos (by rfl)]
                go_simp
                refine hK _ _ ?_
                clear hK K
                try go_frame
                have HTH : Hid ((wq.alloc (.cells #[.int .i64 0, .int .i64 0, .slice none 0 0, .slice none 0 0, .slice none 0 0, .slice none 0 0, .slice none 0 0] 75)).there wq.heap.size 0 7) := Lib.hid (there_new wq #[.int .i64 0, .int .i64 0, .slice none 0 0, .slice none 0 0, .slice none 0 0, .slice none 0 0, .slice none 0 0] 75)
                obtain ⟨bz, hbz⟩ : ∃ bz, wq.heap.size = bz := ⟨_, rfl⟩
                have HFIN := Lib.hid (taken_new W1 wr wc wq p i t L bs cf 4 was was bx bz hbz [.int .u8 5, .int .i64 0, .int .i64 1, .int .i64 2, .int .i64 4, .int .i64 0, .int .i64 0, .int .i64 0, .bool false, .slice none 0 0, .int .i64 i, .int .i64 t, .slice s'.A0 s'.n0 s'.c0, .slice s'.A1 s'.n1 s'.c1, .slice s'.A2 s'.n2 s'.c2, .slice s'.A3 s'.n3 s'.c3, .int .i64 (L : Int), .int .i64 (was : Int), .int .i64 0, .slice B' ps.length d'] now wh i' t' s2 A2 m2 c2 nw (by have := HAL.out; omega) l0 l1 l2 l3 HGB.out HRX.out HQ0.out HQF.out HQH.out)
                refine wpList_step (fun K hK => ?_)
                rw [if_pos (by rfl)]
                go_simp
                refine hK _ _ ?_
                clear hK K
                try go_frame
                rw [hbz] at HTH
                clear hbz HQ0 HQF HQH
                generalize wq.alloc (.cells #[.int .i64 0, .int .i64 0, .slice none 0 0, .slice none 0 0, .slice none 0 0, .slice none 0 0, .slice none 0 0] 75) = wz at *
                refine wpList_step (fun K hK => ?_)
                rw [if_pos (by rfl)]
                go_simp
                refine hK _ _ ?_
                clear hK K
                try go_frame
                refine wpList_step (fun K hK => ?_)
                rw [if_pos (by rfl)]
                go_simp
                refine hK _ _ ?_
                clear hK K
                try go_frame
                refine wpList_store_mid rfl 75 (.tmp 23) (.tmp 146) rfl bz 0 #[.int .i64 i', .int .i64 t', .slice s2.A0 s2.n0 s2.c0, .slice s2.A1 s2.n1 s2.c1, .slice s2.A2 s2.n2 s2.c2, .slice s2.A3 s2.n3 s2.c3, .slice A2 m2 c2] rfl rfl HTH.out info75 (by simp [Value.oneCell']) ?_
                have HT : Hid (TakR W1 p i t L bs cf 4 was was bx [.int .u8 5, .int .i64 0, .int .i64 1, .int .i64 2, .int .i64 4, .int .i64 0, .int .i64 0, .int .i64 0, .bool false, .slice none 0 0, .int .i64 i, .int .i64 t, .slice s'.A0 s'.n0 s'.c0, .slice s'.A1 s'.n1 s'.c1, .slice s'.A2 s'.n2 s'.c2, .slice s'.A3 s'.n3 s'.c3, .int .i64 (L : Int), .int .i64 (was : Int), .int .i64 0, .slice B' ps.length d'] (.int .i64 (now : Int)) (.bool wh) (.pointer (some ⟨bz, 0, none⟩)) (wz.setCells bz 0 [.int .i64 i', .int .i64 t', .slice s2.A0 s2.n0 s2.c0, .slice s2.A1 s2.n1 s2.c1, .slice s2.A2 s2.n2 s2.c2, .slice s2.A3 s2.n3 s2.c3, .slice A2 m2 c2])) := HFIN
                clear HFIN HTH
                generalize wz.setCells bz 0 [.int .i64 i', .int .i64 t', .slice s2.A0 s2.n0 s2.c0, .slice s2.A1 s2.n1 s2.c1, .slice s2.A2 s2.n2 s2.c2, .slice s2.A3 s2.n3 s2.c3, .slice A2 m2 c2] = wX at *
                clear HRX HCX HNX HOX
                try go_frame
                refine wpList_nil ?_
                refine HK17.out _ _ ?_
                clear HK17
                obtain ⟨now', wh', bz', i'', t'', s3, A3, m3, c3, nw', e1, e2, e3, hok2, hx2, hz2, hf2, hh⟩ := HT.out
                clear HT
                simp only [Value.int.injEq, true_and, Int.natCast_inj, Value.bool.injEq, Value.pointer.injEq, Option.some.injEq, Addr.mk.injEq, and_true] at e1 e2 e3
                subst e1 e2 e3
                have HOK2 := Lib.hid hok2
                have HX2 := Lib.hid hx2
                have HZ2 := Lib.hid hz2
                have HF2 := Lib.hid hf2
                clear hok2 hx2 hz2 hf2
                have HRm := Lib.hid (HRR.out _ HOK2.out)
                have HMm := Lib.hid (HMM.out _ HOK2.out)
                have hnow : now = min (was + 600) L := by rcases hh with ⟨_, _, _, ⟨_, h1, _, h2, _⟩ | ⟨h, _⟩⟩ | ⟨_, h1, _, _, _, _, _, _, h2, _⟩ <;> omega
                have HNOW := Lib.hid hnow
                clear hnow
                rcases hh with ⟨rfl, hn1, hn2, hn3⟩ | ⟨rfl, e2, e3, e4, e5, e6, hcc, hbb, -, e9⟩
                · have hq : now = nw' ∧ now = was + 600 ∧ was + 600 < L := by have := HNOW.out; rcases hn3 with ⟨_, h1, h2, h3, h4⟩ | ⟨h, _⟩ <;> omega
                  have HQ := Lib.hid hq
                  have d7 : ((L : Int) < (was : Int) + 600) = False := eq_false (by omega)
                  have d6 : ((now : Int) != (was : Int) + 600) = false := by rw [hq.2.1]; simp
                  clear hq hn1 hn2 hn3
                  go_wp2_with fail
                  have hq := HQ.out
                  have hwk := HWK.out
                  have hk1 : 600 * (k + 1) = nw' := by omega
                  refine ⟨⟨k + 1, by omega, by rw [hk1, hq.1], by go_num, HOK2.out, by rw [hk1]; exact HF2.out⟩, ?_⟩
                  show L + 1 - ((k : Int) + 1).toNat < L + 1 - (k : Int).toNat
                  omega
                · obtain rfl := e2.symm
                  obtain rfl := e3.symm
                  obtain rfl := e4.symm
                  obtain rfl := e5.symm
                  obtain rfl := e6.symm
                  clear e9
                  have HCC := Lib.hid hcc
                  have HBB := Lib.hid hbb
                  clear hcc hbb
                  by_cases h6 : L < was + 600
                  · have d7 : ((L : Int) < (was : Int) + 600) = True := eq_true (by omega)
                    go_upto_region 36 with fail
                    rename_i K36 hK36
                    have HK36 := Lib.hid hK36
                    clear hK36
                    refine wp_region_lit ?_
                    refine wpList_load_w (by rfl) 75 (.tmp 23) rfl bz 0 rfl [.int .i64 i, .int .i64 t, .slice s3.A0 s3.n0 s3.c0, .slice s3.A1 s3.n1 s3.c1, .slice s3.A2 s3.n2 s3.c2, .slice s3.A3 s3.n3 s3.c3, .slice A3 L c3] d75 HZ2.out HD75.out.1 HD75.out.2 info75 ?_
                    try go_frame
                    refine wpList_load_w (by rfl) 75 (.tmp 7) rfl g 0 rfl [.int .i64 i, .int .i64 t, .slice s.A0 s.n0 s.c0, .slice s.A1 s.n1 s.c1, .slice s.A2 s.n2 s.c2, .slice s.A3 s.n3 s.c3, .slice Ab L cb] d75 HRm.out HD75.out.1 HD75.out.2 info75 ?_
                    try go_frame
                    refine wpList_step (fun K hK => ?_)
                    rw [if_pos (by rfl)]
                    go_simp
                    (with_reducible refine (sameImage_f i t s3 s cf A3 Ab L L c3 cb bs wX HCC.out HMm.out.1 HBB.out HMm.out.2).mono ?_)
                    rintro _ w8 ⟨rfl, ok8⟩
                    refine hK _ _ ?_
                    clear hK K
                    try go_frame
                    refine wpList_step (fun K hK => ?_)
                    rw [if_pos (by rfl)]
                    go_simp
                    refine hK _ _ ?_
                    clear hK K
                    try go_frame
                    refine wpList_nil ?_
                    refine HK36.out _ _ ?_
                    clear HK36
                    go_wp2_with fail
                    go_ret
                    exact ⟨rfl, HO4.out.trans (HOK2.out.trans ok8)⟩
                  · have d7 : ((L : Int) < (was : Int) + 600) = False := eq_false (by omega)
                    have d6 : ((L : Int) != (was : Int) + 600) = false := by rw [show (L : Int) = (was : Int) + 600 from by have := HNOW.out; omega]; simp
                    go_upto_region 36 with fail
                    rename_i K36 hK36
                    have HK36 := Lib.hid hK36
                    clear hK36
                    refine wp_region_lit ?_
                    refine wpList_load_w (by rfl) 75 (.tmp 23) rfl bz 0 rfl [.int .i64 i, .int .i64 t, .slice s3.A0 s3.n0 s3.c0, .slice s3.A1 s3.n1 s3.c1, .slice s3.A2 s3.n2 s3.c2, .slice s3.A3 s3.n3 s3.c3, .slice A3 L c3] d75 HZ2.out HD75.out.1 HD75.out.2 info75 ?_
                    try go_frame
                    refine wpList_load_w (by rfl) 75 (.tmp 7) rfl g 0 rfl [.int .i64 i, .int .i64 t, .slice s.A0 s.n0 s.c0, .slice s.A1 s.n1 s.c1, .slice s.A2 s.n2 s.c2, .slice s.A3 s.n3 s.c3, .slice Ab L cb] d75 HRm.out HD75.out.1 HD75.out.2 info75 ?_
                    try go_frame
                    refine wpList_step (fun K hK => ?_)
                    rw [if_pos (by rfl)]
                    go_simp
                    (with_reducible refine (sameImage_f i t s3 s cf A3 Ab L L c3 cb bs wX HCC.out HMm.out.1 HBB.out HMm.out.2).mono ?_)
                    rintro _ w8 ⟨rfl, ok8⟩
                    refine hK _ _ ?_
                    clear hK K
                    try go_frame
                    refine wpList_step (fun K hK => ?_)
                    rw [if_pos (by rfl)]
                    go_simp
                    refine hK _ _ ?_
                    clear hK K
                    try go_frame
                    refine wpList_nil ?_
                    refine HK36.out _ _ ?_
                    clear HK36
                    go_wp2_with fail
                    go_ret
                    exact ⟨rfl, HO4.out.trans (HOK2.out.trans ok8)⟩
      · have d3 : decide (40 < Q) = true := decide_eq_true (by omega)
        go_wp2_with fail
        go_ret
        exact ⟨rfl, HO3.out⟩
    · have d1 : decide (4000 < L) = false := decide_eq_false (by omega)
      have d2 : decide (40 < n2) = true := decide_eq_true (by omega)
      go_wp2_with fail
      go_ret
      exact ⟨rfl, HO2.out⟩
  · have d1 : decide (4000 < L) = true := decide_eq_true (by omega)
    go_wp2_with fail
    go_ret
    exact ⟨rfl, HO2.out⟩
end Go.Proofs.Ytnjaiiifafbbjaa
