/- The ferry's example, awake. -/
import Derived.Test.YtolfdncmlfnbdaaLg
namespace Go.Proofs.Ytolfdncmlfnbdaa
open Go.RowKit

theorem plain_z (z : Int) (n : Nat) (W : World) (hz : z = (n : Int)) (hn : n ≤ 100000) : Calls Try.prog 81 #[.int .i64 z] W (PlainP W n) := by
  subst hz
  exact plain_f n W hn
set_option maxRecDepth 100000 in
set_option maxHeartbeats 16000000 in
theorem awake_f (W : World) : Calls Try.prog 62 #[] W fun e w' => e = .returned (.bool true) ∧ Ok W w' := by
  obtain ⟨d75, hd75, hrow75⟩ : ∃ d, Try.prog.underlying 97 = some d ∧ d.isRow = true := ⟨_, Try.underlying97, rfl⟩
  have HD75 := Lib.hid (And.intro hd75 hrow75)
  obtain ⟨d80, hd80, hrow80⟩ : ∃ d, Try.prog.underlying 95 = some d ∧ d.isRow = true := ⟨_, Try.underlying95, rfl⟩
  have HD := Lib.hid (And.intro hd80 hrow80)
  clear hd75 hrow75 hd80 hrow80
  go_enter Try.func62, Try.ntmps62
  go_upto_region 1 with fail
  rename_i K1 hK1
  have HK1 := Lib.hid hK1
  clear hK1
  refine wp_region_lit ?_
  refine wpList_step (fun K hK => ?_)
  rw [if_pos (by rfl)]
  go_simp
  refine (plain_z _ 1000 W (by rfl) (by omega)).mono ?_
  rintro _ w1 ⟨A, c, bs, rfl, hb, hl, ok1⟩
  have HB := Lib.hid hb
  have HL0 := Lib.hid hl
  have HO1 := Lib.hid ok1
  clear hb hl ok1
  refine hK _ _ ?_
  clear hK K
  try go_frame
  have HTH : Hid ((w1.alloc (.cells #[.int .i64 0, .int .i64 0, .slice none 0 0, .slice none 0 0, .slice none 0 0, .slice none 0 0, .slice none 0 0] 97)).there w1.heap.size 0 7) := Lib.hid (there_new w1 #[.int .i64 0, .int .i64 0, .slice none 0 0, .slice none 0 0, .slice none 0 0, .slice none 0 0, .slice none 0 0] 97)
  have HOA : Hid (Ok W (w1.alloc (.cells #[.int .i64 0, .int .i64 0, .slice none 0 0, .slice none 0 0, .slice none 0 0, .slice none 0 0, .slice none 0 0] 97))) := Lib.hid (HO1.out.alloc _)
  have HGE : Hid (W.heap.size ≤ w1.heap.size) := Lib.hid HO1.out.size
  have HGL : Hid (w1.heap.size < (w1.alloc (.cells #[.int .i64 0, .int .i64 0, .slice none 0 0, .slice none 0 0, .slice none 0 0, .slice none 0 0, .slice none 0 0] 97)).heap.size) := Lib.hid (by rw [World.size_alloc]; omega)
  refine wpList_step (fun K hK => ?_)
  rw [if_pos (by rfl)]
  go_simp
  refine hK _ _ ?_
  clear hK K
  try go_frame
  have HBB : Hid (Ok w1 ((w1.alloc (.cells #[.int .i64 0, .int .i64 0, .slice none 0 0, .slice none 0 0, .slice none 0 0, .slice none 0 0, .slice none 0 0] 97)).setCells w1.heap.size 0 [.int .i64 3, .int .i64 2, .slice none 0 0, .slice none 0 0, .slice none 0 0, .slice none 0 0, .slice A 1000 c])) := Lib.hid (Ok.sets (Nat.le_refl _) _ _ _ ((Ok.refl w1).alloc _))
  refine wpList_store_mid rfl 97 (.tmp 1) (.tmp 13) rfl w1.heap.size 0 #[.int .i64 3, .int .i64 2, .slice none 0 0, .slice none 0 0, .slice none 0 0, .slice none 0 0, .slice A 1000 c] rfl rfl HTH.out info75 (by simp [Value.oneCell']) ?_
  have HRR0 : Hid (((w1.alloc (.cells #[.int .i64 0, .int .i64 0, .slice none 0 0, .slice none 0 0, .slice none 0 0, .slice none 0 0, .slice none 0 0] 97)).setCells w1.heap.size 0 [.int .i64 3, .int .i64 2, .slice none 0 0, .slice none 0 0, .slice none 0 0, .slice none 0 0, .slice A 1000 c]).rangeAt w1.heap.size 0 [.int .i64 3, .int .i64 2, .slice none 0 0, .slice none 0 0, .slice none 0 0, .slice none 0 0, .slice A 1000 c]) := Lib.hid (World.rangeAt_setCells_same _ _ 0 _ HTH.out)
  have HOW : Hid (Ok W ((w1.alloc (.cells #[.int .i64 0, .int .i64 0, .slice none 0 0, .slice none 0 0, .slice none 0 0, .slice none 0 0, .slice none 0 0] 97)).setCells w1.heap.size 0 [.int .i64 3, .int .i64 2, .slice none 0 0, .slice none 0 0, .slice none 0 0, .slice none 0 0, .slice A 1000 c])) := Lib.hid (HO1.out.trans HBB.out)
  have HBY := Lib.hid (HBB.out.bytes HB.out)
  clear HB HTH HOA HGE HGL HBB HO1
  generalize (w1.alloc (.cells #[.int .i64 0, .int .i64 0, .slice none 0 0, .slice none 0 0, .slice none 0 0, .slice none 0 0, .slice none 0 0] 97)).setCells w1.heap.size 0 [.int .i64 3, .int .i64 2, .slice none 0 0, .slice none 0 0, .slice none 0 0, .slice none 0 0, .slice A 1000 c] = w2 at *
  generalize w1.heap.size = g at *
  try go_frame
  refine wpList_nil ?_
  refine HK1.out _ _ ?_
  clear HK1
  obtain ⟨i, t, s, cf, L, hi⟩ : ∃ (i t : Int) (s : S4) (cf : Cfg) (L : Nat), i = 3 ∧ t = 2 ∧ s = ⟨none, 0, 0, none, 0, 0, none, 0, 0, none, 0, 0⟩ ∧ cf = ⟨[], [], [], []⟩ ∧ L = 1000 := ⟨_, _, _, _, _, rfl, rfl, rfl, rfl, rfl⟩
  have HI := Lib.hid hi
  have HLK : Hid (L = 1000) := Lib.hid hi.2.2.2.2
  have HL : Hid (L = bs.length) := Lib.hid (by rw [HLK.out, HL0.out])
  have HRR : Hid (∀ w', Ok w2 w' → w'.rangeAt g 0 [.int .i64 i, .int .i64 t, .slice s.A0 s.n0 s.c0, .slice s.A1 s.n1 s.c1, .slice s.A2 s.n2 s.c2, .slice s.A3 s.n3 s.c3, .slice A L c]) := Lib.hid (fun w' k j u hu => k.cell (HRR0.out j u (by obtain ⟨rfl, rfl, rfl, rfl, rfl⟩ := HI.out; exact hu)))
  have HMM : Hid (∀ w', Ok w2 w' → CfgAt w' s cf ∧ BytesIn w' (.slice A L c) bs) := Lib.hid (fun w' k => ⟨by obtain ⟨rfl, rfl, rfl, rfl, rfl⟩ := HI.out; exact cfg_nil w', by rw [HLK.out]; exact k.bytes HBY.out⟩)
  have l0 : cf.vs.length ≤ 100000 := by rw [hi.2.2.2.1]; exact Nat.zero_le _
  have l1 : cf.os.length ≤ 100000 := by rw [hi.2.2.2.1]; exact Nat.zero_le _
  have l2 : cf.ls.length ≤ 100000 := by rw [hi.2.2.2.1]; exact Nat.zero_le _
  have l3 : cf.ws.length ≤ 100000 := by rw [hi.2.2.2.1]; exact Nat.zero_le _
  clear hi HRR0 HBY
  obtain ⟨a0, ha0⟩ : ∃ a0 : Nat, a0 = 0 := ⟨_, rfl⟩
  have HA0 := Lib.hid ha0
  have HZ0 : Hid ((0 : Int) = (a0 : Int)) := Lib.hid (by omega)
  obtain ⟨a6, ha6⟩ : ∃ a6 : Nat, a6 = 600 := ⟨_, rfl⟩
  have HA6 := Lib.hid ha6
  have HZ6 : Hid ((600 : Int) = (a6 : Int)) := Lib.hid (by omega)
  have HO0 : Hid (Ok w2 w2) := Lib.hid (Ok.refl w2)
  clear ha0 ha6
  obtain ⟨ps0, hps0⟩ : ∃ ps, (bs.drop a0).take 600 = ps := ⟨_, rfl⟩
  have HPS0 := Lib.hid hps0
  have HAL : Hid (a0 ≤ bs.length ∧ bs.length ≤ 100000) := Lib.hid (by have := HL.out; have := HLK.out; have := HA0.out; omega)
  have HRw0 : Hid (w2.rangeAt g 0 [.int .i64 i, .int .i64 t, .slice s.A0 s.n0 s.c0, .slice s.A1 s.n1 s.c1, .slice s.A2 s.n2 s.c2, .slice s.A3 s.n3 s.c3, .slice A L c]) := Lib.hid (HRR.out _ HO0.out)
  have HMw0 : Hid (∀ w', Ok w2 w' → CfgAt w' s cf ∧ BytesIn w' (.slice A L c) bs) := Lib.hid (fun w' k => HMM.out w' (HO0.out.trans k))
  have HBOX : Hid (g < w2.heap.size) := Lib.hid (World.block_lt_of_cell? _ _ (HRw0.out 0 _ rfl))
  clear hps0
  go_upto_region 2 with fail
  go_cut [2, 3] from 14 to 21 (fun x ok wx => PcR w2 i t cf a0 L ps0 x ok wx)
  case first =>
    rename_i J0 K1 hJ0 hK1
    have HJ0 := Lib.hid hJ0
    clear hJ0
    refine wp_region_held_drew (S := fun v => v.rangeAt g 0 [.int .i64 i, .int .i64 t, .slice s.A0 s.n0 s.c0, .slice s.A1 s.n1 s.c1, .slice s.A2 s.n2 s.c2, .slice s.A3 s.n3 s.c3, .slice A L c]) (by kernel_rfl) (fun j u hu => ((Ok.refl w2).drew).cell (HRw0.out j u hu)) ?_
    intro hS
    have HOs : Hid (Ok w2 w2.drew) := Lib.hid ((Ok.refl w2).drew)
    have HSs := Lib.hid hS
    clear hS
    generalize w2.drew = ws at *
    refine wpAnyH_take (i := 0) (v := _) rfl (by kernel_rfl) (by kernel_rfl) (by kernel_rfl) (fun _ _ _ h => h) (yieldsIf_load_mid ?hwp0u23 97 (.tmp 1) rfl g 0 rfl [.int .i64 i, .int .i64 t, .slice s.A0 s.n0 s.c0, .slice s.A1 s.n1 s.c1, .slice s.A2 s.n2 s.c2, .slice s.A3 s.n3 s.c3, .slice A L c] d75 (fun v h => h) HD75.out.1 HD75.out.2 info75) HSs.out ?restp0u23
    case hwp0u23 => rfl
    try go_frame
    refine wpAnyH_take (i := 2) (v := _) rfl (by kernel_rfl) (by kernel_rfl) (by kernel_rfl) (fun _ _ _ h => h) (yieldsIf_load_mid ?hwp2u24 97 (.tmp 1) rfl g 0 rfl [.int .i64 i, .int .i64 t, .slice s.A0 s.n0 s.c0, .slice s.A1 s.n1 s.c1, .slice s.A2 s.n2 s.c2, .slice s.A3 s.n3 s.c3, .slice A L c] d75 (fun v h => h) HD75.out.1 HD75.out.2 info75) HSs.out ?restp2u24
    case hwp2u24 => rfl
    try go_frame
    refine wpAnyH_ready (rs := [1, 7]) (by kernel_rfl) (by simp) (AllReadyH.cons rfl (fun K hK => ?_) (AllReadyH.cons rfl (fun K hK => ?_) AllReadyH.nil))
    · have HK := Lib.hid hK
      clear hK
      go_simp
      (with_reducible refine (asks_f i t 0 s L c A ws).mono ?_)
      rintro _ wq25 ⟨rfl, ok⟩
      have HO25 : Hid (Ok w2 wq25) := Lib.hid (HOs.out.trans ok)
      have HV25 : Hid (wq25.rangeAt g 0 [.int .i64 i, .int .i64 t, .slice s.A0 s.n0 s.c0, .slice s.A1 s.n1 s.c1, .slice s.A2 s.n2 s.c2, .slice s.A3 s.n3 s.c3, .slice A L c]) := Lib.hid (fun j u hu => ok.cell (HSs.out j u hu))
      clear ok
      refine HK.out.out _ _ HV25.out (fun hJ => ?_)
      clear hJ HK K
      try go_frame
      refine wpAnyH_ready (rs := [3, 7]) (by kernel_rfl) (by simp) (AllReadyH.cons rfl (fun K hK => ?_) (AllReadyH.cons rfl (fun K hK => ?_) AllReadyH.nil))
      · have HK := Lib.hid hK
        clear hK
        go_simp
        (with_reducible refine (fill_z i t 0 s cf A L c a0 bs wq25 HZ0.out (HMw0.out _ HO25.out).1 (HMw0.out _ HO25.out).2 (by have := HAL.out; omega) (by have := HAL.out; omega) l0 l1 l2 l3).mono ?_)
        rintro _ wq26 ⟨s', B', d', rfl, hcf, hby, ok⟩
        rw [HPS0.out] at hby ⊢
        rw [← HL.out]
        have HO26 : Hid (Ok w2 wq26) := Lib.hid (HO25.out.trans ok)
        have HV26 : Hid (wq26.rangeAt g 0 [.int .i64 i, .int .i64 t, .slice s.A0 s.n0 s.c0, .slice s.A1 s.n1 s.c1, .slice s.A2 s.n2 s.c2, .slice s.A3 s.n3 s.c3, .slice A L c]) := Lib.hid (fun j u hu => ok.cell (HV25.out j u hu))
        have HCF := Lib.hid hcf
        have HBY := Lib.hid hby
        have HSZF : Hid (w2.heap.size ≤ wq25.heap.size) := Lib.hid HO25.out.size
        clear ok hcf hby
        refine HK.out.out _ _ HV26.out (fun hJ => ?_)
        clear hJ HK K
        try go_frame
        refine wpAnyH_take (i := 4) (v := ?vp4u27) rfl (by kernel_rfl) (by kernel_rfl) (by kernel_rfl) (fun _ _ _ h => h) (Or.inl ⟨by rfl, ?hyp4u27⟩) (by exact HV26.out) ?restp4u27
        case hyp4u27 => ((intro w hSw); clear hSw; go_simp; (try with_reducible rfl))
        try go_frame
        refine wpAnyH_take (i := 5) (v := ?vp5u28) rfl (by kernel_rfl) (by kernel_rfl) (by kernel_rfl) (fun _ _ _ h => h) (Or.inl ⟨by rfl, ?hyp5u28⟩) (by exact HV26.out) ?restp5u28
        case hyp5u28 => ((intro w hSw); clear hSw; go_simp; (try with_reducible rfl))
        try go_frame
        refine wpAnyH_take (i := 6) (v := ?vp6u29) rfl (by kernel_rfl) (by kernel_rfl) (by kernel_rfl) (fun _ _ _ h => h) (Or.inl ⟨by rfl, ?hyp6u29⟩) (by exact HV26.out) ?restp6u29
        case hyp6u29 => ((intro w hSw); clear hSw; go_simp; (try with_reducible rfl))
        try go_frame
        refine wpAnyH_ready (rs := [7]) (by kernel_rfl) (by simp) (AllReadyH.cons rfl (fun K hK => ?_) AllReadyH.nil)
        have HK := Lib.hid hK
        clear hK
        go_simp
        have HTA : Hid ((wq26.alloc (.cells #[.int .u8 0, .int .i64 0, .int .i64 0, .int .i64 0, .int .i64 0, .int .i64 0, .int .i64 0, .int .i64 0, .bool false, .slice none 0 0, .int .i64 0, .int .i64 0, .slice none 0 0, .slice none 0 0, .slice none 0 0, .slice none 0 0, .int .i64 0, .int .i64 0, .int .i64 0, .slice none 0 0] 95)).there wq26.heap.size 0 20) := Lib.hid (there_new wq26 #[.int .u8 0, .int .i64 0, .int .i64 0, .int .i64 0, .int .i64 0, .int .i64 0, .int .i64 0, .int .i64 0, .bool false, .slice none 0 0, .int .i64 0, .int .i64 0, .slice none 0 0, .slice none 0 0, .slice none 0 0, .slice none 0 0, .int .i64 0, .int .i64 0, .int .i64 0, .slice none 0 0] 95)
        have HFA : Hid (∀ k, (wq26.alloc (.cells #[.int .u8 0, .int .i64 0, .int .i64 0, .int .i64 0, .int .i64 0, .int .i64 0, .int .i64 0, .int .i64 0, .bool false, .slice none 0 0, .int .i64 0, .int .i64 0, .slice none 0 0, .slice none 0 0, .slice none 0 0, .slice none 0 0, .int .i64 0, .int .i64 0, .int .i64 0, .slice none 0 0] 95)).frozen? ⟨wq26.heap.size, k, none⟩ = false) := Lib.hid (fun k => by rw [World.frozen?, heap_alloc_new]; simp)
        have HBA : Hid (wq26.heap.size < (wq26.alloc (.cells #[.int .u8 0, .int .i64 0, .int .i64 0, .int .i64 0, .int .i64 0, .int .i64 0, .int .i64 0, .int .i64 0, .bool false, .slice none 0 0, .int .i64 0, .int .i64 0, .slice none 0 0, .slice none 0 0, .slice none 0 0, .slice none 0 0, .int .i64 0, .int .i64 0, .int .i64 0, .slice none 0 0] 95)).heap.size) := Lib.hid (by rw [World.size_alloc]; omega)
        have HOA : Hid (Ok wq26 (wq26.alloc (.cells #[.int .u8 0, .int .i64 0, .int .i64 0, .int .i64 0, .int .i64 0, .int .i64 0, .int .i64 0, .int .i64 0, .bool false, .slice none 0 0, .int .i64 0, .int .i64 0, .slice none 0 0, .slice none 0 0, .slice none 0 0, .slice none 0 0, .int .i64 0, .int .i64 0, .int .i64 0, .slice none 0 0] 95))) := Lib.hid ((Ok.refl _).alloc _)
        generalize wq26.alloc (.cells #[.int .u8 0, .int .i64 0, .int .i64 0, .int .i64 0, .int .i64 0, .int .i64 0, .int .i64 0, .int .i64 0, .bool false, .slice none 0 0, .int .i64 0, .int .i64 0, .slice none 0 0, .slice none 0 0, .slice none 0 0, .slice none 0 0, .int .i64 0, .int .i64 0, .int .i64 0, .slice none 0 0] 95) = wq30 at *
        obtain ⟨bx, hbx⟩ : ∃ bx, wq26.heap.size = bx := ⟨_, rfl⟩
        rw [hbx] at HTA HFA HBA ⊢
        have HBX : Hid (wq26.heap.size = bx) := Lib.hid hbx
        have HGB : Hid (w2.heap.size ≤ bx) := Lib.hid (by rw [← hbx]; exact HO26.out.size)
        clear hbx
        have HO30 : Hid (Ok w2 wq30) := Lib.hid (HO26.out.trans HOA.out)
        have HV30 : Hid (wq30.rangeAt g 0 [.int .i64 i, .int .i64 t, .slice s.A0 s.n0 s.c0, .slice s.A1 s.n1 s.c1, .slice s.A2 s.n2 s.c2, .slice s.A3 s.n3 s.c3, .slice A L c]) := Lib.hid (fun j u hu => HOA.out.cell (HV26.out j u hu))
        refine HK.out.out _ _ HV30.out (fun hJ => ?_)
        clear hJ HK K
        try go_frame
        refine wpAnyH_ready (rs := [8]) (by kernel_rfl) (by simp) (AllReadyH.cons rfl (fun K hK => ?_) AllReadyH.nil)
        have HK := Lib.hid hK
        clear hK
        rw [if_pos (by rfl)]
        refine wp_store_mid 95 (.tmp 2) (.tmp 19) rfl bx 0 #[.int .u8 5, .int .i64 0, .int .i64 1, .int .i64 2, .int .i64 4, .int .i64 0, .int .i64 0, .int .i64 0, .bool false, .slice none 0 0, .int .i64 i, .int .i64 t, .slice s'.A0 s'.n0 s'.c0, .slice s'.A1 s'.n1 s'.c1, .slice s'.A2 s'.n2 s'.c2, .slice s'.A3 s'.n3 s'.c3, .int .i64 (L : Int), .int .i64 (a0 : Int), .int .i64 0, .slice B' ps0.length d'] rfl rfl HTA.out info80 (by simp [Value.oneCell']) ?_
        have HRX : Hid ((wq30.setCells bx 0 [.int .u8 5, .int .i64 0, .int .i64 1, .int .i64 2, .int .i64 4, .int .i64 0, .int .i64 0, .int .i64 0, .bool false, .slice none 0 0, .int .i64 i, .int .i64 t, .slice s'.A0 s'.n0 s'.c0, .slice s'.A1 s'.n1 s'.c1, .slice s'.A2 s'.n2 s'.c2, .slice s'.A3 s'.n3 s'.c3, .int .i64 (L : Int), .int .i64 (a0 : Int), .int .i64 0, .slice B' ps0.length d']).rangeAt bx 0 [.int .u8 5, .int .i64 0, .int .i64 1, .int .i64 2, .int .i64 4, .int .i64 0, .int .i64 0, .int .i64 0, .bool false, .slice none 0 0, .int .i64 i, .int .i64 t, .slice s'.A0 s'.n0 s'.c0, .slice s'.A1 s'.n1 s'.c1, .slice s'.A2 s'.n2 s'.c2, .slice s'.A3 s'.n3 s'.c3, .int .i64 (L : Int), .int .i64 (a0 : Int), .int .i64 0, .slice B' ps0.length d']) := Lib.hid (World.rangeAt_setCells_same wq30 bx 0 [.int .u8 5, .int .i64 0, .int .i64 1, .int .i64 2, .int .i64 4, .int .i64 0, .int .i64 0, .int .i64 0, .bool false, .slice none 0 0, .int .i64 i, .int .i64 t, .slice s'.A0 s'.n0 s'.c0, .slice s'.A1 s'.n1 s'.c1, .slice s'.A2 s'.n2 s'.c2, .slice s'.A3 s'.n3 s'.c3, .int .i64 (L : Int), .int .i64 (a0 : Int), .int .i64 0, .slice B' ps0.length d'] HTA.out)
        have HRM : Hid ((wq30.setCells bx 0 [.int .u8 5, .int .i64 0, .int .i64 1, .int .i64 2, .int .i64 4, .int .i64 0, .int .i64 0, .int .i64 0, .bool false, .slice none 0 0, .int .i64 i, .int .i64 t, .slice s'.A0 s'.n0 s'.c0, .slice s'.A1 s'.n1 s'.c1, .slice s'.A2 s'.n2 s'.c2, .slice s'.A3 s'.n3 s'.c3, .int .i64 (L : Int), .int .i64 (a0 : Int), .int .i64 0, .slice B' ps0.length d']).rangeAt g 0 [.int .i64 i, .int .i64 t, .slice s.A0 s.n0 s.c0, .slice s.A1 s.n1 s.c1, .slice s.A2 s.n2 s.c2, .slice s.A3 s.n3 s.c3, .slice A L c]) := Lib.hid (World.rangeAt_setCells_apart HV30.out bx 0 _ (.inl (by have := HGB.out; have := HBOX.out; omega)))
        have HOX : Hid (Ok w2 (wq30.setCells bx 0 [.int .u8 5, .int .i64 0, .int .i64 1, .int .i64 2, .int .i64 4, .int .i64 0, .int .i64 0, .int .i64 0, .bool false, .slice none 0 0, .int .i64 i, .int .i64 t, .slice s'.A0 s'.n0 s'.c0, .slice s'.A1 s'.n1 s'.c1, .slice s'.A2 s'.n2 s'.c2, .slice s'.A3 s'.n3 s'.c3, .int .i64 (L : Int), .int .i64 (a0 : Int), .int .i64 0, .slice B' ps0.length d'])) := Lib.hid (Ok.sets HGB.out _ _ _ HO30.out)
        have HFX : Hid (∀ k, (wq30.setCells bx 0 [.int .u8 5, .int .i64 0, .int .i64 1, .int .i64 2, .int .i64 4, .int .i64 0, .int .i64 0, .int .i64 0, .bool false, .slice none 0 0, .int .i64 i, .int .i64 t, .slice s'.A0 s'.n0 s'.c0, .slice s'.A1 s'.n1 s'.c1, .slice s'.A2 s'.n2 s'.c2, .slice s'.A3 s'.n3 s'.c3, .int .i64 (L : Int), .int .i64 (a0 : Int), .int .i64 0, .slice B' ps0.length d']).frozen? ⟨bx, k, none⟩ = false) := Lib.hid (fun k => by rw [World.frozen?_setCells]; exact HFA.out k)
        have HOL : Hid (Ok wq26 (wq30.setCells bx 0 [.int .u8 5, .int .i64 0, .int .i64 1, .int .i64 2, .int .i64 4, .int .i64 0, .int .i64 0, .int .i64 0, .bool false, .slice none 0 0, .int .i64 i, .int .i64 t, .slice s'.A0 s'.n0 s'.c0, .slice s'.A1 s'.n1 s'.c1, .slice s'.A2 s'.n2 s'.c2, .slice s'.A3 s'.n3 s'.c3, .int .i64 (L : Int), .int .i64 (a0 : Int), .int .i64 0, .slice B' ps0.length d'])) := Lib.hid (Ok.sets (Nat.le_of_eq HBX.out) _ _ _ HOA.out)
        have HCX : Hid (CfgOwn (wq30.setCells bx 0 [.int .u8 5, .int .i64 0, .int .i64 1, .int .i64 2, .int .i64 4, .int .i64 0, .int .i64 0, .int .i64 0, .bool false, .slice none 0 0, .int .i64 i, .int .i64 t, .slice s'.A0 s'.n0 s'.c0, .slice s'.A1 s'.n1 s'.c1, .slice s'.A2 s'.n2 s'.c2, .slice s'.A3 s'.n3 s'.c3, .int .i64 (L : Int), .int .i64 (a0 : Int), .int .i64 0, .slice B' ps0.length d']) w2.heap.size s' cf) := Lib.hid ((HCF.out.ok HOL.out).lower HSZF.out)
        have HNX : Hid (OwnN (wq30.setCells bx 0 [.int .u8 5, .int .i64 0, .int .i64 1, .int .i64 2, .int .i64 4, .int .i64 0, .int .i64 0, .int .i64 0, .bool false, .slice none 0 0, .int .i64 i, .int .i64 t, .slice s'.A0 s'.n0 s'.c0, .slice s'.A1 s'.n1 s'.c1, .slice s'.A2 s'.n2 s'.c2, .slice s'.A3 s'.n3 s'.c3, .int .i64 (L : Int), .int .i64 (a0 : Int), .int .i64 0, .slice B' ps0.length d']) w2.heap.size (.slice B' ps0.length d') ps0) := Lib.hid ((HBY.out.okk HOL.out).lower HSZF.out)
        have HEX : Hid (∀ v, CfgOwn ((wq30.setCells bx 0 [.int .u8 5, .int .i64 0, .int .i64 1, .int .i64 2, .int .i64 4, .int .i64 0, .int .i64 0, .int .i64 0, .bool false, .slice none 0 0, .int .i64 i, .int .i64 t, .slice s'.A0 s'.n0 s'.c0, .slice s'.A1 s'.n1 s'.c1, .slice s'.A2 s'.n2 s'.c2, .slice s'.A3 s'.n3 s'.c3, .int .i64 (L : Int), .int .i64 (a0 : Int), .int .i64 0, .slice B' ps0.length d']).setCell ⟨bx, 4, none⟩ v) w2.heap.size s' cf ∧ OwnN ((wq30.setCells bx 0 [.int .u8 5, .int .i64 0, .int .i64 1, .int .i64 2, .int .i64 4, .int .i64 0, .int .i64 0, .int .i64 0, .bool false, .slice none 0 0, .int .i64 i, .int .i64 t, .slice s'.A0 s'.n0 s'.c0, .slice s'.A1 s'.n1 s'.c1, .slice s'.A2 s'.n2 s'.c2, .slice s'.A3 s'.n3 s'.c3, .int .i64 (L : Int), .int .i64 (a0 : Int), .int .i64 0, .slice B' ps0.length d']).setCell ⟨bx, 4, none⟩ v) w2.heap.size (.slice B' ps0.length d') ps0) := Lib.hid (fun v => ⟨(HCF.out.ok (Below.setCell HOL.out (Nat.le_of_eq HBX.out) v)).lower HSZF.out, (HBY.out.okk (Below.setCell HOL.out (Nat.le_of_eq HBX.out) v)).lower HSZF.out⟩)
        have HBZ : Hid (bx < (wq30.setCells bx 0 [.int .u8 5, .int .i64 0, .int .i64 1, .int .i64 2, .int .i64 4, .int .i64 0, .int .i64 0, .int .i64 0, .bool false, .slice none 0 0, .int .i64 i, .int .i64 t, .slice s'.A0 s'.n0 s'.c0, .slice s'.A1 s'.n1 s'.c1, .slice s'.A2 s'.n2 s'.c2, .slice s'.A3 s'.n3 s'.c3, .int .i64 (L : Int), .int .i64 (a0 : Int), .int .i64 0, .slice B' ps0.length d']).heap.size) := Lib.hid (World.block_lt_of_cell? _ _ (HRX.out 0 _ rfl))
        generalize wq30.setCells bx 0 [.int .u8 5, .int .i64 0, .int .i64 1, .int .i64 2, .int .i64 4, .int .i64 0, .int .i64 0, .int .i64 0, .bool false, .slice none 0 0, .int .i64 i, .int .i64 t, .slice s'.A0 s'.n0 s'.c0, .slice s'.A1 s'.n1 s'.c1, .slice s'.A2 s'.n2 s'.c2, .slice s'.A3 s'.n3 s'.c3, .int .i64 (L : Int), .int .i64 (a0 : Int), .int .i64 0, .slice B' ps0.length d'] = wX at *
        refine HK.out.out _ _ HRM.out (fun hJ => ?_)
        clear hJ HK K
        try go_frame
        refine wpAnyH_take (i := 9) (v := ?vp9u31) rfl (by kernel_rfl) (by kernel_rfl) (by kernel_rfl) (fun _ _ _ h => h) (Or.inl ⟨by rfl, ?hyp9u31⟩) (by exact HRM.out) ?restp9u31
        case hyp9u31 => ((intro w hSw); clear hSw; go_simp; (try with_reducible rfl))
        try go_frame
        refine wpAnyH_done (by kernel_rfl) ?_ _
        go_simp
        first | (refine Met.intro ?_; refine hK1 _ _ (Met.intro ?_)) | refine hK1 _ _ (Met.intro ?_)
        exact HJ0.out _ _ ⟨_, _, _, _, _, _, _, _, _, _, ⟨bx, s', B', d', rfl, rfl, HRX.out, HFX.out, HCX.out, HNX.out, HGB.out, HBZ.out, HOX.out, HEX.out⟩, rfl⟩
      · have HK := Lib.hid hK
        clear hK
        go_simp
        have HTA : Hid ((wq25.alloc (.cells #[.int .u8 0, .int .i64 0, .int .i64 0, .int .i64 0, .int .i64 0, .int .i64 0, .int .i64 0, .int .i64 0, .bool false, .slice none 0 0, .int .i64 0, .int .i64 0, .slice none 0 0, .slice none 0 0, .slice none 0 0, .slice none 0 0, .int .i64 0, .int .i64 0, .int .i64 0, .slice none 0 0] 95)).there wq25.heap.size 0 20) := Lib.hid (there_new wq25 #[.int .u8 0, .int .i64 0, .int .i64 0, .int .i64 0, .int .i64 0, .int .i64 0, .int .i64 0, .int .i64 0, .bool false, .slice none 0 0, .int .i64 0, .int .i64 0, .slice none 0 0, .slice none 0 0, .slice none 0 0, .slice none 0 0, .int .i64 0, .int .i64 0, .int .i64 0, .slice none 0 0] 95)
        have HFA : Hid (∀ k, (wq25.alloc (.cells #[.int .u8 0, .int .i64 0, .int .i64 0, .int .i64 0, .int .i64 0, .int .i64 0, .int .i64 0, .int .i64 0, .bool false, .slice none 0 0, .int .i64 0, .int .i64 0, .slice none 0 0, .slice none 0 0, .slice none 0 0, .slice none 0 0, .int .i64 0, .int .i64 0, .int .i64 0, .slice none 0 0] 95)).frozen? ⟨wq25.heap.size, k, none⟩ = false) := Lib.hid (fun k => by rw [World.frozen?, heap_alloc_new]; simp)
        have HBA : Hid (wq25.heap.size < (wq25.alloc (.cells #[.int .u8 0, .int .i64 0, .int .i64 0, .int .i64 0, .int .i64 0, .int .i64 0, .int .i64 0, .int .i64 0, .bool false, .slice none 0 0, .int .i64 0, .int .i64 0, .slice none 0 0, .slice none 0 0, .slice none 0 0, .slice none 0 0, .int .i64 0, .int .i64 0, .int .i64 0, .slice none 0 0] 95)).heap.size) := Lib.hid (by rw [World.size_alloc]; omega)
        have HOA : Hid (Ok wq25 (wq25.alloc (.cells #[.int .u8 0, .int .i64 0, .int .i64 0, .int .i64 0, .int .i64 0, .int .i64 0, .int .i64 0, .int .i64 0, .bool false, .slice none 0 0, .int .i64 0, .int .i64 0, .slice none 0 0, .slice none 0 0, .slice none 0 0, .slice none 0 0, .int .i64 0, .int .i64 0, .int .i64 0, .slice none 0 0] 95))) := Lib.hid ((Ok.refl _).alloc _)
        generalize wq25.alloc (.cells #[.int .u8 0, .int .i64 0, .int .i64 0, .int .i64 0, .int .i64 0, .int .i64 0, .int .i64 0, .int .i64 0, .bool false, .slice none 0 0, .int .i64 0, .int .i64 0, .slice none 0 0, .slice none 0 0, .slice none 0 0, .slice none 0 0, .int .i64 0, .int .i64 0, .int .i64 0, .slice none 0 0] 95) = wq32 at *
        obtain ⟨bx, hbx⟩ : ∃ bx, wq25.heap.size = bx := ⟨_, rfl⟩
        rw [hbx] at HTA HFA HBA ⊢
        have HBX : Hid (wq25.heap.size = bx) := Lib.hid hbx
        have HGB : Hid (w2.heap.size ≤ bx) := Lib.hid (by rw [← hbx]; exact HO25.out.size)
        clear hbx
        have HO32 : Hid (Ok w2 wq32) := Lib.hid (HO25.out.trans HOA.out)
        have HV32 : Hid (wq32.rangeAt g 0 [.int .i64 i, .int .i64 t, .slice s.A0 s.n0 s.c0, .slice s.A1 s.n1 s.c1, .slice s.A2 s.n2 s.c2, .slice s.A3 s.n3 s.c3, .slice A L c]) := Lib.hid (fun j u hu => HOA.out.cell (HV25.out j u hu))
        refine HK.out.out _ _ HV32.out (fun hJ => ?_)
        clear hJ HK K
        try go_frame
        refine wpAnyH_ready (rs := [3]) (by kernel_rfl) (by simp) (AllReadyH.cons rfl (fun K hK => ?_) AllReadyH.nil)
        have HK := Lib.hid hK
        clear hK
        go_simp
        (with_reducible refine (fill_z i t 0 s cf A L c a0 bs wq32 HZ0.out (HMw0.out _ HO32.out).1 (HMw0.out _ HO32.out).2 (by have := HAL.out; omega) (by have := HAL.out; omega) l0 l1 l2 l3).mono ?_)
        rintro _ wq33 ⟨s', B', d', rfl, hcf, hby, ok⟩
        rw [HPS0.out] at hby ⊢
        rw [← HL.out]
        have HO33 : Hid (Ok w2 wq33) := Lib.hid (HO32.out.trans ok)
        have HV33 : Hid (wq33.rangeAt g 0 [.int .i64 i, .int .i64 t, .slice s.A0 s.n0 s.c0, .slice s.A1 s.n1 s.c1, .slice s.A2 s.n2 s.c2, .slice s.A3 s.n3 s.c3, .slice A L c]) := Lib.hid (fun j u hu => ok.cell (HV32.out j u hu))
        have HCF := Lib.hid hcf
        have HBY := Lib.hid hby
        have HSZF : Hid (w2.heap.size ≤ wq32.heap.size) := Lib.hid HO32.out.size
        have HBF : Hid (bx < wq32.heap.size) := Lib.hid HBA.out
        have HTA := Lib.hid (there_ok HTA.out ok)
        have HFA := Lib.hid (fun k => Ok.frz ok (HFA.out k) HBA.out)
        have HBA := Lib.hid (Nat.lt_of_lt_of_le HBA.out ok.size)
        clear ok hcf hby
        refine HK.out.out _ _ HV33.out (fun hJ => ?_)
        clear hJ HK K
        try go_frame
        refine wpAnyH_take (i := 4) (v := ?vp4u34) rfl (by kernel_rfl) (by kernel_rfl) (by kernel_rfl) (fun _ _ _ h => h) (Or.inl ⟨by rfl, ?hyp4u34⟩) (by exact HV33.out) ?restp4u34
        case hyp4u34 => ((intro w hSw); clear hSw; go_simp; (try with_reducible rfl))
        try go_frame
        refine wpAnyH_take (i := 5) (v := ?vp5u35) rfl (by kernel_rfl) (by kernel_rfl) (by kernel_rfl) (fun _ _ _ h => h) (Or.inl ⟨by rfl, ?hyp5u35⟩) (by exact HV33.out) ?restp5u35
        case hyp5u35 => ((intro w hSw); clear hSw; go_simp; (try with_reducible rfl))
        try go_frame
        refine wpAnyH_take (i := 6) (v := ?vp6u36) rfl (by kernel_rfl) (by kernel_rfl) (by kernel_rfl) (fun _ _ _ h => h) (Or.inl ⟨by rfl, ?hyp6u36⟩) (by exact HV33.out) ?restp6u36
        case hyp6u36 => ((intro w hSw); clear hSw; go_simp; (try with_reducible rfl))
        try go_frame
        refine wpAnyH_ready (rs := [8]) (by kernel_rfl) (by simp) (AllReadyH.cons rfl (fun K hK => ?_) AllReadyH.nil)
        have HK := Lib.hid hK
        clear hK
        rw [if_pos (by rfl)]
        refine wp_store_mid 95 (.tmp 2) (.tmp 19) rfl bx 0 #[.int .u8 5, .int .i64 0, .int .i64 1, .int .i64 2, .int .i64 4, .int .i64 0, .int .i64 0, .int .i64 0, .bool false, .slice none 0 0, .int .i64 i, .int .i64 t, .slice s'.A0 s'.n0 s'.c0, .slice s'.A1 s'.n1 s'.c1, .slice s'.A2 s'.n2 s'.c2, .slice s'.A3 s'.n3 s'.c3, .int .i64 (L : Int), .int .i64 (a0 : Int), .int .i64 0, .slice B' ps0.length d'] rfl rfl HTA.out info80 (by simp [Value.oneCell']) ?_
        have HRX : Hid ((wq33.setCells bx 0 [.int .u8 5, .int .i64 0, .int .i64 1, .int .i64 2, .int .i64 4, .int .i64 0, .int .i64 0, .int .i64 0, .bool false, .slice none 0 0, .int .i64 i, .int .i64 t, .slice s'.A0 s'.n0 s'.c0, .slice s'.A1 s'.n1 s'.c1, .slice s'.A2 s'.n2 s'.c2, .slice s'.A3 s'.n3 s'.c3, .int .i64 (L : Int), .int .i64 (a0 : Int), .int .i64 0, .slice B' ps0.length d']).rangeAt bx 0 [.int .u8 5, .int .i64 0, .int .i64 1, .int .i64 2, .int .i64 4, .int .i64 0, .int .i64 0, .int .i64 0, .bool false, .slice none 0 0, .int .i64 i, .int .i64 t, .slice s'.A0 s'.n0 s'.c0, .slice s'.A1 s'.n1 s'.c1, .slice s'.A2 s'.n2 s'.c2, .slice s'.A3 s'.n3 s'.c3, .int .i64 (L : Int), .int .i64 (a0 : Int), .int .i64 0, .slice B' ps0.length d']) := Lib.hid (World.rangeAt_setCells_same wq33 bx 0 [.int .u8 5, .int .i64 0, .int .i64 1, .int .i64 2, .int .i64 4, .int .i64 0, .int .i64 0, .int .i64 0, .bool false, .slice none 0 0, .int .i64 i, .int .i64 t, .slice s'.A0 s'.n0 s'.c0, .slice s'.A1 s'.n1 s'.c1, .slice s'.A2 s'.n2 s'.c2, .slice s'.A3 s'.n3 s'.c3, .int .i64 (L : Int), .int .i64 (a0 : Int), .int .i64 0, .slice B' ps0.length d'] HTA.out)
        have HRM : Hid ((wq33.setCells bx 0 [.int .u8 5, .int .i64 0, .int .i64 1, .int .i64 2, .int .i64 4, .int .i64 0, .int .i64 0, .int .i64 0, .bool false, .slice none 0 0, .int .i64 i, .int .i64 t, .slice s'.A0 s'.n0 s'.c0, .slice s'.A1 s'.n1 s'.c1, .slice s'.A2 s'.n2 s'.c2, .slice s'.A3 s'.n3 s'.c3, .int .i64 (L : Int), .int .i64 (a0 : Int), .int .i64 0, .slice B' ps0.length d']).rangeAt g 0 [.int .i64 i, .int .i64 t, .slice s.A0 s.n0 s.c0, .slice s.A1 s.n1 s.c1, .slice s.A2 s.n2 s.c2, .slice s.A3 s.n3 s.c3, .slice A L c]) := Lib.hid (World.rangeAt_setCells_apart HV33.out bx 0 _ (.inl (by have := HGB.out; have := HBOX.out; omega)))
        have HOX : Hid (Ok w2 (wq33.setCells bx 0 [.int .u8 5, .int .i64 0, .int .i64 1, .int .i64 2, .int .i64 4, .int .i64 0, .int .i64 0, .int .i64 0, .bool false, .slice none 0 0, .int .i64 i, .int .i64 t, .slice s'.A0 s'.n0 s'.c0, .slice s'.A1 s'.n1 s'.c1, .slice s'.A2 s'.n2 s'.c2, .slice s'.A3 s'.n3 s'.c3, .int .i64 (L : Int), .int .i64 (a0 : Int), .int .i64 0, .slice B' ps0.length d'])) := Lib.hid (Ok.sets HGB.out _ _ _ HO33.out)
        have HFX : Hid (∀ k, (wq33.setCells bx 0 [.int .u8 5, .int .i64 0, .int .i64 1, .int .i64 2, .int .i64 4, .int .i64 0, .int .i64 0, .int .i64 0, .bool false, .slice none 0 0, .int .i64 i, .int .i64 t, .slice s'.A0 s'.n0 s'.c0, .slice s'.A1 s'.n1 s'.c1, .slice s'.A2 s'.n2 s'.c2, .slice s'.A3 s'.n3 s'.c3, .int .i64 (L : Int), .int .i64 (a0 : Int), .int .i64 0, .slice B' ps0.length d']).frozen? ⟨bx, k, none⟩ = false) := Lib.hid (fun k => by rw [World.frozen?_setCells]; exact HFA.out k)
        have HCX : Hid (CfgOwn (wq33.setCells bx 0 [.int .u8 5, .int .i64 0, .int .i64 1, .int .i64 2, .int .i64 4, .int .i64 0, .int .i64 0, .int .i64 0, .bool false, .slice none 0 0, .int .i64 i, .int .i64 t, .slice s'.A0 s'.n0 s'.c0, .slice s'.A1 s'.n1 s'.c1, .slice s'.A2 s'.n2 s'.c2, .slice s'.A3 s'.n3 s'.c3, .int .i64 (L : Int), .int .i64 (a0 : Int), .int .i64 0, .slice B' ps0.length d']) w2.heap.size s' cf) := Lib.hid (((sets_own [.int .u8 5, .int .i64 0, .int .i64 1, .int .i64 2, .int .i64 4, .int .i64 0, .int .i64 0, .int .i64 0, .bool false, .slice none 0 0, .int .i64 i, .int .i64 t, .slice s'.A0 s'.n0 s'.c0, .slice s'.A1 s'.n1 s'.c1, .slice s'.A2 s'.n2 s'.c2, .slice s'.A3 s'.n3 s'.c3, .int .i64 (L : Int), .int .i64 (a0 : Int), .int .i64 0, .slice B' ps0.length d'] 0 wq33 _ HBF.out).1 HCF.out).lower HSZF.out)
        have HNX : Hid (OwnN (wq33.setCells bx 0 [.int .u8 5, .int .i64 0, .int .i64 1, .int .i64 2, .int .i64 4, .int .i64 0, .int .i64 0, .int .i64 0, .bool false, .slice none 0 0, .int .i64 i, .int .i64 t, .slice s'.A0 s'.n0 s'.c0, .slice s'.A1 s'.n1 s'.c1, .slice s'.A2 s'.n2 s'.c2, .slice s'.A3 s'.n3 s'.c3, .int .i64 (L : Int), .int .i64 (a0 : Int), .int .i64 0, .slice B' ps0.length d']) w2.heap.size (.slice B' ps0.length d') ps0) := Lib.hid (((sets_own [.int .u8 5, .int .i64 0, .int .i64 1, .int .i64 2, .int .i64 4, .int .i64 0, .int .i64 0, .int .i64 0, .bool false, .slice none 0 0, .int .i64 i, .int .i64 t, .slice s'.A0 s'.n0 s'.c0, .slice s'.A1 s'.n1 s'.c1, .slice s'.A2 s'.n2 s'.c2, .slice s'.A3 s'.n3 s'.c3, .int .i64 (L : Int), .int .i64 (a0 : Int), .int .i64 0, .slice B' ps0.length d'] 0 wq33 _ HBF.out).2 HBY.out).lower HSZF.out)
        have HEX : Hid (∀ v, CfgOwn ((wq33.setCells bx 0 [.int .u8 5, .int .i64 0, .int .i64 1, .int .i64 2, .int .i64 4, .int .i64 0, .int .i64 0, .int .i64 0, .bool false, .slice none 0 0, .int .i64 i, .int .i64 t, .slice s'.A0 s'.n0 s'.c0, .slice s'.A1 s'.n1 s'.c1, .slice s'.A2 s'.n2 s'.c2, .slice s'.A3 s'.n3 s'.c3, .int .i64 (L : Int), .int .i64 (a0 : Int), .int .i64 0, .slice B' ps0.length d']).setCell ⟨bx, 4, none⟩ v) w2.heap.size s' cf ∧ OwnN ((wq33.setCells bx 0 [.int .u8 5, .int .i64 0, .int .i64 1, .int .i64 2, .int .i64 4, .int .i64 0, .int .i64 0, .int .i64 0, .bool false, .slice none 0 0, .int .i64 i, .int .i64 t, .slice s'.A0 s'.n0 s'.c0, .slice s'.A1 s'.n1 s'.c1, .slice s'.A2 s'.n2 s'.c2, .slice s'.A3 s'.n3 s'.c3, .int .i64 (L : Int), .int .i64 (a0 : Int), .int .i64 0, .slice B' ps0.length d']).setCell ⟨bx, 4, none⟩ v) w2.heap.size (.slice B' ps0.length d') ps0) := Lib.hid (fun v => ⟨(((sets_own [.int .u8 5, .int .i64 0, .int .i64 1, .int .i64 2, .int .i64 4, .int .i64 0, .int .i64 0, .int .i64 0, .bool false, .slice none 0 0, .int .i64 i, .int .i64 t, .slice s'.A0 s'.n0 s'.c0, .slice s'.A1 s'.n1 s'.c1, .slice s'.A2 s'.n2 s'.c2, .slice s'.A3 s'.n3 s'.c3, .int .i64 (L : Int), .int .i64 (a0 : Int), .int .i64 0, .slice B' ps0.length d'] 0 wq33 _ HBF.out).1 HCF.out).set bx 4 v HBF.out).lower HSZF.out, (((sets_own [.int .u8 5, .int .i64 0, .int .i64 1, .int .i64 2, .int .i64 4, .int .i64 0, .int .i64 0, .int .i64 0, .bool false, .slice none 0 0, .int .i64 i, .int .i64 t, .slice s'.A0 s'.n0 s'.c0, .slice s'.A1 s'.n1 s'.c1, .slice s'.A2 s'.n2 s'.c2, .slice s'.A3 s'.n3 s'.c3, .int .i64 (L : Int), .int .i64 (a0 : Int), .int .i64 0, .slice B' ps0.length d'] 0 wq33 _ HBF.out).2 HBY.out).set bx 4 v HBF.out).lower HSZF.out⟩)
        have HBZ : Hid (bx < (wq33.setCells bx 0 [.int .u8 5, .int .i64 0, .int .i64 1, .int .i64 2, .int .i64 4, .int .i64 0, .int .i64 0, .int .i64 0, .bool false, .slice none 0 0, .int .i64 i, .int .i64 t, .slice s'.A0 s'.n0 s'.c0, .slice s'.A1 s'.n1 s'.c1, .slice s'.A2 s'.n2 s'.c2, .slice s'.A3 s'.n3 s'.c3, .int .i64 (L : Int), .int .i64 (a0 : Int), .int .i64 0, .slice B' ps0.length d']).heap.size) := Lib.hid (World.block_lt_of_cell? _ _ (HRX.out 0 _ rfl))
        generalize wq33.setCells bx 0 [.int .u8 5, .int .i64 0, .int .i64 1, .int .i64 2, .int .i64 4, .int .i64 0, .int .i64 0, .int .i64 0, .bool false, .slice none 0 0, .int .i64 i, .int .i64 t, .slice s'.A0 s'.n0 s'.c0, .slice s'.A1 s'.n1 s'.c1, .slice s'.A2 s'.n2 s'.c2, .slice s'.A3 s'.n3 s'.c3, .int .i64 (L : Int), .int .i64 (a0 : Int), .int .i64 0, .slice B' ps0.length d'] = wX at *
        refine HK.out.out _ _ HRM.out (fun hJ => ?_)
        clear hJ HK K
        try go_frame
        refine wpAnyH_take (i := 9) (v := ?vp9u37) rfl (by kernel_rfl) (by kernel_rfl) (by kernel_rfl) (fun _ _ _ h => h) (Or.inl ⟨by rfl, ?hyp9u37⟩) (by exact HRM.out) ?restp9u37
        case hyp9u37 => ((intro w hSw); clear hSw; go_simp; (try with_reducible rfl))
        try go_frame
        refine wpAnyH_done (by kernel_rfl) ?_ _
        go_simp
        first | (refine Met.intro ?_; refine hK1 _ _ (Met.intro ?_)) | refine hK1 _ _ (Met.intro ?_)
        exact HJ0.out _ _ ⟨_, _, _, _, _, _, _, _, _, _, ⟨bx, s', B', d', rfl, rfl, HRX.out, HFX.out, HCX.out, HNX.out, HGB.out, HBZ.out, HOX.out, HEX.out⟩, rfl⟩
    · have HK := Lib.hid hK
      clear hK
      go_simp
      have HTA : Hid ((ws.alloc (.cells #[.int .u8 0, .int .i64 0, .int .i64 0, .int .i64 0, .int .i64 0, .int .i64 0, .int .i64 0, .int .i64 0, .bool false, .slice none 0 0, .int .i64 0, .int .i64 0, .slice none 0 0, .slice none 0 0, .slice none 0 0, .slice none 0 0, .int .i64 0, .int .i64 0, .int .i64 0, .slice none 0 0] 95)).there ws.heap.size 0 20) := Lib.hid (there_new ws #[.int .u8 0, .int .i64 0, .int .i64 0, .int .i64 0, .int .i64 0, .int .i64 0, .int .i64 0, .int .i64 0, .bool false, .slice none 0 0, .int .i64 0, .int .i64 0, .slice none 0 0, .slice none 0 0, .slice none 0 0, .slice none 0 0, .int .i64 0, .int .i64 0, .int .i64 0, .slice none 0 0] 95)
      have HFA : Hid (∀ k, (ws.alloc (.cells #[.int .u8 0, .int .i64 0, .int .i64 0, .int .i64 0, .int .i64 0, .int .i64 0, .int .i64 0, .int .i64 0, .bool false, .slice none 0 0, .int .i64 0, .int .i64 0, .slice none 0 0, .slice none 0 0, .slice none 0 0, .slice none 0 0, .int .i64 0, .int .i64 0, .int .i64 0, .slice none 0 0] 95)).frozen? ⟨ws.heap.size, k, none⟩ = false) := Lib.hid (fun k => by rw [World.frozen?, heap_alloc_new]; simp)
      have HBA : Hid (ws.heap.size < (ws.alloc (.cells #[.int .u8 0, .int .i64 0, .int .i64 0, .int .i64 0, .int .i64 0, .int .i64 0, .int .i64 0, .int .i64 0, .bool false, .slice none 0 0, .int .i64 0, .int .i64 0, .slice none 0 0, .slice none 0 0, .slice none 0 0, .slice none 0 0, .int .i64 0, .int .i64 0, .int .i64 0, .slice none 0 0] 95)).heap.size) := Lib.hid (by rw [World.size_alloc]; omega)
      have HOA : Hid (Ok ws (ws.alloc (.cells #[.int .u8 0, .int .i64 0, .int .i64 0, .int .i64 0, .int .i64 0, .int .i64 0, .int .i64 0, .int .i64 0, .bool false, .slice none 0 0, .int .i64 0, .int .i64 0, .slice none 0 0, .slice none 0 0, .slice none 0 0, .slice none 0 0, .int .i64 0, .int .i64 0, .int .i64 0, .slice none 0 0] 95))) := Lib.hid ((Ok.refl _).alloc _)
      generalize ws.alloc (.cells #[.int .u8 0, .int .i64 0, .int .i64 0, .int .i64 0, .int .i64 0, .int .i64 0, .int .i64 0, .int .i64 0, .bool false, .slice none 0 0, .int .i64 0, .int .i64 0, .slice none 0 0, .slice none 0 0, .slice none 0 0, .slice none 0 0, .int .i64 0, .int .i64 0, .int .i64 0, .slice none 0 0] 95) = wq38 at *
      obtain ⟨bx, hbx⟩ : ∃ bx, ws.heap.size = bx := ⟨_, rfl⟩
      rw [hbx] at HTA HFA HBA ⊢
      have HBX : Hid (ws.heap.size = bx) := Lib.hid hbx
      have HGB : Hid (w2.heap.size ≤ bx) := Lib.hid (by rw [← hbx]; exact HOs.out.size)
      clear hbx
      have HO38 : Hid (Ok w2 wq38) := Lib.hid (HOs.out.trans HOA.out)
      have HV38 : Hid (wq38.rangeAt g 0 [.int .i64 i, .int .i64 t, .slice s.A0 s.n0 s.c0, .slice s.A1 s.n1 s.c1, .slice s.A2 s.n2 s.c2, .slice s.A3 s.n3 s.c3, .slice A L c]) := Lib.hid (fun j u hu => HOA.out.cell (HSs.out j u hu))
      refine HK.out.out _ _ HV38.out (fun hJ => ?_)
      clear hJ HK K
      try go_frame
      refine wpAnyH_ready (rs := [1]) (by kernel_rfl) (by simp) (AllReadyH.cons rfl (fun K hK => ?_) AllReadyH.nil)
      have HK := Lib.hid hK
      clear hK
      go_simp
      (with_reducible refine (asks_f i t 0 s L c A wq38).mono ?_)
      rintro _ wq39 ⟨rfl, ok⟩
      have HO39 : Hid (Ok w2 wq39) := Lib.hid (HO38.out.trans ok)
      have HV39 : Hid (wq39.rangeAt g 0 [.int .i64 i, .int .i64 t, .slice s.A0 s.n0 s.c0, .slice s.A1 s.n1 s.c1, .slice s.A2 s.n2 s.c2, .slice s.A3 s.n3 s.c3, .slice A L c]) := Lib.hid (fun j u hu => ok.cell (HV38.out j u hu))
      have HTA := Lib.hid (there_ok HTA.out ok)
      have HFA := Lib.hid (fun k => Ok.frz ok (HFA.out k) HBA.out)
      have HBA := Lib.hid (Nat.lt_of_lt_of_le HBA.out ok.size)
      clear ok
      refine HK.out.out _ _ HV39.out (fun hJ => ?_)
      clear hJ HK K
      try go_frame
      refine wpAnyH_ready (rs := [3]) (by kernel_rfl) (by simp) (AllReadyH.cons rfl (fun K hK => ?_) AllReadyH.nil)
      have HK := Lib.hid hK
      clear hK
      go_simp
      (with_reducible refine (fill_z i t 0 s cf A L c a0 bs wq39 HZ0.out (HMw0.out _ HO39.out).1 (HMw0.out _ HO39.out).2 (by have := HAL.out; omega) (by have := HAL.out; omega) l0 l1 l2 l3).mono ?_)
      rintro _ wq40 ⟨s', B', d', rfl, hcf, hby, ok⟩
      rw [HPS0.out] at hby ⊢
      rw [← HL.out]
      have HO40 : Hid (Ok w2 wq40) := Lib.hid (HO39.out.trans ok)
      have HV40 : Hid (wq40.rangeAt g 0 [.int .i64 i, .int .i64 t, .slice s.A0 s.n0 s.c0, .slice s.A1 s.n1 s.c1, .slice s.A2 s.n2 s.c2, .slice s.A3 s.n3 s.c3, .slice A L c]) := Lib.hid (fun j u hu => ok.cell (HV39.out j u hu))
      have HCF := Lib.hid hcf
      have HBY := Lib.hid hby
      have HSZF : Hid (w2.heap.size ≤ wq39.heap.size) := Lib.hid HO39.out.size
      have HBF : Hid (bx < wq39.heap.size) := Lib.hid HBA.out
      have HTA := Lib.hid (there_ok HTA.out ok)
      have HFA := Lib.hid (fun k => Ok.frz ok (HFA.out k) HBA.out)
      have HBA := Lib.hid (Nat.lt_of_lt_of_le HBA.out ok.size)
      clear ok hcf hby
      refine HK.out.out _ _ HV40.out (fun hJ => ?_)
      clear hJ HK K
      try go_frame
      refine wpAnyH_take (i := 4) (v := ?vp4u41) rfl (by kernel_rfl) (by kernel_rfl) (by kernel_rfl) (fun _ _ _ h => h) (Or.inl ⟨by rfl, ?hyp4u41⟩) (by exact HV40.out) ?restp4u41
      case hyp4u41 => ((intro w hSw); clear hSw; go_simp; (try with_reducible rfl))
      try go_frame
      refine wpAnyH_take (i := 5) (v := ?vp5u42) rfl (by kernel_rfl) (by kernel_rfl) (by kernel_rfl) (fun _ _ _ h => h) (Or.inl ⟨by rfl, ?hyp5u42⟩) (by exact HV40.out) ?restp5u42
      case hyp5u42 => ((intro w hSw); clear hSw; go_simp; (try with_reducible rfl))
      try go_frame
      refine wpAnyH_take (i := 6) (v := ?vp6u43) rfl (by kernel_rfl) (by kernel_rfl) (by kernel_rfl) (fun _ _ _ h => h) (Or.inl ⟨by rfl, ?hyp6u43⟩) (by exact HV40.out) ?restp6u43
      case hyp6u43 => ((intro w hSw); clear hSw; go_simp; (try with_reducible rfl))
      try go_frame
      refine wpAnyH_ready (rs := [8]) (by kernel_rfl) (by simp) (AllReadyH.cons rfl (fun K hK => ?_) AllReadyH.nil)
      have HK := Lib.hid hK
      clear hK
      rw [if_pos (by rfl)]
      refine wp_store_mid 95 (.tmp 2) (.tmp 19) rfl bx 0 #[.int .u8 5, .int .i64 0, .int .i64 1, .int .i64 2, .int .i64 4, .int .i64 0, .int .i64 0, .int .i64 0, .bool false, .slice none 0 0, .int .i64 i, .int .i64 t, .slice s'.A0 s'.n0 s'.c0, .slice s'.A1 s'.n1 s'.c1, .slice s'.A2 s'.n2 s'.c2, .slice s'.A3 s'.n3 s'.c3, .int .i64 (L : Int), .int .i64 (a0 : Int), .int .i64 0, .slice B' ps0.length d'] rfl rfl HTA.out info80 (by simp [Value.oneCell']) ?_
      have HRX : Hid ((wq40.setCells bx 0 [.int .u8 5, .int .i64 0, .int .i64 1, .int .i64 2, .int .i64 4, .int .i64 0, .int .i64 0, .int .i64 0, .bool false, .slice none 0 0, .int .i64 i, .int .i64 t, .slice s'.A0 s'.n0 s'.c0, .slice s'.A1 s'.n1 s'.c1, .slice s'.A2 s'.n2 s'.c2, .slice s'.A3 s'.n3 s'.c3, .int .i64 (L : Int), .int .i64 (a0 : Int), .int .i64 0, .slice B' ps0.length d']).rangeAt bx 0 [.int .u8 5, .int .i64 0, .int .i64 1, .int .i64 2, .int .i64 4, .int .i64 0, .int .i64 0, .int .i64 0, .bool false, .slice none 0 0, .int .i64 i, .int .i64 t, .slice s'.A0 s'.n0 s'.c0, .slice s'.A1 s'.n1 s'.c1, .slice s'.A2 s'.n2 s'.c2, .slice s'.A3 s'.n3 s'.c3, .int .i64 (L : Int), .int .i64 (a0 : Int), .int .i64 0, .slice B' ps0.length d']) := Lib.hid (World.rangeAt_setCells_same wq40 bx 0 [.int .u8 5, .int .i64 0, .int .i64 1, .int .i64 2, .int .i64 4, .int .i64 0, .int .i64 0, .int .i64 0, .bool false, .slice none 0 0, .int .i64 i, .int .i64 t, .slice s'.A0 s'.n0 s'.c0, .slice s'.A1 s'.n1 s'.c1, .slice s'.A2 s'.n2 s'.c2, .slice s'.A3 s'.n3 s'.c3, .int .i64 (L : Int), .int .i64 (a0 : Int), .int .i64 0, .slice B' ps0.length d'] HTA.out)
      have HRM : Hid ((wq40.setCells bx 0 [.int .u8 5, .int .i64 0, .int .i64 1, .int .i64 2, .int .i64 4, .int .i64 0, .int .i64 0, .int .i64 0, .bool false, .slice none 0 0, .int .i64 i, .int .i64 t, .slice s'.A0 s'.n0 s'.c0, .slice s'.A1 s'.n1 s'.c1, .slice s'.A2 s'.n2 s'.c2, .slice s'.A3 s'.n3 s'.c3, .int .i64 (L : Int), .int .i64 (a0 : Int), .int .i64 0, .slice B' ps0.length d']).rangeAt g 0 [.int .i64 i, .int .i64 t, .slice s.A0 s.n0 s.c0, .slice s.A1 s.n1 s.c1, .slice s.A2 s.n2 s.c2, .slice s.A3 s.n3 s.c3, .slice A L c]) := Lib.hid (World.rangeAt_setCells_apart HV40.out bx 0 _ (.inl (by have := HGB.out; have := HBOX.out; omega)))
      have HOX : Hid (Ok w2 (wq40.setCells bx 0 [.int .u8 5, .int .i64 0, .int .i64 1, .int .i64 2, .int .i64 4, .int .i64 0, .int .i64 0, .int .i64 0, .bool false, .slice none 0 0, .int .i64 i, .int .i64 t, .slice s'.A0 s'.n0 s'.c0, .slice s'.A1 s'.n1 s'.c1, .slice s'.A2 s'.n2 s'.c2, .slice s'.A3 s'.n3 s'.c3, .int .i64 (L : Int), .int .i64 (a0 : Int), .int .i64 0, .slice B' ps0.length d'])) := Lib.hid (Ok.sets HGB.out _ _ _ HO40.out)
      have HFX : Hid (∀ k, (wq40.setCells bx 0 [.int .u8 5, .int .i64 0, .int .i64 1, .int .i64 2, .int .i64 4, .int .i64 0, .int .i64 0, .int .i64 0, .bool false, .slice none 0 0, .int .i64 i, .int .i64 t, .slice s'.A0 s'.n0 s'.c0, .slice s'.A1 s'.n1 s'.c1, .slice s'.A2 s'.n2 s'.c2, .slice s'.A3 s'.n3 s'.c3, .int .i64 (L : Int), .int .i64 (a0 : Int), .int .i64 0, .slice B' ps0.length d']).frozen? ⟨bx, k, none⟩ = false) := Lib.hid (fun k => by rw [World.frozen?_setCells]; exact HFA.out k)
      have HCX : Hid (CfgOwn (wq40.setCells bx 0 [.int .u8 5, .int .i64 0, .int .i64 1, .int .i64 2, .int .i64 4, .int .i64 0, .int .i64 0, .int .i64 0, .bool false, .slice none 0 0, .int .i64 i, .int .i64 t, .slice s'.A0 s'.n0 s'.c0, .slice s'.A1 s'.n1 s'.c1, .slice s'.A2 s'.n2 s'.c2, .slice s'.A3 s'.n3 s'.c3, .int .i64 (L : Int), .int .i64 (a0 : Int), .int .i64 0, .slice B' ps0.length d']) w2.heap.size s' cf) := Lib.hid (((sets_own [.int .u8 5, .int .i64 0, .int .i64 1, .int .i64 2, .int .i64 4, .int .i64 0, .int .i64 0, .int .i64 0, .bool false, .slice none 0 0, .int .i64 i, .int .i64 t, .slice s'.A0 s'.n0 s'.c0, .slice s'.A1 s'.n1 s'.c1, .slice s'.A2 s'.n2 s'.c2, .slice s'.A3 s'.n3 s'.c3, .int .i64 (L : Int), .int .i64 (a0 : Int), .int .i64 0, .slice B' ps0.length d'] 0 wq40 _ HBF.out).1 HCF.out).lower HSZF.out)
      have HNX : Hid (OwnN (wq40.setCells bx 0 [.int .u8 5, .int .i64 0, .int .i64 1, .int .i64 2, .int .i64 4, .int .i64 0, .int .i64 0, .int .i64 0, .bool false, .slice none 0 0, .int .i64 i, .int .i64 t, .slice s'.A0 s'.n0 s'.c0, .slice s'.A1 s'.n1 s'.c1, .slice s'.A2 s'.n2 s'.c2, .slice s'.A3 s'.n3 s'.c3, .int .i64 (L : Int), .int .i64 (a0 : Int), .int .i64 0, .slice B' ps0.length d']) w2.heap.size (.slice B' ps0.length d') ps0) := Lib.hid (((sets_own [.int .u8 5, .int .i64 0, .int .i64 1, .int .i64 2, .int .i64 4, .int .i64 0, .int .i64 0, .int .i64 0, .bool false, .slice none 0 0, .int .i64 i, .int .i64 t, .slice s'.A0 s'.n0 s'.c0, .slice s'.A1 s'.n1 s'.c1, .slice s'.A2 s'.n2 s'.c2, .slice s'.A3 s'.n3 s'.c3, .int .i64 (L : Int), .int .i64 (a0 : Int), .int .i64 0, .slice B' ps0.length d'] 0 wq40 _ HBF.out).2 HBY.out).lower HSZF.out)
      have HEX : Hid (∀ v, CfgOwn ((wq40.setCells bx 0 [.int .u8 5, .int .i64 0, .int .i64 1, .int .i64 2, .int .i64 4, .int .i64 0, .int .i64 0, .int .i64 0, .bool false, .slice none 0 0, .int .i64 i, .int .i64 t, .slice s'.A0 s'.n0 s'.c0, .slice s'.A1 s'.n1 s'.c1, .slice s'.A2 s'.n2 s'.c2, .slice s'.A3 s'.n3 s'.c3, .int .i64 (L : Int), .int .i64 (a0 : Int), .int .i64 0, .slice B' ps0.length d']).setCell ⟨bx, 4, none⟩ v) w2.heap.size s' cf ∧ OwnN ((wq40.setCells bx 0 [.int .u8 5, .int .i64 0, .int .i64 1, .int .i64 2, .int .i64 4, .int .i64 0, .int .i64 0, .int .i64 0, .bool false, .slice none 0 0, .int .i64 i, .int .i64 t, .slice s'.A0 s'.n0 s'.c0, .slice s'.A1 s'.n1 s'.c1, .slice s'.A2 s'.n2 s'.c2, .slice s'.A3 s'.n3 s'.c3, .int .i64 (L : Int), .int .i64 (a0 : Int), .int .i64 0, .slice B' ps0.length d']).setCell ⟨bx, 4, none⟩ v) w2.heap.size (.slice B' ps0.length d') ps0) := Lib.hid (fun v => ⟨(((sets_own [.int .u8 5, .int .i64 0, .int .i64 1, .int .i64 2, .int .i64 4, .int .i64 0, .int .i64 0, .int .i64 0, .bool false, .slice none 0 0, .int .i64 i, .int .i64 t, .slice s'.A0 s'.n0 s'.c0, .slice s'.A1 s'.n1 s'.c1, .slice s'.A2 s'.n2 s'.c2, .slice s'.A3 s'.n3 s'.c3, .int .i64 (L : Int), .int .i64 (a0 : Int), .int .i64 0, .slice B' ps0.length d'] 0 wq40 _ HBF.out).1 HCF.out).set bx 4 v HBF.out).lower HSZF.out, (((sets_own [.int .u8 5, .int .i64 0, .int .i64 1, .int .i64 2, .int .i64 4, .int .i64 0, .int .i64 0, .int .i64 0, .bool false, .slice none 0 0, .int .i64 i, .int .i64 t, .slice s'.A0 s'.n0 s'.c0, .slice s'.A1 s'.n1 s'.c1, .slice s'.A2 s'.n2 s'.c2, .slice s'.A3 s'.n3 s'.c3, .int .i64 (L : Int), .int .i64 (a0 : Int), .int .i64 0, .slice B' ps0.length d'] 0 wq40 _ HBF.out).2 HBY.out).set bx 4 v HBF.out).lower HSZF.out⟩)
      have HBZ : Hid (bx < (wq40.setCells bx 0 [.int .u8 5, .int .i64 0, .int .i64 1, .int .i64 2, .int .i64 4, .int .i64 0, .int .i64 0, .int .i64 0, .bool false, .slice none 0 0, .int .i64 i, .int .i64 t, .slice s'.A0 s'.n0 s'.c0, .slice s'.A1 s'.n1 s'.c1, .slice s'.A2 s'.n2 s'.c2, .slice s'.A3 s'.n3 s'.c3, .int .i64 (L : Int), .int .i64 (a0 : Int), .int .i64 0, .slice B' ps0.length d']).heap.size) := Lib.hid (World.block_lt_of_cell? _ _ (HRX.out 0 _ rfl))
      generalize wq40.setCells bx 0 [.int .u8 5, .int .i64 0, .int .i64 1, .int .i64 2, .int .i64 4, .int .i64 0, .int .i64 0, .int .i64 0, .bool false, .slice none 0 0, .int .i64 i, .int .i64 t, .slice s'.A0 s'.n0 s'.c0, .slice s'.A1 s'.n1 s'.c1, .slice s'.A2 s'.n2 s'.c2, .slice s'.A3 s'.n3 s'.c3, .int .i64 (L : Int), .int .i64 (a0 : Int), .int .i64 0, .slice B' ps0.length d'] = wX at *
      refine HK.out.out _ _ HRM.out (fun hJ => ?_)
      clear hJ HK K
      try go_frame
      refine wpAnyH_take (i := 9) (v := ?vp9u44) rfl (by kernel_rfl) (by kernel_rfl) (by kernel_rfl) (fun _ _ _ h => h) (Or.inl ⟨by rfl, ?hyp9u44⟩) (by exact HRM.out) ?restp9u44
      case hyp9u44 => ((intro w hSw); clear hSw; go_simp; (try with_reducible rfl))
      try go_frame
      refine wpAnyH_done (by kernel_rfl) ?_ _
      go_simp
      first | (refine Met.intro ?_; refine hK1 _ _ (Met.intro ?_)) | refine hK1 _ _ (Met.intro ?_)
      exact HJ0.out _ _ ⟨_, _, _, _, _, _, _, _, _, _, ⟨bx, s', B', d', rfl, rfl, HRX.out, HFX.out, HCX.out, HNX.out, HGB.out, HBZ.out, HOX.out, HEX.out⟩, rfl⟩
  case rest =>
    obtain ⟨bx, s1, B1, d1, rfl, rfl, hrx, -, hcx, hnx, -, -, hox, -⟩ := hcut
    generalize wc = w3 at *
    have HXC0 : Hid (∀ w', Ok w3 w' → CfgAt w' s1 cf ∧ BytesIn w' (.slice B1 ps0.length d1) ps0) := Lib.hid (fun w' k => ⟨(hcx.ok k).at l0 l1 l2 l3, (hnx.okk k).bytes (by rw [← HPS0.out, List.length_take]; omega)⟩)
    have HXR0 : Hid (∀ w', Ok w3 w' → w'.rangeAt bx 0 [.int .u8 5, .int .i64 0, .int .i64 1, .int .i64 2, .int .i64 4, .int .i64 0, .int .i64 0, .int .i64 0, .bool false, .slice none 0 0, .int .i64 i, .int .i64 t, .slice s1.A0 s1.n0 s1.c0, .slice s1.A1 s1.n1 s1.c1, .slice s1.A2 s1.n2 s1.c2, .slice s1.A3 s1.n3 s1.c3, .int .i64 (L : Int), .int .i64 (a0 : Int), .int .i64 0, .slice B1 ps0.length d1]) := Lib.hid (fun w' k j u hu => k.cell (hrx j u hu))
    have HOX0 := Lib.hid hox
    clear hrx hcx hnx hox
    have HO6 : Hid (Ok w2 w3) := HOX0
    clear HAL HBOX
    obtain ⟨ps6, hps6⟩ : ∃ ps, (bs.drop a6).take 600 = ps := ⟨_, rfl⟩
    have HPS6 := Lib.hid hps6
    have HAL : Hid (a6 ≤ bs.length ∧ bs.length ≤ 100000) := Lib.hid (by have := HL.out; have := HLK.out; have := HA6.out; omega)
    have HRw6 : Hid (w3.rangeAt g 0 [.int .i64 i, .int .i64 t, .slice s.A0 s.n0 s.c0, .slice s.A1 s.n1 s.c1, .slice s.A2 s.n2 s.c2, .slice s.A3 s.n3 s.c3, .slice A L c]) := Lib.hid (HRR.out _ HO6.out)
    have HMw6 : Hid (∀ w', Ok w3 w' → CfgAt w' s cf ∧ BytesIn w' (.slice A L c) bs) := Lib.hid (fun w' k => HMM.out w' (HO6.out.trans k))
    have HBOX : Hid (g < w3.heap.size) := Lib.hid (World.block_lt_of_cell? _ _ (HRw6.out 0 _ rfl))
    clear hps6
    go_upto_region 3 with fail
    go_cut [4, 5] from 21 to 28 (fun x ok wx => PcR w3 i t cf a6 L ps6 x ok wx)
    case first =>
      rename_i J0 K1 hJ0 hK1
      have HJ0 := Lib.hid hJ0
      clear hJ0
      refine wp_region_held_drew (S := fun v => v.rangeAt g 0 [.int .i64 i, .int .i64 t, .slice s.A0 s.n0 s.c0, .slice s.A1 s.n1 s.c1, .slice s.A2 s.n2 s.c2, .slice s.A3 s.n3 s.c3, .slice A L c]) (by kernel_rfl) (fun j u hu => ((Ok.refl w3).drew).cell (HRw6.out j u hu)) ?_
      intro hS
      have HOs : Hid (Ok w3 w3.drew) := Lib.hid ((Ok.refl w3).drew)
      have HSs := Lib.hid hS
      clear hS
      generalize w3.drew = ws at *
      refine wpAnyH_take (i := 0) (v := _) rfl (by kernel_rfl) (by kernel_rfl) (by kernel_rfl) (fun _ _ _ h => h) (yieldsIf_load_mid ?hwp0u1 97 (.tmp 1) rfl g 0 rfl [.int .i64 i, .int .i64 t, .slice s.A0 s.n0 s.c0, .slice s.A1 s.n1 s.c1, .slice s.A2 s.n2 s.c2, .slice s.A3 s.n3 s.c3, .slice A L c] d75 (fun v h => h) HD75.out.1 HD75.out.2 info75) HSs.out ?restp0u1
      case hwp0u1 => rfl
      try go_frame
      refine wpAnyH_take (i := 2) (v := _) rfl (by kernel_rfl) (by kernel_rfl) (by kernel_rfl) (fun _ _ _ h => h) (yieldsIf_load_mid ?hwp2u2 97 (.tmp 1) rfl g 0 rfl [.int .i64 i, .int .i64 t, .slice s.A0 s.n0 s.c0, .slice s.A1 s.n1 s.c1, .slice s.A2 s.n2 s.c2, .slice s.A3 s.n3 s.c3, .slice A L c] d75 (fun v h => h) HD75.out.1 HD75.out.2 info75) HSs.out ?restp2u2
      case hwp2u2 => rfl
      try go_frame
      refine wpAnyH_ready (rs := [1, 7]) (by kernel_rfl) (by simp) (AllReadyH.cons rfl (fun K hK => ?_) (AllReadyH.cons rfl (fun K hK => ?_) AllReadyH.nil))
      · have HK := Lib.hid hK
        clear hK
        go_simp
        (with_reducible refine (asks_f i t 600 s L c A ws).mono ?_)
        rintro _ wq3 ⟨rfl, ok⟩
        have HO3 : Hid (Ok w3 wq3) := Lib.hid (HOs.out.trans ok)
        have HV3 : Hid (wq3.rangeAt g 0 [.int .i64 i, .int .i64 t, .slice s.A0 s.n0 s.c0, .slice s.A1 s.n1 s.c1, .slice s.A2 s.n2 s.c2, .slice s.A3 s.n3 s.c3, .slice A L c]) := Lib.hid (fun j u hu => ok.cell (HSs.out j u hu))
        clear ok
        refine HK.out.out _ _ HV3.out (fun hJ => ?_)
        clear hJ HK K
        try go_frame
        refine wpAnyH_ready (rs := [3, 7]) (by kernel_rfl) (by simp) (AllReadyH.cons rfl (fun K hK => ?_) (AllReadyH.cons rfl (fun K hK => ?_) AllReadyH.nil))
        · have HK := Lib.hid hK
          clear hK
          go_simp
          (with_reducible refine (fill_z i t 600 s cf A L c a6 bs wq3 HZ6.out (HMw6.out _ HO3.out).1 (HMw6.out _ HO3.out).2 (by have := HAL.out; omega) (by have := HAL.out; omega) l0 l1 l2 l3).mono ?_)
          rintro _ wq4 ⟨s', B', d', rfl, hcf, hby, ok⟩
          rw [HPS6.out] at hby ⊢
          rw [← HL.out]
          have HO4 : Hid (Ok w3 wq4) := Lib.hid (HO3.out.trans ok)
          have HV4 : Hid (wq4.rangeAt g 0 [.int .i64 i, .int .i64 t, .slice s.A0 s.n0 s.c0, .slice s.A1 s.n1 s.c1, .slice s.A2 s.n2 s.c2, .slice s.A3 s.n3 s.c3, .slice A L c]) := Lib.hid (fun j u hu => ok.cell (HV3.out j u hu))
          have HCF := Lib.hid hcf
          have HBY := Lib.hid hby
          have HSZF : Hid (w3.heap.size ≤ wq3.heap.size) := Lib.hid HO3.out.size
          clear ok hcf hby
          refine HK.out.out _ _ HV4.out (fun hJ => ?_)
          clear hJ HK K
          try go_frame
          refine wpAnyH_take (i := 4) (v := ?vp4u5) rfl (by kernel_rfl) (by kernel_rfl) (by kernel_rfl) (fun _ _ _ h => h) (Or.inl ⟨by rfl, ?hyp4u5⟩) (by exact HV4.out) ?restp4u5
          case hyp4u5 => ((intro w hSw); clear hSw; go_simp; (try with_reducible rfl))
          try go_frame
          refine wpAnyH_take (i := 5) (v := ?vp5u6) rfl (by kernel_rfl) (by kernel_rfl) (by kernel_rfl) (fun _ _ _ h => h) (Or.inl ⟨by rfl, ?hyp5u6⟩) (by exact HV4.out) ?restp5u6
          case hyp5u6 => ((intro w hSw); clear hSw; go_simp; (try with_reducible rfl))
          try go_frame
          refine wpAnyH_take (i := 6) (v := ?vp6u7) rfl (by kernel_rfl) (by kernel_rfl) (by kernel_rfl) (fun _ _ _ h => h) (Or.inl ⟨by rfl, ?hyp6u7⟩) (by exact HV4.out) ?restp6u7
          case hyp6u7 => ((intro w hSw); clear hSw; go_simp; (try with_reducible rfl))
          try go_frame
          refine wpAnyH_ready (rs := [7]) (by kernel_rfl) (by simp) (AllReadyH.cons rfl (fun K hK => ?_) AllReadyH.nil)
          have HK := Lib.hid hK
          clear hK
          go_simp
          have HTA : Hid ((wq4.alloc (.cells #[.int .u8 0, .int .i64 0, .int .i64 0, .int .i64 0, .int .i64 0, .int .i64 0, .int .i64 0, .int .i64 0, .bool false, .slice none 0 0, .int .i64 0, .int .i64 0, .slice none 0 0, .slice none 0 0, .slice none 0 0, .slice none 0 0, .int .i64 0, .int .i64 0, .int .i64 0, .slice none 0 0] 95)).there wq4.heap.size 0 20) := Lib.hid (there_new wq4 #[.int .u8 0, .int .i64 0, .int .i64 0, .int .i64 0, .int .i64 0, .int .i64 0, .int .i64 0, .int .i64 0, .bool false, .slice none 0 0, .int .i64 0, .int .i64 0, .slice none 0 0, .slice none 0 0, .slice none 0 0, .slice none 0 0, .int .i64 0, .int .i64 0, .int .i64 0, .slice none 0 0] 95)
          have HFA : Hid (∀ k, (wq4.alloc (.cells #[.int .u8 0, .int .i64 0, .int .i64 0, .int .i64 0, .int .i64 0, .int .i64 0, .int .i64 0, .int .i64 0, .bool false, .slice none 0 0, .int .i64 0, .int .i64 0, .slice none 0 0, .slice none 0 0, .slice none 0 0, .slice none 0 0, .int .i64 0, .int .i64 0, .int .i64 0, .slice none 0 0] 95)).frozen? ⟨wq4.heap.size, k, none⟩ = false) := Lib.hid (fun k => by rw [World.frozen?, heap_alloc_new]; simp)
          have HBA : Hid (wq4.heap.size < (wq4.alloc (.cells #[.int .u8 0, .int .i64 0, .int .i64 0, .int .i64 0, .int .i64 0, .int .i64 0, .int .i64 0, .int .i64 0, .bool false, .slice none 0 0, .int .i64 0, .int .i64 0, .slice none 0 0, .slice none 0 0, .slice none 0 0, .slice none 0 0, .int .i64 0, .int .i64 0, .int .i64 0, .slice none 0 0] 95)).heap.size) := Lib.hid (by rw [World.size_alloc]; omega)
          have HOA : Hid (Ok wq4 (wq4.alloc (.cells #[.int .u8 0, .int .i64 0, .int .i64 0, .int .i64 0, .int .i64 0, .int .i64 0, .int .i64 0, .int .i64 0, .bool false, .slice none 0 0, .int .i64 0, .int .i64 0, .slice none 0 0, .slice none 0 0, .slice none 0 0, .slice none 0 0, .int .i64 0, .int .i64 0, .int .i64 0, .slice none 0 0] 95))) := Lib.hid ((Ok.refl _).alloc _)
          generalize wq4.alloc (.cells #[.int .u8 0, .int .i64 0, .int .i64 0, .int .i64 0, .int .i64 0, .int .i64 0, .int .i64 0, .int .i64 0, .bool false, .slice none 0 0, .int .i64 0, .int .i64 0, .slice none 0 0, .slice none 0 0, .slice none 0 0, .slice none 0 0, .int .i64 0, .int .i64 0, .int .i64 0, .slice none 0 0] 95) = wq8 at *
          obtain ⟨bx, hbx⟩ : ∃ bx, wq4.heap.size = bx := ⟨_, rfl⟩
          rw [hbx] at HTA HFA HBA ⊢
          have HBX : Hid (wq4.heap.size = bx) := Lib.hid hbx
          have HGB : Hid (w3.heap.size ≤ bx) := Lib.hid (by rw [← hbx]; exact HO4.out.size)
          clear hbx
          have HO8 : Hid (Ok w3 wq8) := Lib.hid (HO4.out.trans HOA.out)
          have HV8 : Hid (wq8.rangeAt g 0 [.int .i64 i, .int .i64 t, .slice s.A0 s.n0 s.c0, .slice s.A1 s.n1 s.c1, .slice s.A2 s.n2 s.c2, .slice s.A3 s.n3 s.c3, .slice A L c]) := Lib.hid (fun j u hu => HOA.out.cell (HV4.out j u hu))
          refine HK.out.out _ _ HV8.out (fun hJ => ?_)
          clear hJ HK K
          try go_frame
          refine wpAnyH_ready (rs := [8]) (by kernel_rfl) (by simp) (AllReadyH.cons rfl (fun K hK => ?_) AllReadyH.nil)
          have HK := Lib.hid hK
          clear hK
          rw [if_pos (by rfl)]
          refine wp_store_mid 95 (.tmp 4) (.tmp 26) rfl bx 0 #[.int .u8 5, .int .i64 0, .int .i64 1, .int .i64 2, .int .i64 4, .int .i64 0, .int .i64 0, .int .i64 0, .bool false, .slice none 0 0, .int .i64 i, .int .i64 t, .slice s'.A0 s'.n0 s'.c0, .slice s'.A1 s'.n1 s'.c1, .slice s'.A2 s'.n2 s'.c2, .slice s'.A3 s'.n3 s'.c3, .int .i64 (L : Int), .int .i64 (a6 : Int), .int .i64 0, .slice B' ps6.length d'] rfl rfl HTA.out info80 (by simp [Value.oneCell']) ?_
          have HRX : Hid ((wq8.setCells bx 0 [.int .u8 5, .int .i64 0, .int .i64 1, .int .i64 2, .int .i64 4, .int .i64 0, .int .i64 0, .int .i64 0, .bool false, .slice none 0 0, .int .i64 i, .int .i64 t, .slice s'.A0 s'.n0 s'.c0, .slice s'.A1 s'.n1 s'.c1, .slice s'.A2 s'.n2 s'.c2, .slice s'.A3 s'.n3 s'.c3, .int .i64 (L : Int), .int .i64 (a6 : Int), .int .i64 0, .slice B' ps6.length d']).rangeAt bx 0 [.int .u8 5, .int .i64 0, .int .i64 1, .int .i64 2, .int .i64 4, .int .i64 0, .int .i64 0, .int .i64 0, .bool false, .slice none 0 0, .int .i64 i, .int .i64 t, .slice s'.A0 s'.n0 s'.c0, .slice s'.A1 s'.n1 s'.c1, .slice s'.A2 s'.n2 s'.c2, .slice s'.A3 s'.n3 s'.c3, .int .i64 (L : Int), .int .i64 (a6 : Int), .int .i64 0, .slice B' ps6.length d']) := Lib.hid (World.rangeAt_setCells_same wq8 bx 0 [.int .u8 5, .int .i64 0, .int .i64 1, .int .i64 2, .int .i64 4, .int .i64 0, .int .i64 0, .int .i64 0, .bool false, .slice none 0 0, .int .i64 i, .int .i64 t, .slice s'.A0 s'.n0 s'.c0, .slice s'.A1 s'.n1 s'.c1, .slice s'.A2 s'.n2 s'.c2, .slice s'.A3 s'.n3 s'.c3, .int .i64 (L : Int), .int .i64 (a6 : Int), .int .i64 0, .slice B' ps6.length d'] HTA.out)
          have HRM : Hid ((wq8.setCells bx 0 [.int .u8 5, .int .i64 0, .int .i64 1, .int .i64 2, .int .i64 4, .int .i64 0, .int .i64 0, .int .i64 0, .bool false, .slice none 0 0, .int .i64 i, .int .i64 t, .slice s'.A0 s'.n0 s'.c0, .slice s'.A1 s'.n1 s'.c1, .slice s'.A2 s'.n2 s'.c2, .slice s'.A3 s'.n3 s'.c3, .int .i64 (L : Int), .int .i64 (a6 : Int), .int .i64 0, .slice B' ps6.length d']).rangeAt g 0 [.int .i64 i, .int .i64 t, .slice s.A0 s.n0 s.c0, .slice s.A1 s.n1 s.c1, .slice s.A2 s.n2 s.c2, .slice s.A3 s.n3 s.c3, .slice A L c]) := Lib.hid (World.rangeAt_setCells_apart HV8.out bx 0 _ (.inl (by have := HGB.out; have := HBOX.out; omega)))
          have HOX : Hid (Ok w3 (wq8.setCells bx 0 [.int .u8 5, .int .i64 0, .int .i64 1, .int .i64 2, .int .i64 4, .int .i64 0, .int .i64 0, .int .i64 0, .bool false, .slice none 0 0, .int .i64 i, .int .i64 t, .slice s'.A0 s'.n0 s'.c0, .slice s'.A1 s'.n1 s'.c1, .slice s'.A2 s'.n2 s'.c2, .slice s'.A3 s'.n3 s'.c3, .int .i64 (L : Int), .int .i64 (a6 : Int), .int .i64 0, .slice B' ps6.length d'])) := Lib.hid (Ok.sets HGB.out _ _ _ HO8.out)
          have HFX : Hid (∀ k, (wq8.setCells bx 0 [.int .u8 5, .int .i64 0, .int .i64 1, .int .i64 2, .int .i64 4, .int .i64 0, .int .i64 0, .int .i64 0, .bool false, .slice none 0 0, .int .i64 i, .int .i64 t, .slice s'.A0 s'.n0 s'.c0, .slice s'.A1 s'.n1 s'.c1, .slice s'.A2 s'.n2 s'.c2, .slice s'.A3 s'.n3 s'.c3, .int .i64 (L : Int), .int .i64 (a6 : Int), .int .i64 0, .slice B' ps6.length d']).frozen? ⟨bx, k, none⟩ = false) := Lib.hid (fun k => by rw [World.frozen?_setCells]; exact HFA.out k)
          have HOL : Hid (Ok wq4 (wq8.setCells bx 0 [.int .u8 5, .int .i64 0, .int .i64 1, .int .i64 2, .int .i64 4, .int .i64 0, .int .i64 0, .int .i64 0, .bool false, .slice none 0 0, .int .i64 i, .int .i64 t, .slice s'.A0 s'.n0 s'.c0, .slice s'.A1 s'.n1 s'.c1, .slice s'.A2 s'.n2 s'.c2, .slice s'.A3 s'.n3 s'.c3, .int .i64 (L : Int), .int .i64 (a6 : Int), .int .i64 0, .slice B' ps6.length d'])) := Lib.hid (Ok.sets (Nat.le_of_eq HBX.out) _ _ _ HOA.out)
          have HCX : Hid (CfgOwn (wq8.setCells bx 0 [.int .u8 5, .int .i64 0, .int .i64 1, .int .i64 2, .int .i64 4, .int .i64 0, .int .i64 0, .int .i64 0, .bool false, .slice none 0 0, .int .i64 i, .int .i64 t, .slice s'.A0 s'.n0 s'.c0, .slice s'.A1 s'.n1 s'.c1, .slice s'.A2 s'.n2 s'.c2, .slice s'.A3 s'.n3 s'.c3, .int .i64 (L : Int), .int .i64 (a6 : Int), .int .i64 0, .slice B' ps6.length d']) w3.heap.size s' cf) := Lib.hid ((HCF.out.ok HOL.out).lower HSZF.out)
          have HNX : Hid (OwnN (wq8.setCells bx 0 [.int .u8 5, .int .i64 0, .int .i64 1, .int .i64 2, .int .i64 4, .int .i64 0, .int .i64 0, .int .i64 0, .bool false, .slice none 0 0, .int .i64 i, .int .i64 t, .slice s'.A0 s'.n0 s'.c0, .slice s'.A1 s'.n1 s'.c1, .slice s'.A2 s'.n2 s'.c2, .slice s'.A3 s'.n3 s'.c3, .int .i64 (L : Int), .int .i64 (a6 : Int), .int .i64 0, .slice B' ps6.length d']) w3.heap.size (.slice B' ps6.length d') ps6) := Lib.hid ((HBY.out.okk HOL.out).lower HSZF.out)
          have HEX : Hid (∀ v, CfgOwn ((wq8.setCells bx 0 [.int .u8 5, .int .i64 0, .int .i64 1, .int .i64 2, .int .i64 4, .int .i64 0, .int .i64 0, .int .i64 0, .bool false, .slice none 0 0, .int .i64 i, .int .i64 t, .slice s'.A0 s'.n0 s'.c0, .slice s'.A1 s'.n1 s'.c1, .slice s'.A2 s'.n2 s'.c2, .slice s'.A3 s'.n3 s'.c3, .int .i64 (L : Int), .int .i64 (a6 : Int), .int .i64 0, .slice B' ps6.length d']).setCell ⟨bx, 4, none⟩ v) w3.heap.size s' cf ∧ OwnN ((wq8.setCells bx 0 [.int .u8 5, .int .i64 0, .int .i64 1, .int .i64 2, .int .i64 4, .int .i64 0, .int .i64 0, .int .i64 0, .bool false, .slice none 0 0, .int .i64 i, .int .i64 t, .slice s'.A0 s'.n0 s'.c0, .slice s'.A1 s'.n1 s'.c1, .slice s'.A2 s'.n2 s'.c2, .slice s'.A3 s'.n3 s'.c3, .int .i64 (L : Int), .int .i64 (a6 : Int), .int .i64 0, .slice B' ps6.length d']).setCell ⟨bx, 4, none⟩ v) w3.heap.size (.slice B' ps6.length d') ps6) := Lib.hid (fun v => ⟨(HCF.out.ok (Below.setCell HOL.out (Nat.le_of_eq HBX.out) v)).lower HSZF.out, (HBY.out.okk (Below.setCell HOL.out (Nat.le_of_eq HBX.out) v)).lower HSZF.out⟩)
          have HBZ : Hid (bx < (wq8.setCells bx 0 [.int .u8 5, .int .i64 0, .int .i64 1, .int .i64 2, .int .i64 4, .int .i64 0, .int .i64 0, .int .i64 0, .bool false, .slice none 0 0, .int .i64 i, .int .i64 t, .slice s'.A0 s'.n0 s'.c0, .slice s'.A1 s'.n1 s'.c1, .slice s'.A2 s'.n2 s'.c2, .slice s'.A3 s'.n3 s'.c3, .int .i64 (L : Int), .int .i64 (a6 : Int), .int .i64 0, .slice B' ps6.length d']).heap.size) := Lib.hid (World.block_lt_of_cell? _ _ (HRX.out 0 _ rfl))
          generalize wq8.setCells bx 0 [.int .u8 5, .int .i64 0, .int .i64 1, .int .i64 2, .int .i64 4, .int .i64 0, .int .i64 0, .int .i64 0, .bool false, .slice none 0 0, .int .i64 i, .int .i64 t, .slice s'.A0 s'.n0 s'.c0, .slice s'.A1 s'.n1 s'.c1, .slice s'.A2 s'.n2 s'.c2, .slice s'.A3 s'.n3 s'.c3, .int .i64 (L : Int), .int .i64 (a6 : Int), .int .i64 0, .slice B' ps6.length d'] = wX at *
          refine HK.out.out _ _ HRM.out (fun hJ => ?_)
          clear hJ HK K
          try go_frame
          refine wpAnyH_take (i := 9) (v := ?vp9u9) rfl (by kernel_rfl) (by kernel_rfl) (by kernel_rfl) (fun _ _ _ h => h) (Or.inl ⟨by rfl, ?hyp9u9⟩) (by exact HRM.out) ?restp9u9
          case hyp9u9 => ((intro w hSw); clear hSw; go_simp; (try with_reducible rfl))
          try go_frame
          refine wpAnyH_done (by kernel_rfl) ?_ _
          go_simp
          first | (refine Met.intro ?_; refine hK1 _ _ (Met.intro ?_)) | refine hK1 _ _ (Met.intro ?_)
          exact HJ0.out _ _ ⟨_, _, _, _, _, _, _, _, _, _, ⟨bx, s', B', d', rfl, rfl, HRX.out, HFX.out, HCX.out, HNX.out, HGB.out, HBZ.out, HOX.out, HEX.out⟩, rfl⟩
        · have HK := Lib.hid hK
          clear hK
          go_simp
          have HTA : Hid ((wq3.alloc (.cells #[.int .u8 0, .int .i64 0, .int .i64 0, .int .i64 0, .int .i64 0, .int .i64 0, .int .i64 0, .int .i64 0, .bool false, .slice none 0 0, .int .i64 0, .int .i64 0, .slice none 0 0, .slice none 0 0, .slice none 0 0, .slice none 0 0, .int .i64 0, .int .i64 0, .int .i64 0, .slice none 0 0] 95)).there wq3.heap.size 0 20) := Lib.hid (there_new wq3 #[.int .u8 0, .int .i64 0, .int .i64 0, .int .i64 0, .int .i64 0, .int .i64 0, .int .i64 0, .int .i64 0, .bool false, .slice none 0 0, .int .i64 0, .int .i64 0, .slice none 0 0, .slice none 0 0, .slice none 0 0, .slice none 0 0, .int .i64 0, .int .i64 0, .int .i64 0, .slice none 0 0] 95)
          have HFA : Hid (∀ k, (wq3.alloc (.cells #[.int .u8 0, .int .i64 0, .int .i64 0, .int .i64 0, .int .i64 0, .int .i64 0, .int .i64 0, .int .i64 0, .bool false, .slice none 0 0, .int .i64 0, .int .i64 0, .slice none 0 0, .slice none 0 0, .slice none 0 0, .slice none 0 0, .int .i64 0, .int .i64 0, .int .i64 0, .slice none 0 0] 95)).frozen? ⟨wq3.heap.size, k, none⟩ = false) := Lib.hid (fun k => by rw [World.frozen?, heap_alloc_new]; simp)
          have HBA : Hid (wq3.heap.size < (wq3.alloc (.cells #[.int .u8 0, .int .i64 0, .int .i64 0, .int .i64 0, .int .i64 0, .int .i64 0, .int .i64 0, .int .i64 0, .bool false, .slice none 0 0, .int .i64 0, .int .i64 0, .slice none 0 0, .slice none 0 0, .slice none 0 0, .slice none 0 0, .int .i64 0, .int .i64 0, .int .i64 0, .slice none 0 0] 95)).heap.size) := Lib.hid (by rw [World.size_alloc]; omega)
          have HOA : Hid (Ok wq3 (wq3.alloc (.cells #[.int .u8 0, .int .i64 0, .int .i64 0, .int .i64 0, .int .i64 0, .int .i64 0, .int .i64 0, .int .i64 0, .bool false, .slice none 0 0, .int .i64 0, .int .i64 0, .slice none 0 0, .slice none 0 0, .slice none 0 0, .slice none 0 0, .int .i64 0, .int .i64 0, .int .i64 0, .slice none 0 0] 95))) := Lib.hid ((Ok.refl _).alloc _)
          generalize wq3.alloc (.cells #[.int .u8 0, .int .i64 0, .int .i64 0, .int .i64 0, .int .i64 0, .int .i64 0, .int .i64 0, .int .i64 0, .bool false, .slice none 0 0, .int .i64 0, .int .i64 0, .slice none 0 0, .slice none 0 0, .slice none 0 0, .slice none 0 0, .int .i64 0, .int .i64 0, .int .i64 0, .slice none 0 0] 95) = wq10 at *
          obtain ⟨bx, hbx⟩ : ∃ bx, wq3.heap.size = bx := ⟨_, rfl⟩
          rw [hbx] at HTA HFA HBA ⊢
          have HBX : Hid (wq3.heap.size = bx) := Lib.hid hbx
          have HGB : Hid (w3.heap.size ≤ bx) := Lib.hid (by rw [← hbx]; exact HO3.out.size)
          clear hbx
          have HO10 : Hid (Ok w3 wq10) := Lib.hid (HO3.out.trans HOA.out)
          have HV10 : Hid (wq10.rangeAt g 0 [.int .i64 i, .int .i64 t, .slice s.A0 s.n0 s.c0, .slice s.A1 s.n1 s.c1, .slice s.A2 s.n2 s.c2, .slice s.A3 s.n3 s.c3, .slice A L c]) := Lib.hid (fun j u hu => HOA.out.cell (HV3.out j u hu))
          refine HK.out.out _ _ HV10.out (fun hJ => ?_)
          clear hJ HK K
          try go_frame
          refine wpAnyH_ready (rs := [3]) (by kernel_rfl) (by simp) (AllReadyH.cons rfl (fun K hK => ?_) AllReadyH.nil)
          have HK := Lib.hid hK
          clear hK
          go_simp
          (with_reducible refine (fill_z i t 600 s cf A L c a6 bs wq10 HZ6.out (HMw6.out _ HO10.out).1 (HMw6.out _ HO10.out).2 (by have := HAL.out; omega) (by have := HAL.out; omega) l0 l1 l2 l3).mono ?_)
          rintro _ wq11 ⟨s', B', d', rfl, hcf, hby, ok⟩
          rw [HPS6.out] at hby ⊢
          rw [← HL.out]
          have HO11 : Hid (Ok w3 wq11) := Lib.hid (HO10.out.trans ok)
          have HV11 : Hid (wq11.rangeAt g 0 [.int .i64 i, .int .i64 t, .slice s.A0 s.n0 s.c0, .slice s.A1 s.n1 s.c1, .slice s.A2 s.n2 s.c2, .slice s.A3 s.n3 s.c3, .slice A L c]) := Lib.hid (fun j u hu => ok.cell (HV10.out j u hu))
          have HCF := Lib.hid hcf
          have HBY := Lib.hid hby
          have HSZF : Hid (w3.heap.size ≤ wq10.heap.size) := Lib.hid HO10.out.size
          have HBF : Hid (bx < wq10.heap.size) := Lib.hid HBA.out
          have HTA := Lib.hid (there_ok HTA.out ok)
          have HFA := Lib.hid (fun k => Ok.frz ok (HFA.out k) HBA.out)
          have HBA := Lib.hid (Nat.lt_of_lt_of_le HBA.out ok.size)
          clear ok hcf hby
          refine HK.out.out _ _ HV11.out (fun hJ => ?_)
          clear hJ HK K
          try go_frame
          refine wpAnyH_take (i := 4) (v := ?vp4u12) rfl (by kernel_rfl) (by kernel_rfl) (by kernel_rfl) (fun _ _ _ h => h) (Or.inl ⟨by rfl, ?hyp4u12⟩) (by exact HV11.out) ?restp4u12
          case hyp4u12 => ((intro w hSw); clear hSw; go_simp; (try with_reducible rfl))
          try go_frame
          refine wpAnyH_take (i := 5) (v := ?vp5u13) rfl (by kernel_rfl) (by kernel_rfl) (by kernel_rfl) (fun _ _ _ h => h) (Or.inl ⟨by rfl, ?hyp5u13⟩) (by exact HV11.out) ?restp5u13
          case hyp5u13 => ((intro w hSw); clear hSw; go_simp; (try with_reducible rfl))
          try go_frame
          refine wpAnyH_take (i := 6) (v := ?vp6u14) rfl (by kernel_rfl) (by kernel_rfl) (by kernel_rfl) (fun _ _ _ h => h) (Or.inl ⟨by rfl, ?hyp6u14⟩) (by exact HV11.out) ?restp6u14
          case hyp6u14 => ((intro w hSw); clear hSw; go_simp; (try with_reducible rfl))
          try go_frame
          refine wpAnyH_ready (rs := [8]) (by kernel_rfl) (by simp) (AllReadyH.cons rfl (fun K hK => ?_) AllReadyH.nil)
          have HK := Lib.hid hK
          clear hK
          rw [if_pos (by rfl)]
          refine wp_store_mid 95 (.tmp 4) (.tmp 26) rfl bx 0 #[.int .u8 5, .int .i64 0, .int .i64 1, .int .i64 2, .int .i64 4, .int .i64 0, .int .i64 0, .int .i64 0, .bool false, .slice none 0 0, .int .i64 i, .int .i64 t, .slice s'.A0 s'.n0 s'.c0, .slice s'.A1 s'.n1 s'.c1, .slice s'.A2 s'.n2 s'.c2, .slice s'.A3 s'.n3 s'.c3, .int .i64 (L : Int), .int .i64 (a6 : Int), .int .i64 0, .slice B' ps6.length d'] rfl rfl HTA.out info80 (by simp [Value.oneCell']) ?_
          have HRX : Hid ((wq11.setCells bx 0 [.int .u8 5, .int .i64 0, .int .i64 1, .int .i64 2, .int .i64 4, .int .i64 0, .int .i64 0, .int .i64 0, .bool false, .slice none 0 0, .int .i64 i, .int .i64 t, .slice s'.A0 s'.n0 s'.c0, .slice s'.A1 s'.n1 s'.c1, .slice s'.A2 s'.n2 s'.c2, .slice s'.A3 s'.n3 s'.c3, .int .i64 (L : Int), .int .i64 (a6 : Int), .int .i64 0, .slice B' ps6.length d']).rangeAt bx 0 [.int .u8 5, .int .i64 0, .int .i64 1, .int .i64 2, .int .i64 4, .int .i64 0, .int .i64 0, .int .i64 0, .bool false, .slice none 0 0, .int .i64 i, .int .i64 t, .slice s'.A0 s'.n0 s'.c0, .slice s'.A1 s'.n1 s'.c1, .slice s'.A2 s'.n2 s'.c2, .slice s'.A3 s'.n3 s'.c3, .int .i64 (L : Int), .int .i64 (a6 : Int), .int .i64 0, .slice B' ps6.length d']) := Lib.hid (World.rangeAt_setCells_same wq11 bx 0 [.int .u8 5, .int .i64 0, .int .i64 1, .int .i64 2, .int .i64 4, .int .i64 0, .int .i64 0, .int .i64 0, .bool false, .slice none 0 0, .int .i64 i, .int .i64 t, .slice s'.A0 s'.n0 s'.c0, .slice s'.A1 s'.n1 s'.c1, .slice s'.A2 s'.n2 s'.c2, .slice s'.A3 s'.n3 s'.c3, .int .i64 (L : Int), .int .i64 (a6 : Int), .int .i64 0, .slice B' ps6.length d'] HTA.out)
          have HRM : Hid ((wq11.setCells bx 0 [.int .u8 5, .int .i64 0, .int .i64 1, .int .i64 2, .int .i64 4, .int .i64 0, .int .i64 0, .int .i64 0, .bool false, .slice none 0 0, .int .i64 i, .int .i64 t, .slice s'.A0 s'.n0 s'.c0, .slice s'.A1 s'.n1 s'.c1, .slice s'.A2 s'.n2 s'.c2, .slice s'.A3 s'.n3 s'.c3, .int .i64 (L : Int), .int .i64 (a6 : Int), .int .i64 0, .slice B' ps6.length d']).rangeAt g 0 [.int .i64 i, .int .i64 t, .slice s.A0 s.n0 s.c0, .slice s.A1 s.n1 s.c1, .slice s.A2 s.n2 s.c2, .slice s.A3 s.n3 s.c3, .slice A L c]) := Lib.hid (World.rangeAt_setCells_apart HV11.out bx 0 _ (.inl (by have := HGB.out; have := HBOX.out; omega)))
          have HOX : Hid (Ok w3 (wq11.setCells bx 0 [.int .u8 5, .int .i64 0, .int .i64 1, .int .i64 2, .int .i64 4, .int .i64 0, .int .i64 0, .int .i64 0, .bool false, .slice none 0 0, .int .i64 i, .int .i64 t, .slice s'.A0 s'.n0 s'.c0, .slice s'.A1 s'.n1 s'.c1, .slice s'.A2 s'.n2 s'.c2, .slice s'.A3 s'.n3 s'.c3, .int .i64 (L : Int), .int .i64 (a6 : Int), .int .i64 0, .slice B' ps6.length d'])) := Lib.hid (Ok.sets HGB.out _ _ _ HO11.out)
          have HFX : Hid (∀ k, (wq11.setCells bx 0 [.int .u8 5, .int .i64 0, .int .i64 1, .int .i64 2, .int .i64 4, .int .i64 0, .int .i64 0, .int .i64 0, .bool false, .slice none 0 0, .int .i64 i, .int .i64 t, .slice s'.A0 s'.n0 s'.c0, .slice s'.A1 s'.n1 s'.c1, .slice s'.A2 s'.n2 s'.c2, .slice s'.A3 s'.n3 s'.c3, .int .i64 (L : Int), .int .i64 (a6 : Int), .int .i64 0, .slice B' ps6.length d']).frozen? ⟨bx, k, none⟩ = false) := Lib.hid (fun k => by rw [World.frozen?_setCells]; exact HFA.out k)
          have HCX : Hid (CfgOwn (wq11.setCells bx 0 [.int .u8 5, .int .i64 0, .int .i64 1, .int .i64 2, .int .i64 4, .int .i64 0, .int .i64 0, .int .i64 0, .bool false, .slice none 0 0, .int .i64 i, .int .i64 t, .slice s'.A0 s'.n0 s'.c0, .slice s'.A1 s'.n1 s'.c1, .slice s'.A2 s'.n2 s'.c2, .slice s'.A3 s'.n3 s'.c3, .int .i64 (L : Int), .int .i64 (a6 : Int), .int .i64 0, .slice B' ps6.length d']) w3.heap.size s' cf) := Lib.hid (((sets_own [.int .u8 5, .int .i64 0, .int .i64 1, .int .i64 2, .int .i64 4, .int .i64 0, .int .i64 0, .int .i64 0, .bool false, .slice none 0 0, .int .i64 i, .int .i64 t, .slice s'.A0 s'.n0 s'.c0, .slice s'.A1 s'.n1 s'.c1, .slice s'.A2 s'.n2 s'.c2, .slice s'.A3 s'.n3 s'.c3, .int .i64 (L : Int), .int .i64 (a6 : Int), .int .i64 0, .slice B' ps6.length d'] 0 wq11 _ HBF.out).1 HCF.out).lower HSZF.out)
          have HNX : Hid (OwnN (wq11.setCells bx 0 [.int .u8 5, .int .i64 0, .int .i64 1, .int .i64 2, .int .i64 4, .int .i64 0, .int .i64 0, .int .i64 0, .bool false, .slice none 0 0, .int .i64 i, .int .i64 t, .slice s'.A0 s'.n0 s'.c0, .slice s'.A1 s'.n1 s'.c1, .slice s'.A2 s'.n2 s'.c2, .slice s'.A3 s'.n3 s'.c3, .int .i64 (L : Int), .int .i64 (a6 : Int), .int .i64 0, .slice B' ps6.length d']) w3.heap.size (.slice B' ps6.length d') ps6) := Lib.hid (((sets_own [.int .u8 5, .int .i64 0, .int .i64 1, .int .i64 2, .int .i64 4, .int .i64 0, .int .i64 0, .int .i64 0, .bool false, .slice none 0 0, .int .i64 i, .int .i64 t, .slice s'.A0 s'.n0 s'.c0, .slice s'.A1 s'.n1 s'.c1, .slice s'.A2 s'.n2 s'.c2, .slice s'.A3 s'.n3 s'.c3, .int .i64 (L : Int), .int .i64 (a6 : Int), .int .i64 0, .slice B' ps6.length d'] 0 wq11 _ HBF.out).2 HBY.out).lower HSZF.out)
          have HEX : Hid (∀ v, CfgOwn ((wq11.setCells bx 0 [.int .u8 5, .int .i64 0, .int .i64 1, .int .i64 2, .int .i64 4, .int .i64 0, .int .i64 0, .int .i64 0, .bool false, .slice none 0 0, .int .i64 i, .int .i64 t, .slice s'.A0 s'.n0 s'.c0, .slice s'.A1 s'.n1 s'.c1, .slice s'.A2 s'.n2 s'.c2, .slice s'.A3 s'.n3 s'.c3, .int .i64 (L : Int), .int .i64 (a6 : Int), .int .i64 0, .slice B' ps6.length d']).setCell ⟨bx, 4, none⟩ v) w3.heap.size s' cf ∧ OwnN ((wq11.setCells bx 0 [.int .u8 5, .int .i64 0, .int .i64 1, .int .i64 2, .int .i64 4, .int .i64 0, .int .i64 0, .int .i64 0, .bool false, .slice none 0 0, .int .i64 i, .int .i64 t, .slice s'.A0 s'.n0 s'.c0, .slice s'.A1 s'.n1 s'.c1, .slice s'.A2 s'.n2 s'.c2, .slice s'.A3 s'.n3 s'.c3, .int .i64 (L : Int), .int .i64 (a6 : Int), .int .i64 0, .slice B' ps6.length d']).setCell ⟨bx, 4, none⟩ v) w3.heap.size (.slice B' ps6.length d') ps6) := Lib.hid (fun v => ⟨(((sets_own [.int .u8 5, .int .i64 0, .int .i64 1, .int .i64 2, .int .i64 4, .int .i64 0, .int .i64 0, .int .i64 0, .bool false, .slice none 0 0, .int .i64 i, .int .i64 t, .slice s'.A0 s'.n0 s'.c0, .slice s'.A1 s'.n1 s'.c1, .slice s'.A2 s'.n2 s'.c2, .slice s'.A3 s'.n3 s'.c3, .int .i64 (L : Int), .int .i64 (a6 : Int), .int .i64 0, .slice B' ps6.length d'] 0 wq11 _ HBF.out).1 HCF.out).set bx 4 v HBF.out).lower HSZF.out, (((sets_own [.int .u8 5, .int .i64 0, .int .i64 1, .int .i64 2, .int .i64 4, .int .i64 0, .int .i64 0, .int .i64 0, .bool false, .slice none 0 0, .int .i64 i, .int .i64 t, .slice s'.A0 s'.n0 s'.c0, .slice s'.A1 s'.n1 s'.c1, .slice s'.A2 s'.n2 s'.c2, .slice s'.A3 s'.n3 s'.c3, .int .i64 (L : Int), .int .i64 (a6 : Int), .int .i64 0, .slice B' ps6.length d'] 0 wq11 _ HBF.out).2 HBY.out).set bx 4 v HBF.out).lower HSZF.out⟩)
          have HBZ : Hid (bx < (wq11.setCells bx 0 [.int .u8 5, .int .i64 0, .int .i64 1, .int .i64 2, .int .i64 4, .int .i64 0, .int .i64 0, .int .i64 0, .bool false, .slice none 0 0, .int .i64 i, .int .i64 t, .slice s'.A0 s'.n0 s'.c0, .slice s'.A1 s'.n1 s'.c1, .slice s'.A2 s'.n2 s'.c2, .slice s'.A3 s'.n3 s'.c3, .int .i64 (L : Int), .int .i64 (a6 : Int), .int .i64 0, .slice B' ps6.length d']).heap.size) := Lib.hid (World.block_lt_of_cell? _ _ (HRX.out 0 _ rfl))
          generalize wq11.setCells bx 0 [.int .u8 5, .int .i64 0, .int .i64 1, .int .i64 2, .int .i64 4, .int .i64 0, .int .i64 0, .int .i64 0, .bool false, .slice none 0 0, .int .i64 i, .int .i64 t, .slice s'.A0 s'.n0 s'.c0, .slice s'.A1 s'.n1 s'.c1, .slice s'.A2 s'.n2 s'.c2, .slice s'.A3 s'.n3 s'.c3, .int .i64 (L : Int), .int .i64 (a6 : Int), .int .i64 0, .slice B' ps6.length d'] = wX at *
          refine HK.out.out _ _ HRM.out (fun hJ => ?_)
          clear hJ HK K
          try go_frame
          refine wpAnyH_take (i := 9) (v := ?vp9u15) rfl (by kernel_rfl) (by kernel_rfl) (by kernel_rfl) (fun _ _ _ h => h) (Or.inl ⟨by rfl, ?hyp9u15⟩) (by exact HRM.out) ?restp9u15
          case hyp9u15 => ((intro w hSw); clear hSw; go_simp; (try with_reducible rfl))
          try go_frame
          refine wpAnyH_done (by kernel_rfl) ?_ _
          go_simp
          first | (refine Met.intro ?_; refine hK1 _ _ (Met.intro ?_)) | refine hK1 _ _ (Met.intro ?_)
          exact HJ0.out _ _ ⟨_, _, _, _, _, _, _, _, _, _, ⟨bx, s', B', d', rfl, rfl, HRX.out, HFX.out, HCX.out, HNX.out, HGB.out, HBZ.out, HOX.out, HEX.out⟩, rfl⟩
      · have HK := Lib.hid hK
        clear hK
        go_simp
        have HTA : Hid ((ws.alloc (.cells #[.int .u8 0, .int .i64 0, .int .i64 0, .int .i64 0, .int .i64 0, .int .i64 0, .int .i64 0, .int .i64 0, .bool false, .slice none 0 0, .int .i64 0, .int .i64 0, .slice none 0 0, .slice none 0 0, .slice none 0 0, .slice none 0 0, .int .i64 0, .int .i64 0, .int .i64 0, .slice none 0 0] 95)).there ws.heap.size 0 20) := Lib.hid (there_new ws #[.int .u8 0, .int .i64 0, .int .i64 0, .int .i64 0, .int .i64 0, .int .i64 0, .int .i64 0, .int .i64 0, .bool false, .slice none 0 0, .int .i64 0, .int .i64 0, .slice none 0 0, .slice none 0 0, .slice none 0 0, .slice none 0 0, .int .i64 0, .int .i64 0, .int .i64 0, .slice none 0 0] 95)
        have HFA : Hid (∀ k, (ws.alloc (.cells #[.int .u8 0, .int .i64 0, .int .i64 0, .int .i64 0, .int .i64 0, .int .i64 0, .int .i64 0, .int .i64 0, .bool false, .slice none 0 0, .int .i64 0, .int .i64 0, .slice none 0 0, .slice none 0 0, .slice none 0 0, .slice none 0 0, .int .i64 0, .int .i64 0, .int .i64 0, .slice none 0 0] 95)).frozen? ⟨ws.heap.size, k, none⟩ = false) := Lib.hid (fun k => by rw [World.frozen?, heap_alloc_new]; simp)
        have HBA : Hid (ws.heap.size < (ws.alloc (.cells #[.int .u8 0, .int .i64 0, .int .i64 0, .int .i64 0, .int .i64 0, .int .i64 0, .int .i64 0, .int .i64 0, .bool false, .slice none 0 0, .int .i64 0, .int .i64 0, .slice none 0 0, .slice none 0 0, .slice none 0 0, .slice none 0 0, .int .i64 0, .int .i64 0, .int .i64 0, .slice none 0 0] 95)).heap.size) := Lib.hid (by rw [World.size_alloc]; omega)
        have HOA : Hid (Ok ws (ws.alloc (.cells #[.int .u8 0, .int .i64 0, .int .i64 0, .int .i64 0, .int .i64 0, .int .i64 0, .int .i64 0, .int .i64 0, .bool false, .slice none 0 0, .int .i64 0, .int .i64 0, .slice none 0 0, .slice none 0 0, .slice none 0 0, .slice none 0 0, .int .i64 0, .int .i64 0, .int .i64 0, .slice none 0 0] 95))) := Lib.hid ((Ok.refl _).alloc _)
        generalize ws.alloc (.cells #[.int .u8 0, .int .i64 0, .int .i64 0, .int .i64 0, .int .i64 0, .int .i64 0, .int .i64 0, .int .i64 0, .bool false, .slice none 0 0, .int .i64 0, .int .i64 0, .slice none 0 0, .slice none 0 0, .slice none 0 0, .slice none 0 0, .int .i64 0, .int .i64 0, .int .i64 0, .slice none 0 0] 95) = wq16 at *
        obtain ⟨bx, hbx⟩ : ∃ bx, ws.heap.size = bx := ⟨_, rfl⟩
        rw [hbx] at HTA HFA HBA ⊢
        have HBX : Hid (ws.heap.size = bx) := Lib.hid hbx
        have HGB : Hid (w3.heap.size ≤ bx) := Lib.hid (by rw [← hbx]; exact HOs.out.size)
        clear hbx
        have HO16 : Hid (Ok w3 wq16) := Lib.hid (HOs.out.trans HOA.out)
        have HV16 : Hid (wq16.rangeAt g 0 [.int .i64 i, .int .i64 t, .slice s.A0 s.n0 s.c0, .slice s.A1 s.n1 s.c1, .slice s.A2 s.n2 s.c2, .slice s.A3 s.n3 s.c3, .slice A L c]) := Lib.hid (fun j u hu => HOA.out.cell (HSs.out j u hu))
        refine HK.out.out _ _ HV16.out (fun hJ => ?_)
        clear hJ HK K
        try go_frame
        refine wpAnyH_ready (rs := [1]) (by kernel_rfl) (by simp) (AllReadyH.cons rfl (fun K hK => ?_) AllReadyH.nil)
        have HK := Lib.hid hK
        clear hK
        go_simp
        (with_reducible refine (asks_f i t 600 s L c A wq16).mono ?_)
        rintro _ wq17 ⟨rfl, ok⟩
        have HO17 : Hid (Ok w3 wq17) := Lib.hid (HO16.out.trans ok)
        have HV17 : Hid (wq17.rangeAt g 0 [.int .i64 i, .int .i64 t, .slice s.A0 s.n0 s.c0, .slice s.A1 s.n1 s.c1, .slice s.A2 s.n2 s.c2, .slice s.A3 s.n3 s.c3, .slice A L c]) := Lib.hid (fun j u hu => ok.cell (HV16.out j u hu))
        have HTA := Lib.hid (there_ok HTA.out ok)
        have HFA := Lib.hid (fun k => Ok.frz ok (HFA.out k) HBA.out)
        have HBA := Lib.hid (Nat.lt_of_lt_of_le HBA.out ok.size)
        clear ok
        refine HK.out.out _ _ HV17.out (fun hJ => ?_)
        clear hJ HK K
        try go_frame
        refine wpAnyH_ready (rs := [3]) (by kernel_rfl) (by simp) (AllReadyH.cons rfl (fun K hK => ?_) AllReadyH.nil)
        have HK := Lib.hid hK
        clear hK
        go_simp
        (with_reducible refine (fill_z i t 600 s cf A L c a6 bs wq17 HZ6.out (HMw6.out _ HO17.out).1 (HMw6.out _ HO17.out).2 (by have := HAL.out; omega) (by have := HAL.out; omega) l0 l1 l2 l3).mono ?_)
        rintro _ wq18 ⟨s', B', d', rfl, hcf, hby, ok⟩
        rw [HPS6.out] at hby ⊢
        rw [← HL.out]
        have HO18 : Hid (Ok w3 wq18) := Lib.hid (HO17.out.trans ok)
        have HV18 : Hid (wq18.rangeAt g 0 [.int .i64 i, .int .i64 t, .slice s.A0 s.n0 s.c0, .slice s.A1 s.n1 s.c1, .slice s.A2 s.n2 s.c2, .slice s.A3 s.n3 s.c3, .slice A L c]) := Lib.hid (fun j u hu => ok.cell (HV17.out j u hu))
        have HCF := Lib.hid hcf
        have HBY := Lib.hid hby
        have HSZF : Hid (w3.heap.size ≤ wq17.heap.size) := Lib.hid HO17.out.size
        have HBF : Hid (bx < wq17.heap.size) := Lib.hid HBA.out
        have HTA := Lib.hid (there_ok HTA.out ok)
        have HFA := Lib.hid (fun k => Ok.frz ok (HFA.out k) HBA.out)
        have HBA := Lib.hid (Nat.lt_of_lt_of_le HBA.out ok.size)
        clear ok hcf hby
        refine HK.out.out _ _ HV18.out (fun hJ => ?_)
        clear hJ HK K
        try go_frame
        refine wpAnyH_take (i := 4) (v := ?vp4u19) rfl (by kernel_rfl) (by kernel_rfl) (by kernel_rfl) (fun _ _ _ h => h) (Or.inl ⟨by rfl, ?hyp4u19⟩) (by exact HV18.out) ?restp4u19
        case hyp4u19 => ((intro w hSw); clear hSw; go_simp; (try with_reducible rfl))
        try go_frame
        refine wpAnyH_take (i := 5) (v := ?vp5u20) rfl (by kernel_rfl) (by kernel_rfl) (by kernel_rfl) (fun _ _ _ h => h) (Or.inl ⟨by rfl, ?hyp5u20⟩) (by exact HV18.out) ?restp5u20
        case hyp5u20 => ((intro w hSw); clear hSw; go_simp; (try with_reducible rfl))
        try go_frame
        refine wpAnyH_take (i := 6) (v := ?vp6u21) rfl (by kernel_rfl) (by kernel_rfl) (by kernel_rfl) (fun _ _ _ h => h) (Or.inl ⟨by rfl, ?hyp6u21⟩) (by exact HV18.out) ?restp6u21
        case hyp6u21 => ((intro w hSw); clear hSw; go_simp; (try with_reducible rfl))
        try go_frame
        refine wpAnyH_ready (rs := [8]) (by kernel_rfl) (by simp) (AllReadyH.cons rfl (fun K hK => ?_) AllReadyH.nil)
        have HK := Lib.hid hK
        clear hK
        rw [if_pos (by rfl)]
        refine wp_store_mid 95 (.tmp 4) (.tmp 26) rfl bx 0 #[.int .u8 5, .int .i64 0, .int .i64 1, .int .i64 2, .int .i64 4, .int .i64 0, .int .i64 0, .int .i64 0, .bool false, .slice none 0 0, .int .i64 i, .int .i64 t, .slice s'.A0 s'.n0 s'.c0, .slice s'.A1 s'.n1 s'.c1, .slice s'.A2 s'.n2 s'.c2, .slice s'.A3 s'.n3 s'.c3, .int .i64 (L : Int), .int .i64 (a6 : Int), .int .i64 0, .slice B' ps6.length d'] rfl rfl HTA.out info80 (by simp [Value.oneCell']) ?_
        have HRX : Hid ((wq18.setCells bx 0 [.int .u8 5, .int .i64 0, .int .i64 1, .int .i64 2, .int .i64 4, .int .i64 0, .int .i64 0, .int .i64 0, .bool false, .slice none 0 0, .int .i64 i, .int .i64 t, .slice s'.A0 s'.n0 s'.c0, .slice s'.A1 s'.n1 s'.c1, .slice s'.A2 s'.n2 s'.c2, .slice s'.A3 s'.n3 s'.c3, .int .i64 (L : Int), .int .i64 (a6 : Int), .int .i64 0, .slice B' ps6.length d']).rangeAt bx 0 [.int .u8 5, .int .i64 0, .int .i64 1, .int .i64 2, .int .i64 4, .int .i64 0, .int .i64 0, .int .i64 0, .bool false, .slice none 0 0, .int .i64 i, .int .i64 t, .slice s'.A0 s'.n0 s'.c0, .slice s'.A1 s'.n1 s'.c1, .slice s'.A2 s'.n2 s'.c2, .slice s'.A3 s'.n3 s'.c3, .int .i64 (L : Int), .int .i64 (a6 : Int), .int .i64 0, .slice B' ps6.length d']) := Lib.hid (World.rangeAt_setCells_same wq18 bx 0 [.int .u8 5, .int .i64 0, .int .i64 1, .int .i64 2, .int .i64 4, .int .i64 0, .int .i64 0, .int .i64 0, .bool false, .slice none 0 0, .int .i64 i, .int .i64 t, .slice s'.A0 s'.n0 s'.c0, .slice s'.A1 s'.n1 s'.c1, .slice s'.A2 s'.n2 s'.c2, .slice s'.A3 s'.n3 s'.c3, .int .i64 (L : Int), .int .i64 (a6 : Int), .int .i64 0, .slice B' ps6.length d'] HTA.out)
        have HRM : Hid ((wq18.setCells bx 0 [.int .u8 5, .int .i64 0, .int .i64 1, .int .i64 2, .int .i64 4, .int .i64 0, .int .i64 0, .int .i64 0, .bool false, .slice none 0 0, .int .i64 i, .int .i64 t, .slice s'.A0 s'.n0 s'.c0, .slice s'.A1 s'.n1 s'.c1, .slice s'.A2 s'.n2 s'.c2, .slice s'.A3 s'.n3 s'.c3, .int .i64 (L : Int), .int .i64 (a6 : Int), .int .i64 0, .slice B' ps6.length d']).rangeAt g 0 [.int .i64 i, .int .i64 t, .slice s.A0 s.n0 s.c0, .slice s.A1 s.n1 s.c1, .slice s.A2 s.n2 s.c2, .slice s.A3 s.n3 s.c3, .slice A L c]) := Lib.hid (World.rangeAt_setCells_apart HV18.out bx 0 _ (.inl (by have := HGB.out; have := HBOX.out; omega)))
        have HOX : Hid (Ok w3 (wq18.setCells bx 0 [.int .u8 5, .int .i64 0, .int .i64 1, .int .i64 2, .int .i64 4, .int .i64 0, .int .i64 0, .int .i64 0, .bool false, .slice none 0 0, .int .i64 i, .int .i64 t, .slice s'.A0 s'.n0 s'.c0, .slice s'.A1 s'.n1 s'.c1, .slice s'.A2 s'.n2 s'.c2, .slice s'.A3 s'.n3 s'.c3, .int .i64 (L : Int), .int .i64 (a6 : Int), .int .i64 0, .slice B' ps6.length d'])) := Lib.hid (Ok.sets HGB.out _ _ _ HO18.out)
        have HFX : Hid (∀ k, (wq18.setCells bx 0 [.int .u8 5, .int .i64 0, .int .i64 1, .int .i64 2, .int .i64 4, .int .i64 0, .int .i64 0, .int .i64 0, .bool false, .slice none 0 0, .int .i64 i, .int .i64 t, .slice s'.A0 s'.n0 s'.c0, .slice s'.A1 s'.n1 s'.c1, .slice s'.A2 s'.n2 s'.c2, .slice s'.A3 s'.n3 s'.c3, .int .i64 (L : Int), .int .i64 (a6 : Int), .int .i64 0, .slice B' ps6.length d']).frozen? ⟨bx, k, none⟩ = false) := Lib.hid (fun k => by rw [World.frozen?_setCells]; exact HFA.out k)
        have HCX : Hid (CfgOwn (wq18.setCells bx 0 [.int .u8 5, .int .i64 0, .int .i64 1, .int .i64 2, .int .i64 4, .int .i64 0, .int .i64 0, .int .i64 0, .bool false, .slice none 0 0, .int .i64 i, .int .i64 t, .slice s'.A0 s'.n0 s'.c0, .slice s'.A1 s'.n1 s'.c1, .slice s'.A2 s'.n2 s'.c2, .slice s'.A3 s'.n3 s'.c3, .int .i64 (L : Int), .int .i64 (a6 : Int), .int .i64 0, .slice B' ps6.length d']) w3.heap.size s' cf) := Lib.hid (((sets_own [.int .u8 5, .int .i64 0, .int .i64 1, .int .i64 2, .int .i64 4, .int .i64 0, .int .i64 0, .int .i64 0, .bool false, .slice none 0 0, .int .i64 i, .int .i64 t, .slice s'.A0 s'.n0 s'.c0, .slice s'.A1 s'.n1 s'.c1, .slice s'.A2 s'.n2 s'.c2, .slice s'.A3 s'.n3 s'.c3, .int .i64 (L : Int), .int .i64 (a6 : Int), .int .i64 0, .slice B' ps6.length d'] 0 wq18 _ HBF.out).1 HCF.out).lower HSZF.out)
        have HNX : Hid (OwnN (wq18.setCells bx 0 [.int .u8 5, .int .i64 0, .int .i64 1, .int .i64 2, .int .i64 4, .int .i64 0, .int .i64 0, .int .i64 0, .bool false, .slice none 0 0, .int .i64 i, .int .i64 t, .slice s'.A0 s'.n0 s'.c0, .slice s'.A1 s'.n1 s'.c1, .slice s'.A2 s'.n2 s'.c2, .slice s'.A3 s'.n3 s'.c3, .int .i64 (L : Int), .int .i64 (a6 : Int), .int .i64 0, .slice B' ps6.length d']) w3.heap.size (.slice B' ps6.length d') ps6) := Lib.hid (((sets_own [.int .u8 5, .int .i64 0, .int .i64 1, .int .i64 2, .int .i64 4, .int .i64 0, .int .i64 0, .int .i64 0, .bool false, .slice none 0 0, .int .i64 i, .int .i64 t, .slice s'.A0 s'.n0 s'.c0, .slice s'.A1 s'.n1 s'.c1, .slice s'.A2 s'.n2 s'.c2, .slice s'.A3 s'.n3 s'.c3, .int .i64 (L : Int), .int .i64 (a6 : Int), .int .i64 0, .slice B' ps6.length d'] 0 wq18 _ HBF.out).2 HBY.out).lower HSZF.out)
        have HEX : Hid (∀ v, CfgOwn ((wq18.setCells bx 0 [.int .u8 5, .int .i64 0, .int .i64 1, .int .i64 2, .int .i64 4, .int .i64 0, .int .i64 0, .int .i64 0, .bool false, .slice none 0 0, .int .i64 i, .int .i64 t, .slice s'.A0 s'.n0 s'.c0, .slice s'.A1 s'.n1 s'.c1, .slice s'.A2 s'.n2 s'.c2, .slice s'.A3 s'.n3 s'.c3, .int .i64 (L : Int), .int .i64 (a6 : Int), .int .i64 0, .slice B' ps6.length d']).setCell ⟨bx, 4, none⟩ v) w3.heap.size s' cf ∧ OwnN ((wq18.setCells bx 0 [.int .u8 5, .int .i64 0, .int .i64 1, .int .i64 2, .int .i64 4, .int .i64 0, .int .i64 0, .int .i64 0, .bool false, .slice none 0 0, .int .i64 i, .int .i64 t, .slice s'.A0 s'.n0 s'.c0, .slice s'.A1 s'.n1 s'.c1, .slice s'.A2 s'.n2 s'.c2, .slice s'.A3 s'.n3 s'.c3, .int .i64 (L : Int), .int .i64 (a6 : Int), .int .i64 0, .slice B' ps6.length d']).setCell ⟨bx, 4, none⟩ v) w3.heap.size (.slice B' ps6.length d') ps6) := Lib.hid (fun v => ⟨(((sets_own [.int .u8 5, .int .i64 0, .int .i64 1, .int .i64 2, .int .i64 4, .int .i64 0, .int .i64 0, .int .i64 0, .bool false, .slice none 0 0, .int .i64 i, .int .i64 t, .slice s'.A0 s'.n0 s'.c0, .slice s'.A1 s'.n1 s'.c1, .slice s'.A2 s'.n2 s'.c2, .slice s'.A3 s'.n3 s'.c3, .int .i64 (L : Int), .int .i64 (a6 : Int), .int .i64 0, .slice B' ps6.length d'] 0 wq18 _ HBF.out).1 HCF.out).set bx 4 v HBF.out).lower HSZF.out, (((sets_own [.int .u8 5, .int .i64 0, .int .i64 1, .int .i64 2, .int .i64 4, .int .i64 0, .int .i64 0, .int .i64 0, .bool false, .slice none 0 0, .int .i64 i, .int .i64 t, .slice s'.A0 s'.n0 s'.c0, .slice s'.A1 s'.n1 s'.c1, .slice s'.A2 s'.n2 s'.c2, .slice s'.A3 s'.n3 s'.c3, .int .i64 (L : Int), .int .i64 (a6 : Int), .int .i64 0, .slice B' ps6.length d'] 0 wq18 _ HBF.out).2 HBY.out).set bx 4 v HBF.out).lower HSZF.out⟩)
        have HBZ : Hid (bx < (wq18.setCells bx 0 [.int .u8 5, .int .i64 0, .int .i64 1, .int .i64 2, .int .i64 4, .int .i64 0, .int .i64 0, .int .i64 0, .bool false, .slice none 0 0, .int .i64 i, .int .i64 t, .slice s'.A0 s'.n0 s'.c0, .slice s'.A1 s'.n1 s'.c1, .slice s'.A2 s'.n2 s'.c2, .slice s'.A3 s'.n3 s'.c3, .int .i64 (L : Int), .int .i64 (a6 : Int), .int .i64 0, .slice B' ps6.length d']).heap.size) := Lib.hid (World.block_lt_of_cell? _ _ (HRX.out 0 _ rfl))
        generalize wq18.setCells bx 0 [.int .u8 5, .int .i64 0, .int .i64 1, .int .i64 2, .int .i64 4, .int .i64 0, .int .i64 0, .int .i64 0, .bool false, .slice none 0 0, .int .i64 i, .int .i64 t, .slice s'.A0 s'.n0 s'.c0, .slice s'.A1 s'.n1 s'.c1, .slice s'.A2 s'.n2 s'.c2, .slice s'.A3 s'.n3 s'.c3, .int .i64 (L : Int), .int .i64 (a6 : Int), .int .i64 0, .slice B' ps6.length d'] = wX at *
        refine HK.out.out _ _ HRM.out (fun hJ => ?_)
        clear hJ HK K
        try go_frame
        refine wpAnyH_take (i := 9) (v := ?vp9u22) rfl (by kernel_rfl) (by kernel_rfl) (by kernel_rfl) (fun _ _ _ h => h) (Or.inl ⟨by rfl, ?hyp9u22⟩) (by exact HRM.out) ?restp9u22
        case hyp9u22 => ((intro w hSw); clear hSw; go_simp; (try with_reducible rfl))
        try go_frame
        refine wpAnyH_done (by kernel_rfl) ?_ _
        go_simp
        first | (refine Met.intro ?_; refine hK1 _ _ (Met.intro ?_)) | refine hK1 _ _ (Met.intro ?_)
        exact HJ0.out _ _ ⟨_, _, _, _, _, _, _, _, _, _, ⟨bx, s', B', d', rfl, rfl, HRX.out, HFX.out, HCX.out, HNX.out, HGB.out, HBZ.out, HOX.out, HEX.out⟩, rfl⟩
    case rest =>
      obtain ⟨bY, s5, B5, d5, rfl, rfl, hrx, -, hcx, hnx, -, -, hox, -⟩ := hcut
      generalize wc = w4 at *
      have HXC6 : Hid (∀ w', Ok w4 w' → CfgAt w' s5 cf ∧ BytesIn w' (.slice B5 ps6.length d5) ps6) := Lib.hid (fun w' k => ⟨(hcx.ok k).at l0 l1 l2 l3, (hnx.okk k).bytes (by rw [← HPS6.out, List.length_take]; omega)⟩)
      have HXR6 : Hid (∀ w', Ok w4 w' → w'.rangeAt bY 0 [.int .u8 5, .int .i64 0, .int .i64 1, .int .i64 2, .int .i64 4, .int .i64 0, .int .i64 0, .int .i64 0, .bool false, .slice none 0 0, .int .i64 i, .int .i64 t, .slice s5.A0 s5.n0 s5.c0, .slice s5.A1 s5.n1 s5.c1, .slice s5.A2 s5.n2 s5.c2, .slice s5.A3 s5.n3 s5.c3, .int .i64 (L : Int), .int .i64 (a6 : Int), .int .i64 0, .slice B5 ps6.length d5]) := Lib.hid (fun w' k j u hu => k.cell (hrx j u hu))
      have HOX6 := Lib.hid hox
      clear hrx hcx hnx hox
      have HXC0' : Hid (∀ w', Ok w4 w' → CfgAt w' s1 cf ∧ BytesIn w' (.slice B1 ps0.length d1) ps0) := Lib.hid (fun w' k => HXC0.out w' (HOX6.out.trans k))
      have HXR0' : Hid (∀ w', Ok w4 w' → w'.rangeAt bx 0 [.int .u8 5, .int .i64 0, .int .i64 1, .int .i64 2, .int .i64 4, .int .i64 0, .int .i64 0, .int .i64 0, .bool false, .slice none 0 0, .int .i64 i, .int .i64 t, .slice s1.A0 s1.n0 s1.c0, .slice s1.A1 s1.n1 s1.c1, .slice s1.A2 s1.n2 s1.c2, .slice s1.A3 s1.n3 s1.c3, .int .i64 (L : Int), .int .i64 (a0 : Int), .int .i64 0, .slice B1 ps0.length d1]) := Lib.hid (fun w' k => HXR0.out w' (HOX6.out.trans k))
      clear HXC0 HXR0 HAL HBOX
      go_wp2_with fail
      (with_reducible refine (fnew_f w4).mono ?_)
      rintro _ w5 ⟨rfl, hf5, ok5, -⟩
      obtain ⟨p, hp⟩ : ∃ p, w4.heap.size = p := ⟨_, rfl⟩
      rw [hp] at hf5 ⊢
      have HP := Lib.hid hp
      have HOK5 := Lib.hid ok5
      have HFS5 : Hid (FS p i t L bs a0 w5) := Lib.hid (.inl ⟨HA0.out, hf5⟩)
      clear hp hf5 ok5
      go_upto_region 5 with fail
      rename_i K17 hK17
      have HK17 := Lib.hid hK17
      clear hK17
      refine wp_region_lit ?_
      refine wpList_step (fun K hK => ?_)
      rw [if_pos (by rfl)]
      go_simp
      refine hK _ _ ?_
      clear hK K
      try go_frame
      refine wpList_load_w (by rfl) 95 (.tmp 2) rfl bx 0 rfl [.int .u8 5, .int .i64 0, .int .i64 1, .int .i64 2, .int .i64 4, .int .i64 0, .int .i64 0, .int .i64 0, .bool false, .slice none 0 0, .int .i64 i, .int .i64 t, .slice s1.A0 s1.n0 s1.c0, .slice s1.A1 s1.n1 s1.c1, .slice s1.A2 s1.n2 s1.c2, .slice s1.A3 s1.n3 s1.c3, .int .i64 (L : Int), .int .i64 (a0 : Int), .int .i64 0, .slice B1 ps0.length d1] d80 (HXR0'.out w5 HOK5.out) HD.out.1 HD.out.2 info80 ?_
      try go_frame
      refine wpList_step (fun K hK => ?_)
      rw [if_pos (by rfl)]
      go_simp
      (with_reducible refine (take_in w4 w5 w5 p HP.out 4 i t s1 cf L a0 a0 ps0.length d1 B1 bs ps0 HL.out HPS0.out rfl (by have := HLK.out; omega) (Nat.le_refl _) (by have := HA0.out; omega) (.inl rfl) HOK5.out HFS5.out (Ok.refl _) HXC0'.out l0 l1 l2 l3).mono ?_)
      rintro _ wq ⟨now, wh, i', t', s9, A2, m2, c2, nw, rfl, h0, hf, hh⟩
      have HQ0 := Lib.hid h0
      have HQF := Lib.hid hf
      have HQH := Lib.hid hh
      clear h0 hf hh
      refine hK _ _ ?_
      clear hK K
      try go_frame
      refine wpList_step (fun K hK => ?_)
      rw [if_pos (by rfl)]
      go_simp
      refine hK _ _ ?_
      clear hK K
      try go_frame
      refine wpList_step (fun K hK => ?_)
      rw [if_pos (by rfl)]
      go_simp
      refine hK _ _ ?_
      clear hK K
      try go_frame
      refine wpList_step (fun K hK => ?_)
      rw [if_pos (by rfl)]
      go_simp
      refine hK _ _ ?_
      clear hK K
      try go_frame
      refine wpList_step (fun K hK => ?_)
      rw [if_pos (by rfl)]
      go_simp
      refine hK _ _ ?_
      clear hK K
      try go_frame
      have HTH : Hid ((wq.alloc (.cells #[.int .i64 0, .int .i64 0, .slice none 0 0, .slice none 0 0, .slice none 0 0, .slice none 0 0, .slice none 0 0] 97)).there wq.heap.size 0 7) := Lib.hid (there_new wq #[.int .i64 0, .int .i64 0, .slice none 0 0, .slice none 0 0, .slice none 0 0, .slice none 0 0, .slice none 0 0] 97)
      obtain ⟨bz, hbz⟩ : ∃ bz, wq.heap.size = bz := ⟨_, rfl⟩
      have HFIN := Lib.hid (taken_new2 w4 w5 w5 wq p i t L bs cf 4 a0 a0 bx bz hbz [.int .u8 5, .int .i64 0, .int .i64 1, .int .i64 2, .int .i64 4, .int .i64 0, .int .i64 0, .int .i64 0, .bool false, .slice none 0 0, .int .i64 i, .int .i64 t, .slice s1.A0 s1.n0 s1.c0, .slice s1.A1 s1.n1 s1.c1, .slice s1.A2 s1.n2 s1.c2, .slice s1.A3 s1.n3 s1.c3, .int .i64 (L : Int), .int .i64 (a0 : Int), .int .i64 0, .slice B1 ps0.length d1] now wh i' t' s9 A2 m2 c2 nw (by have := HL.out; have := HLK.out; omega) l0 l1 l2 l3 HXR0'.out HQ0.out HQF.out HQH.out)
      refine wpList_step (fun K hK => ?_)
      rw [if_pos (by rfl)]
      go_simp
      refine hK _ _ ?_
      clear hK K
      try go_frame
      rw [hbz] at HTH
      clear hbz HQ0 HQF HQH
      generalize wq.alloc (.cells #[.int .i64 0, .int .i64 0, .slice none 0 0, .slice none 0 0, .slice none 0 0, .slice none 0 0, .slice none 0 0] 97) = wz at *
      refine wpList_step (fun K hK => ?_)
      rw [if_pos (by rfl)]
      go_simp
      refine hK _ _ ?_
      clear hK K
      try go_frame
      refine wpList_step (fun K hK => ?_)
      rw [if_pos (by rfl)]
      go_simp
      refine hK _ _ ?_
      clear hK K
      try go_frame
      refine wpList_store_mid rfl 97 (.tmp 9) (.tmp 35) rfl bz 0 #[.int .i64 i', .int .i64 t', .slice s9.A0 s9.n0 s9.c0, .slice s9.A1 s9.n1 s9.c1, .slice s9.A2 s9.n2 s9.c2, .slice s9.A3 s9.n3 s9.c3, .slice A2 m2 c2] rfl rfl HTH.out info75 (by simp [Value.oneCell']) ?_
      have HT : Hid (TakR w4 p i t L bs cf 4 a0 a0 bx [.int .u8 5, .int .i64 0, .int .i64 1, .int .i64 2, .int .i64 4, .int .i64 0, .int .i64 0, .int .i64 0, .bool false, .slice none 0 0, .int .i64 i, .int .i64 t, .slice s1.A0 s1.n0 s1.c0, .slice s1.A1 s1.n1 s1.c1, .slice s1.A2 s1.n2 s1.c2, .slice s1.A3 s1.n3 s1.c3, .int .i64 (L : Int), .int .i64 (a0 : Int), .int .i64 0, .slice B1 ps0.length d1] (.int .i64 (now : Int)) (.bool wh) (.pointer (some ⟨bz, 0, none⟩)) (wz.setCells bz 0 [.int .i64 i', .int .i64 t', .slice s9.A0 s9.n0 s9.c0, .slice s9.A1 s9.n1 s9.c1, .slice s9.A2 s9.n2 s9.c2, .slice s9.A3 s9.n3 s9.c3, .slice A2 m2 c2])) := HFIN
      clear HFIN HTH
      generalize wz.setCells bz 0 [.int .i64 i', .int .i64 t', .slice s9.A0 s9.n0 s9.c0, .slice s9.A1 s9.n1 s9.c1, .slice s9.A2 s9.n2 s9.c2, .slice s9.A3 s9.n3 s9.c3, .slice A2 m2 c2] = w6 at *
      try go_frame
      refine wpList_nil ?_
      refine HK17.out _ _ ?_
      clear HK17
      obtain ⟨now', wh', bz', i'', t'', s3, A3, m3, c3, nw', e1, e2, e3, hok2, hx2, hz2, hf2, hh⟩ := HT.out
      clear HT
      simp only [Value.int.injEq, true_and, Int.natCast_inj, Value.bool.injEq, Value.pointer.injEq, Option.some.injEq, Addr.mk.injEq, and_true] at e1 e2 e3
      subst e1 e2 e3
      obtain ⟨hwf, hnw6, hn6⟩ : wh = false ∧ nw' = 600 ∧ now = 600 := by
        have h1 := HA0.out
        have h2 := HLK.out
        rcases hh with ⟨h, _, _, ⟨_, h3, _, h4, _⟩ | ⟨h, _⟩⟩ | ⟨_, _, _, _, _, _, _, _, h3, _⟩
        · exact ⟨h, by omega, by omega⟩
        · omega
        · omega
      subst hwf
      clear hh hx2 hz2
      generalize now = now1 at *
      generalize bz = bz1 at *
      generalize nw' = was at *
      have HN1 := Lib.hid hn6
      have HWS := Lib.hid hnw6
      have HOK6 := Lib.hid hok2
      have HFS6 := Lib.hid hf2
      clear hn6 hnw6 hok2 hf2 HOK5 HFS5
      go_upto_region 6 with fail
      rename_i K17 hK17
      have HK17 := Lib.hid hK17
      clear hK17
      refine wp_region_lit ?_
      refine wpList_step (fun K hK => ?_)
      rw [if_pos (by rfl)]
      go_simp
      refine hK _ _ ?_
      clear hK K
      try go_frame
      refine wpList_load_w (by rfl) 95 (.tmp 4) rfl bY 0 rfl [.int .u8 5, .int .i64 0, .int .i64 1, .int .i64 2, .int .i64 4, .int .i64 0, .int .i64 0, .int .i64 0, .bool false, .slice none 0 0, .int .i64 i, .int .i64 t, .slice s5.A0 s5.n0 s5.c0, .slice s5.A1 s5.n1 s5.c1, .slice s5.A2 s5.n2 s5.c2, .slice s5.A3 s5.n3 s5.c3, .int .i64 (L : Int), .int .i64 (a6 : Int), .int .i64 0, .slice B5 ps6.length d5] d80 (HXR6.out w6 HOK6.out) HD.out.1 HD.out.2 info80 ?_
      try go_frame
      refine wpList_step (fun K hK => ?_)
      rw [if_pos (by rfl)]
      go_simp
      (with_reducible refine (take_in w4 w6 w6 p HP.out 4 i t s5 cf L was a6 ps6.length d5 B5 bs ps6 HL.out HPS6.out rfl (by have := HLK.out; omega) (by have := HWS.out; have := HA6.out; omega) (by have := HWS.out; have := HLK.out; omega) (.inl rfl) HOK6.out HFS6.out (Ok.refl _) HXC6.out l0 l1 l2 l3).mono ?_)
      rintro _ wq ⟨now, wh, i', t', s9, A2, m2, c2, nw, rfl, h0, hf, hh⟩
      have HQ0 := Lib.hid h0
      have HQF := Lib.hid hf
      have HQH := Lib.hid hh
      clear h0 hf hh
      refine hK _ _ ?_
      clear hK K
      try go_frame
      refine wpList_step (fun K hK => ?_)
      rw [if_pos (by rfl)]
      go_simp
      refine hK _ _ ?_
      clear hK K
      try go_frame
      refine wpList_step (fun K hK => ?_)
      rw [if_pos (by rfl)]
      go_simp
      refine hK _ _ ?_
      clear hK K
      try go_frame
      refine wpList_step (fun K hK => ?_)
      rw [if_pos (by rfl)]
      go_simp
      refine hK _ _ ?_
      clear hK K
      try go_frame
      refine wpList_step (fun K hK => ?_)
      rw [if_pos (by rfl)]
      go_simp
      refine hK _ _ ?_
      clear hK K
      try go_frame
      have HTH : Hid ((wq.alloc (.cells #[.int .i64 0, .int .i64 0, .slice none 0 0, .slice none 0 0, .slice none 0 0, .slice none 0 0, .slice none 0 0] 97)).there wq.heap.size 0 7) := Lib.hid (there_new wq #[.int .i64 0, .int .i64 0, .slice none 0 0, .slice none 0 0, .slice none 0 0, .slice none 0 0, .slice none 0 0] 97)
      obtain ⟨bz, hbz⟩ : ∃ bz, wq.heap.size = bz := ⟨_, rfl⟩
      have HFIN := Lib.hid (taken_new2 w4 w6 w6 wq p i t L bs cf 4 was a6 bY bz hbz [.int .u8 5, .int .i64 0, .int .i64 1, .int .i64 2, .int .i64 4, .int .i64 0, .int .i64 0, .int .i64 0, .bool false, .slice none 0 0, .int .i64 i, .int .i64 t, .slice s5.A0 s5.n0 s5.c0, .slice s5.A1 s5.n1 s5.c1, .slice s5.A2 s5.n2 s5.c2, .slice s5.A3 s5.n3 s5.c3, .int .i64 (L : Int), .int .i64 (a6 : Int), .int .i64 0, .slice B5 ps6.length d5] now wh i' t' s9 A2 m2 c2 nw (by have := HL.out; have := HLK.out; omega) l0 l1 l2 l3 HXR6.out HQ0.out HQF.out HQH.out)
      refine wpList_step (fun K hK => ?_)
      rw [if_pos (by rfl)]
      go_simp
      refine hK _ _ ?_
      clear hK K
      try go_frame
      rw [hbz] at HTH
      clear hbz HQ0 HQF HQH
      generalize wq.alloc (.cells #[.int .i64 0, .int .i64 0, .slice none 0 0, .slice none 0 0, .slice none 0 0, .slice none 0 0, .slice none 0 0] 97) = wz at *
      refine wpList_step (fun K hK => ?_)
      rw [if_pos (by rfl)]
      go_simp
      refine hK _ _ ?_
      clear hK K
      try go_frame
      refine wpList_step (fun K hK => ?_)
      rw [if_pos (by rfl)]
      go_simp
      refine hK _ _ ?_
      clear hK K
      try go_frame
      refine wpList_store_mid rfl 97 (.tmp 12) (.tmp 42) rfl bz 0 #[.int .i64 i', .int .i64 t', .slice s9.A0 s9.n0 s9.c0, .slice s9.A1 s9.n1 s9.c1, .slice s9.A2 s9.n2 s9.c2, .slice s9.A3 s9.n3 s9.c3, .slice A2 m2 c2] rfl rfl HTH.out info75 (by simp [Value.oneCell']) ?_
      have HT : Hid (TakR w4 p i t L bs cf 4 was a6 bY [.int .u8 5, .int .i64 0, .int .i64 1, .int .i64 2, .int .i64 4, .int .i64 0, .int .i64 0, .int .i64 0, .bool false, .slice none 0 0, .int .i64 i, .int .i64 t, .slice s5.A0 s5.n0 s5.c0, .slice s5.A1 s5.n1 s5.c1, .slice s5.A2 s5.n2 s5.c2, .slice s5.A3 s5.n3 s5.c3, .int .i64 (L : Int), .int .i64 (a6 : Int), .int .i64 0, .slice B5 ps6.length d5] (.int .i64 (now : Int)) (.bool wh) (.pointer (some ⟨bz, 0, none⟩)) (wz.setCells bz 0 [.int .i64 i', .int .i64 t', .slice s9.A0 s9.n0 s9.c0, .slice s9.A1 s9.n1 s9.c1, .slice s9.A2 s9.n2 s9.c2, .slice s9.A3 s9.n3 s9.c3, .slice A2 m2 c2])) := HFIN
      clear HFIN HTH
      generalize wz.setCells bz 0 [.int .i64 i', .int .i64 t', .slice s9.A0 s9.n0 s9.c0, .slice s9.A1 s9.n1 s9.c1, .slice s9.A2 s9.n2 s9.c2, .slice s9.A3 s9.n3 s9.c3, .slice A2 m2 c2] = w7 at *
      try go_frame
      refine wpList_nil ?_
      refine HK17.out _ _ ?_
      clear HK17
      obtain ⟨now', wh', bz', i'', t'', s3, A3, m3, c3, nw', e1, e2, e3, hok2, hx2, hz2, hf2, hh⟩ := HT.out
      clear HT
      simp only [Value.int.injEq, true_and, Int.natCast_inj, Value.bool.injEq, Value.pointer.injEq, Option.some.injEq, Addr.mk.injEq, and_true] at e1 e2 e3
      subst e1 e2 e3
      obtain ⟨hwt, e2, e3, e4, e5, hcc, hbb⟩ : wh = true ∧ now = L ∧ i'' = i ∧ t'' = t ∧ m3 = L ∧ CfgAt w7 s3 cf ∧ BytesIn w7 (.slice A3 m3 c3) bs := by
        have h1 := HA6.out
        have h2 := HLK.out
        have h5 := HWS.out
        rcases hh with ⟨h, _, _, ⟨_, h3, _, h4, h6⟩ | ⟨h, _⟩⟩ | ⟨q1, q2, q3, q4, q5, _, q6, q7, _, _⟩
        · omega
        · omega
        · exact ⟨q1, q2, q3, q4, q5, q6, q7⟩
      subst hwt
      obtain rfl := e2.symm
      obtain rfl := e3.symm
      obtain rfl := e4.symm
      obtain rfl := e5.symm
      clear hh hx2 hf2
      have HOK7 := Lib.hid hok2
      have HZ2 := Lib.hid hz2
      have HCC := Lib.hid hcc
      have HBB := Lib.hid hbb
      have HOG : Hid (Ok w2 w7) := Lib.hid ((HOX0.out.trans HOX6.out).trans HOK7.out)
      have HRm := Lib.hid (HRR.out _ HOG.out)
      have HMm := Lib.hid (HMM.out _ HOG.out)
      have e600 : ps0.length = 600 := by rw [← HPS0.out, List.length_take, List.length_drop, ← HL.out, HLK.out, HA0.out]; rfl
      have e400 : ps6.length = 400 := by rw [← HPS6.out, List.length_take, List.length_drop, ← HL.out, HLK.out, HA6.out]; rfl
      have hx19 : w7.cell? ⟨bx, 0 + 19, none⟩ = some (.slice B1 600 d1) := by have := HXR0'.out w7 HOK7.out 19 _ rfl; rwa [e600] at this
      have hy19 : w7.cell? ⟨bY, 0 + 19, none⟩ = some (.slice B5 400 d5) := by have := HXR6.out w7 HOK7.out 19 _ rfl; rwa [e400] at this
      clear hok2 hz2 hcc hbb HOK6 HFS6 e600 e400 HXC0' HXR0' HXC6 HXR6
      obtain rfl : now1 = 600 := HN1.out
      obtain rfl : L = 1000 := HLK.out
      go_upto_region 7 with fail
      rename_i K7 hK7
      have HK7 := Lib.hid hK7
      clear hK7
      refine wp_region_lit ?_
      refine wpList_step (fun K hK => ?_)
      rw [if_pos (by rfl)]
      go_simp
      refine hK _ _ ?_
      clear hK K
      try go_frame
      refine wpList_step (fun K hK => ?_)
      rw [if_pos (by rfl)]
      go_simp
      refine hK _ _ ?_
      clear hK K
      try go_frame
      refine wpList_step (fun K hK => ?_)
      rw [if_pos (by rfl)]
      go_simp
      refine hK _ _ ?_
      clear hK K
      try go_frame
      refine wpList_step (fun K hK => ?_)
      rw [if_pos (by rfl)]
      go_simp
      refine hK _ _ ?_
      clear hK K
      try go_frame
      refine wpList_step (fun K hK => ?_)
      rw [if_pos (by rfl)]
      go_simp
      refine hK _ _ ?_
      clear hK K
      try go_frame
      refine wpList_step (fun K hK => ?_)
      rw [if_pos (by rfl)]
      go_simp
      refine hK _ _ ?_
      clear hK K
      try go_frame
      refine wpList_step (fun K hK => ?_)
      rw [if_pos (by rfl)]
      go_simp
      refine hK _ _ ?_
      clear hK K
      try go_frame
      refine wpList_step (fun K hK => ?_)
      rw [if_pos (by rfl)]
      go_simp
      refine hK _ _ ?_
      clear hK K
      try go_frame
      refine wpList_step (fun K hK => ?_)
      rw [if_pos (by rfl)]
      go_simp
      refine hK _ _ ?_
      clear hK K
      try go_frame
      refine wpList_step (fun K hK => ?_)
      rw [if_pos (by rfl)]
      go_simp
      refine hK _ _ ?_
      clear hK K
      try go_frame
      refine wpList_step (fun K hK => ?_)
      rw [if_pos (by rfl)]
      go_simp
      refine hK _ _ ?_
      clear hK K
      try go_frame
      refine wpList_step (fun K hK => ?_)
      rw [if_pos (by rfl)]
      go_simp
      refine hK _ _ ?_
      clear hK K
      try go_frame
      refine wpList_step (fun K hK => ?_)
      rw [if_pos (by rfl)]
      go_simp
      refine hK _ _ ?_
      clear hK K
      try go_frame
      refine wpList_step (fun K hK => ?_)
      rw [if_pos (by rfl)]
      go_simp
      refine hK _ _ ?_
      clear hK K
      try go_frame
      refine wpList_step (fun K hK => ?_)
      rw [if_pos (by rfl)]
      go_simp
      refine hK _ _ ?_
      clear hK K
      try go_frame
      refine wpList_step (fun K hK => ?_)
      rw [if_pos (by rfl)]
      go_simp
      refine hK _ _ ?_
      clear hK K
      try go_frame
      refine wpList_step (fun K hK => ?_)
      rw [if_pos (by rfl)]
      go_simp
      refine hK _ _ ?_
      clear hK K
      try go_frame
      refine wpList_step (fun K hK => ?_)
      rw [if_pos (by rfl)]
      go_simp
      refine hK _ _ ?_
      clear hK K
      try go_frame
      refine wpList_step (fun K hK => ?_)
      rw [if_pos (by rfl)]
      go_simp
      refine hK _ _ ?_
      clear hK K
      try go_frame
      refine wpList_step (fun K hK => ?_)
      rw [if_pos (by rfl)]
      go_simp
      refine hK _ _ ?_
      clear hK K
      try go_frame
      refine wpList_step (fun K hK => ?_)
      rw [if_pos (by rfl)]
      go_simp
      refine hK _ _ ?_
      clear hK K
      try go_frame
      refine wpList_step (fun K hK => ?_)
      rw [if_pos (by rfl)]
      go_simp
      refine hK _ _ ?_
      clear hK K
      try go_frame
      refine wpList_step (fun K hK => ?_)
      rw [if_pos (by rfl)]
      go_simp
      refine hK _ _ ?_
      clear hK K
      try go_frame
      refine wpList_step (fun K hK => ?_)
      rw [if_pos (by rfl)]
      go_simp
      refine hK _ _ ?_
      clear hK K
      try go_frame
      refine wpList_step (fun K hK => ?_)
      rw [if_pos (by rfl)]
      go_simp
      refine hK _ _ ?_
      clear hK K
      try go_frame
      refine wpList_step (fun K hK => ?_)
      rw [if_pos (by rfl)]
      go_simp
      refine hK _ _ ?_
      clear hK K
      try go_frame
      refine wpList_step (fun K hK => ?_)
      rw [if_pos (by rfl)]
      go_simp
      refine hK _ _ ?_
      clear hK K
      try go_frame
      refine wpList_step (fun K hK => ?_)
      rw [if_pos (by rfl)]
      go_simp
      refine hK _ _ ?_
      clear hK K
      try go_frame
      refine wpList_step (fun K hK => ?_)
      rw [if_pos (by rfl)]
      go_simp
      refine hK _ _ ?_
      clear hK K
      try go_frame
      refine wpList_step (fun K hK => ?_)
      rw [if_pos (by rfl)]
      go_simp
      refine hK _ _ ?_
      clear hK K
      try go_frame
      refine wpList_step (fun K hK => ?_)
      rw [if_pos (by rfl)]
      go_simp
      refine hK _ _ ?_
      clear hK K
      try go_frame
      refine wpList_step (fun K hK => ?_)
      rw [if_pos (by rfl)]
      go_simp
      refine hK _ _ ?_
      clear hK K
      try go_frame
      refine wpList_load_w (by rfl) 97 (.tmp 1) rfl g 0 rfl [.int .i64 i, .int .i64 t, .slice s.A0 s.n0 s.c0, .slice s.A1 s.n1 s.c1, .slice s.A2 s.n2 s.c2, .slice s.A3 s.n3 s.c3, .slice A 1000 c] d75 HRm.out HD75.out.1 HD75.out.2 info75 ?_
      try go_frame
      refine wpList_load_w (by rfl) 97 (.tmp 12) rfl bz 0 rfl [.int .i64 i, .int .i64 t, .slice s3.A0 s3.n0 s3.c0, .slice s3.A1 s3.n1 s3.c1, .slice s3.A2 s3.n2 s3.c2, .slice s3.A3 s3.n3 s3.c3, .slice A3 1000 c3] d75 HZ2.out HD75.out.1 HD75.out.2 info75 ?_
      try go_frame
      refine wpList_step (fun K hK => ?_)
      rw [if_pos (by rfl)]
      go_simp
      (with_reducible refine (sameImage_f i t s s3 cf A A3 1000 1000 c c3 bs w7 HMm.out.1 HCC.out HMm.out.2 HBB.out).mono ?_)
      rintro _ w8 ⟨rfl, ok8⟩
      refine hK _ _ ?_
      clear hK K
      try go_frame
      refine wpList_step (fun K hK => ?_)
      rw [if_pos (by rfl)]
      go_simp
      refine hK _ _ ?_
      clear hK K
      try go_frame
      refine wpList_step (fun K hK => ?_)
      rw [if_pos (by rfl)]
      go_simp
      refine hK _ _ ?_
      clear hK K
      try go_frame
      refine wpList_nil ?_
      refine HK7.out _ _ ?_
      clear HK7
      go_wp2_with fail
      go_ret
      exact ⟨rfl, HOW.out.trans (HOG.out.trans ok8)⟩
end Go.Proofs.Ytolfdncmlfnbdaa
