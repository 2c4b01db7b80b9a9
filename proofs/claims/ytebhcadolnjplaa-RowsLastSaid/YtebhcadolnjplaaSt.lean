/- The law RowsLast. -/
import Derived.Test.YtebhcadolnjplaaSr
namespace Go.Proofs.Ytebhcadolnjplaa
open Go.RowKit

theorem put_again {p : Nat} {l1 xs : List Rw} {W : World} {e : Ending} {w' : World} (hr : allR xs = true) (hl : LaidAll [] xs l1) (hn : l1.length ≤ 400) (h : PutP p l1 xs W e w') : e = .returned (.int .i64 0) ∧ (∃ A' c', TabAt p A' l1.length c' l1 w' ∧ ∀ a, A' = some a → W.heap.size ≤ a.block) ∧ W.grownBy w' (some p) := by
  rcases h with ⟨e, _⟩ | ⟨_, l', hl', ⟨hbig, _⟩ | ⟨_, e, ⟨A', c', ht, ha⟩, hg⟩⟩
  · rw [hr] at e; cases e
  · rw [laid_again hl hl'] at hbig; omega
  · rw [laid_again hl hl'] at ht
    exact ⟨e, ⟨A', c', ht, ha⟩, hg⟩
theorem TabAt.grown {p : Nat} {A : Option Addr} {n c : Nat} {l : List Rw} {w w' : World} {b : Nat} (h : TabAt p A n c l w) (k : w.grownBy w' (some b)) (hp : p ≠ b) (hA : ∀ a, A = some a → a.block ≠ b) : TabAt p A n c l w' := by
  have hpb : some p ≠ some b := fun e => hp (by simpa using e)
  refine ⟨k.cell h.c0 hpb, k.cell h.c1 hpb, fun j => ?_, ⟨h.own.1, h.own.2.1, ?_⟩, h.ne⟩
  · rw [World.frozen?_of_block (w := w) (k.block p h.lt hpb)]; exact h.f j
  · rcases h.own.2.2 with q | ⟨g, cap, cur, e1, e2, e3, e4⟩
    · exact .inl q
    · have hgb : g ≠ b := by
        simp only [Value.slice.injEq] at e1
        exact hA _ e1.1
      exact .inr ⟨g, cap, cur, e1, e2, by rw [k.block g (Array.getElem?_eq_some_iff.1 e3).1 (fun e => hgb (by simpa using e))]; exact e3, e4⟩
set_option maxRecDepth 100000 in
set_option maxHeartbeats 8000000 in
theorem last_law (A : Option Addr) (n c : Nat) (l : List Rw) (W : World) (hn : l.length = n) (hn6 : n ≤ 17592186044416) (hA : RowsIn W A l) (hs : RowsSz l) : Calls Try.prog 9 #[.slice A n c] W (Ret W (.bool true)) := by
  have haw := awake_r W
  have HA := Lib.hid hA
  have HL := Lib.hid hn
  have HS := Lib.hid hs
  have HN6 := Lib.hid hn6
  clear hn hA hs hn6
  go_enter Try.func9, Try.ntmps9
  go_wp2_with fail
  refine haw.mono ?_
  clear haw
  rintro _ w1 ⟨rfl, o1⟩
  have HO1 := Lib.hid o1
  clear o1
  have hli := lines_f A n c l HL.out HN6.out w1 (HA.out.ok HO1.out) HS.out
  go_wp2_with fail
  refine hli.mono ?_
  clear hli
  rintro _ w2 ⟨v, rfl, o2, hv⟩
  have HO2 : Hid (Ok W w2) := Lib.hid (HO1.out.trans o2)
  clear o2 HO1
  rcases Decidable.em (1200 < v) with hbig | hbig
  · have d1 : decide (v > 1200) = true := decide_eq_true (by omega)
    go_wp2_with fail
    go_ret
    exact ⟨rfl, HO2.out⟩
  have d1 : decide (v > 1200) = false := decide_eq_false (by omega)
  have HN : Hid (n ≤ 1200) := Lib.hid (hv (by omega))
  clear hv hbig
  have hnew := new44 w2
  go_wp2_with fail
  refine hnew.mono ?_
  clear hnew d1
  rintro _ w3 ⟨p, rfl, hp, hT, o3⟩
  have HT := Lib.hid hT
  have HP : Hid (W.heap.size ≤ p) := Lib.hid (Nat.le_trans HO2.out.size hp)
  have HO3 : Hid (Ok W w3) := Lib.hid (HO2.out.trans o3)
  clear hT hp o3 HO2
  have hput := put_fR p none 0 0 [] A n c l w3 HT.out (by decide) rises_nil HL.out (Nat.le_trans HN.out (by decide)) (HA.out.ok HO3.out)
  go_wp2_with fail
  refine hput.mono ?_
  clear hput
  rintro _ w4 hpp
  rcases hpp with ⟨hall, rfl, o4⟩ | ⟨hall, l1, hla, ⟨hbig, rfl, o4⟩ | ⟨hle, rfl, ⟨A1, c1, hT1, hA1⟩, hg⟩⟩
  · have hmy := many50 p none 0 0 [] w4 (HT.out.ok o4)
    have HO4 : Hid (Ok W w4) := Lib.hid (HO3.out.trans o4)
    clear o4
    go_wp2_with fail
    refine hmy.mono ?_
    clear hmy
    rintro _ w5 ⟨rfl, o5⟩
    have HO5 := Lib.hid (HO4.out.trans o5)
    clear o5
    go_wp2_with fail
    go_ret
    exact ⟨rfl, HO5.out⟩
  · have hmy := many50 p none 0 0 [] w4 (HT.out.ok o4)
    have HO4 : Hid (Ok W w4) := Lib.hid (HO3.out.trans o4)
    clear o4
    go_wp2_with fail
    refine hmy.mono ?_
    clear hmy
    rintro _ w5 ⟨rfl, o5⟩
    have HO5 := Lib.hid (HO4.out.trans o5)
    clear o5
    go_wp2_with fail
    go_ret
    exact ⟨rfl, HO5.out⟩
  · have HALL := Lib.hid hall
    have HLA := Lib.hid hla
    have HA1W : Hid (∀ a, A1 = some a → a.block < w4.heap.size) := Lib.hid (fun a e => (hT1.own.2.lt a.block (by rw [e]; rfl)).2)
    have hmm := @run_makeMap Try.prog
    have HLE := Lib.hid hle
    have HT1 := Lib.hid hT1
    have HO4 : Hid (Ok W w4) := Lib.hid (Below.grown HO3.out hg HO3.out.size (fun j e => by cases e; exact HP.out))
    have HR1 : Hid (Rises l1) := Lib.hid (HLA.out.spec rises_nil).1
    clear hall hla hle hT1 hA1 hg HT HO3
    obtain ⟨n1, hn1⟩ : ∃ n1, l1.length = n1 := ⟨_, rfl⟩
    rw [hn1] at HT1 HLE
    have HL1 := Lib.hid hn1
    clear hn1
    obtain ⟨b, hb⟩ : ∃ b, w4.heap.size = b := ⟨_, rfl⟩
    have HM0 : Hid (MapAt (w4.alloc (.map #[] 0)) b []) := Lib.hid (by rw [← hb]; exact MapAt.new w4)
    have HOM : Hid (Ok w4 (w4.alloc (.map #[] 0))) := Lib.hid ((Ok.refl w4).alloc _)
    have HA1 : Hid (∀ a, A1 = some a → a.block < b) := Lib.hid (by rw [← hb]; exact HA1W.out)
    have HBW : Hid (W.heap.size ≤ b ∧ p < b) := Lib.hid (by rw [← hb]; exact ⟨HO4.out.size, HT1.out.lt⟩)
    go_wp2_with fail
    clear hb hmm
    generalize w4.alloc (.map #[] 0) = w5 at *
    go_loopw [6] (fun v wr => ∃ (k : Nat) (L : List Rw), k ≤ n ∧ v = .int .i64 k ∧ MapAt wr b L ∧ (∀ x, x ∈ L ↔ LastIn (l.take k) x) ∧ TabAt p A1 n1 c1 l1 wr ∧ Ok W wr) (fun v _ => n - (intOf v).toNat)
    case atStart => exact ⟨0, [], Nat.zero_le _, rfl, HM0.out, fun x => ⟨fun h => (by cases h), fun ⟨a, b', e, _⟩ => by simp at e⟩, HT1.out.ok HOM.out, HO4.out.trans HOM.out⟩
    case round =>
      obtain ⟨k, L, hk, rfl, hmp, hml, htb, okr⟩ := hrel
      have HMP := Lib.hid hmp
      have HML := Lib.hid hml
      have HTB := Lib.hid htb
      have HOK := Lib.hid okr
      clear hmp hml htb okr HM0 HOM HT1 HO4
      by_cases hlt : k < n
      · have d1 : decide ((k : Int) < (n : Int)) = true := decide_eq_true (by omega)
        obtain ⟨b0, off, rfl, x0, x1⟩ := HA.out.ok HOK.out k (by rw [HL.out]; exact hlt)
        have HTK := Lib.hid (take_one l k (by rw [HL.out]; exact hlt))
        have HRW : Hid (rwA l k = ⟨(rwA l k).key, (rwA l k).val⟩) := Lib.hid rfl
        generalize (rwA l k).key = km at *
        generalize (rwA l k).val = vm at *
        have hi0 : (0 : Int) ≤ (k : Int) := Int.natCast_nonneg _
        have hi1 : (k : Int) < (n : Int) := by omega
        go_upto_region 13 with fail
        rename_i K0 Q0 hK0
        have HK0 := Lib.hid hK0
        clear hK0
        refine Until.begin (S := fun V => V.cell? ⟨b0, off + k * 2, none⟩ = some (.string km) ∧ V.cell? ⟨b0, off + k * 2 + 1, none⟩ = some (.string vm)) (j := 11) (by kernel_rfl) ?_ ?_
        · exact ⟨(Ok.refl wr).drew.cell x0, (Ok.refl wr).drew.cell x1⟩
        intro hS
        have HD : Hid (Ok wr wr.drew) := Lib.hid ((Ok.refl wr).drew)
        generalize wr.drew = V0 at *
        clear x0 x1
        refine Until.take0 (i := 0) (v := ?v0) rfl (by kernel_rfl) (by kernel_rfl) (by kernel_rfl) (by kernel_rfl) (fun _ _ _ h => h) (Or.inl ⟨by rfl, ?hy0⟩) (fun _ => hS) ?rest0
        case hy0 => ((intro w hSw); clear hSw; go_simp; (try with_reducible rfl))
        try go_frame
        refine Until.take0 (i := 1) (v := ?v1) rfl (by kernel_rfl) (by kernel_rfl) (by kernel_rfl) (by kernel_rfl) (fun _ _ _ h => h) (Or.inl ⟨by rfl, ?hy1⟩) (fun _ => hS) ?rest1
        case hy1 => ((intro w hSw); clear hSw; go_simp; (try with_reducible rfl))
        try go_frame
        refine Until.take0 (i := 2) (v := ?v2) rfl (by kernel_rfl) (by kernel_rfl) (by kernel_rfl) (by kernel_rfl) (fun _ _ _ h => h) (Or.inl ⟨by rfl, ?hy2⟩) (fun _ => hS) ?rest2
        case hy2 => ((intro w hSw); clear hSw; go_simp; (try with_reducible rfl))
        try go_frame
        refine Until.take0 (i := 3) (v := ?v3) rfl (by kernel_rfl) (by kernel_rfl) (by kernel_rfl) (by kernel_rfl) (fun _ _ _ h => h) (Or.inl ⟨by rfl, ?hy3⟩) (fun _ => hS) ?rest3
        case hy3 => ((intro w hSw); clear hSw; go_simp; (try with_reducible rfl))
        try go_frame
        refine Until.take0 (i := 4) (v := ?v4) rfl (by kernel_rfl) (by kernel_rfl) (by kernel_rfl) (by kernel_rfl) (fun _ _ _ h => h) (Or.inl ⟨by rfl, ?hy4⟩) (fun _ => hS) ?rest4
        case hy4 => ((intro w hSw); clear hSw; go_simp; (try with_reducible rfl))
        try go_frame
        refine Until.take (i := 5) (v := ?v5) rfl (by kernel_rfl) (by kernel_rfl) (by kernel_rfl) (by kernel_rfl) (fun _ _ _ h => h) (Or.inl ⟨by rfl, ?hy5⟩) hS ?rest5
        case hy5 => ((intro w hSw; (try dsimp only at hSw)); obtain ⟨s0, s1⟩ := hSw; go_simp; (try with_reducible rfl))
        try go_frame
        refine Until.take0 (i := 6) (v := ?v6) rfl (by kernel_rfl) (by kernel_rfl) (by kernel_rfl) (by kernel_rfl) (fun _ _ _ h => h) (Or.inl ⟨by rfl, ?hy6⟩) (fun _ => hS) ?rest6
        case hy6 => ((intro w hSw); clear hSw; go_simp; (try with_reducible rfl))
        try go_frame
        refine Until.take0 (i := 7) (v := ?v7) rfl (by kernel_rfl) (by kernel_rfl) (by kernel_rfl) (by kernel_rfl) (fun _ _ _ h => h) (Or.inl ⟨by rfl, ?hy7⟩) (fun _ => hS) ?rest7
        case hy7 => ((intro w hSw); clear hSw; go_simp; (try with_reducible rfl))
        try go_frame
        refine Until.take0 (i := 8) (v := ?v8) rfl (by kernel_rfl) (by kernel_rfl) (by kernel_rfl) (by kernel_rfl) (fun _ _ _ h => h) (Or.inl ⟨by rfl, ?hy8⟩) (fun _ => hS) ?rest8
        case hy8 => ((intro w hSw); clear hSw; go_simp; (try with_reducible rfl))
        try go_frame
        refine Until.take0 (i := 9) (v := ?v9) rfl (by kernel_rfl) (by kernel_rfl) (by kernel_rfl) (by kernel_rfl) (fun _ _ _ h => h) (Or.inl ⟨by rfl, ?hy9⟩) (fun _ => hS) ?rest9
        case hy9 => ((intro w hSw); clear hSw; go_simp; (try with_reducible rfl))
        try go_frame
        refine Until.take (i := 10) (v := ?v10) rfl (by kernel_rfl) (by kernel_rfl) (by kernel_rfl) (by kernel_rfl) (fun _ _ _ h => h) (Or.inl ⟨by rfl, ?hy10⟩) hS ?rest10
        case hy10 => ((intro w hSw; (try dsimp only at hSw)); obtain ⟨s0, s1⟩ := hSw; go_simp; (try with_reducible rfl))
        try go_frame
        obtain ⟨V1, L1, hrun, hm1, hwr, hgr⟩ := run_put V0 b L (HMP.out.ok HD.out) km vm
        have HM1 := Lib.hid hm1
        have HWR := Lib.hid hwr
        have HGR := Lib.hid hgr
        clear hm1 hwr hgr hS
        refine Until.one (i := 11) (by kernel_rfl) rfl (fun K hK => ?_)
        have HK := Lib.hid hK
        clear hK
        go_simp
        refine HK.out.out _ _ (fun h => absurd (h.symm.trans (by kernel_rfl : _ = true)) Bool.false_ne_true) (fun _ => ?_)
        clear HK K
        try go_frame
        clear hrun
        refine Until.done (by kernel_rfl) ?_ _
        refine HK0.out _ _ ?_
        clear HK0
        have e1 : IntKind.i64.wrap ((k : Int) + 1) = (k : Int) + 1 := IntWalk.i64_in _ (by have := HN.out; omega)
        have HLT : Hid (n - ((k : Int) + 1).toNat < n - (k : Int).toNat) := Lib.hid (by omega)
        go_wp2_with fail
        refine ⟨⟨k + 1, L1, hlt, rfl, HM1.out, fun x => ?_, ?_, ?_⟩, HLT.out⟩
        · rw [HTK.out, HRW.out, lastIn_snoc, HWR.out.2, HML.out]
        · exact (HTB.out.ok HD.out).grown HGR.out (by have := HBW.out; omega) (fun a e => by have := HA1.out a e; have := HBW.out; omega)
        · exact Below.grown (HOK.out.trans HD.out) HGR.out (HOK.out.trans HD.out).size (fun j e => by cases e; exact HBW.out.1)
      · have d1 : decide ((k : Int) < (n : Int)) = false := decide_eq_false (by omega)
        obtain rfl : k = n := by omega
        have HLK : Hid (∀ x, x ∈ L ↔ x ∈ l1) := Lib.hid (fun x => by
          rw [HML.out, HLA.out.mem rises_nil x, List.take_of_length_le (by rw [HL.out]; exact Nat.le_refl _)]
          constructor
          · exact .inl
          · rintro (q | ⟨q, _⟩)
            · exact q
            · cases q)
        have HMA := Lib.hid (meant_all l1 l HLA.out HALL.out)
        clear HML
        have hal := all_w wr
        go_wp2_with fail
        refine hal.mono ?_
        clear hal d1
        rintro _ w6 ⟨rfl, o6⟩
        have HO6 := Lib.hid o6
        clear o6
        have hin := inR_f p A1 n1 c1 l1 allS w6 (HTB.out.ok HO6.out) (Nat.le_trans HLE.out (by decide))
        rw [HMA.out] at hin
        go_wp2_with fail
        refine hin.mono ?_
        clear hin
        rintro _ w7 ⟨A2, n2, c2, rfl, hown, o7⟩
        obtain rfl : n1 = n2 := HL1.out.symm.trans hown.1
        have HG := Lib.hid hown
        have HM7 := Lib.hid (HMP.out.ok (HO6.out.trans o7))
        have HT7 := Lib.hid (HTB.out.ok (HO6.out.trans o7))
        have HO7 := Lib.hid (HOK.out.trans (HO6.out.trans o7))
        have HP6 : Hid (p < w6.heap.size) := Lib.hid (HTB.out.ok HO6.out).lt
        clear hown o7 HO6 HMP HTB HOK
        go_wp2_with fail
        go_loopw [8] (fun v wr => ∃ (k : Nat), k ≤ n1 ∧ v = .int .i64 k ∧ Ok w7 wr) (fun v _ => n1 - (intOf v).toNat)
        case atStart => exact ⟨0, Nat.zero_le _, rfl, Ok.refl _⟩
        case round =>
          obtain ⟨m, hm, rfl, okr⟩ := hrel
          have HOR := Lib.hid okr
          clear okr
          by_cases hlt : m < n1
          · have d1 : decide ((m : Int) < (n1 : Int)) = true := decide_eq_true (by omega)
            obtain ⟨g, rfl⟩ : ∃ g, A2 = some ⟨g, 0, none⟩ := by
              rcases HG.out.nc with ⟨_, q, _⟩ | q
              · omega
              · exact q
            obtain ⟨y0, y1⟩ := (HG.out.ok HOR.out).cell2 m hlt
            have hget : ∀ j, (Instr.lookup 108 (.map (some b)) (.string (rwA l1 m).key) false).run Try.prog (wr.drewN j) = .ok (.string (rwA l1 m).val) (wr.drewN j) := fun j =>
              run_get _ b L (HM7.out.ok (HOR.out.drewN j)) (rwA l1 m) ((HLK.out _).2 (rwA_mem l1 m (by rw [HL1.out]; exact hlt)))
            have hget0 : (Instr.lookup 108 (.map (some b)) (.string (rwA l1 m).key) false).run Try.prog wr = .ok (.string (rwA l1 m).val) wr := 
              run_get _ b L (HM7.out.ok HOR.out) (rwA l1 m) ((HLK.out _).2 (rwA_mem l1 m (by rw [HL1.out]; exact hlt)))
            have hget1 : (Instr.lookup 108 (.map (some b)) (.string (rwA l1 m).key) false).run Try.prog wr.drew = .ok (.string (rwA l1 m).val) wr.drew := hget 1
            have e1 : IntKind.i64.wrap ((m : Int) + 1) = (m : Int) + 1 := IntWalk.i64_in _ (by have := HLE.out; omega)
            have HLT : Hid (n1 - ((m : Int) + 1).toNat < n1 - (m : Int).toNat) := Lib.hid (by omega)
            have hi0 : (0 : Int) ≤ (m : Int) := Int.natCast_nonneg _
            have hi1 : (m : Int) < (n1 : Int) := by omega
            cases m with
            | zero =>
              generalize (rwA l1 0).key = km at *
              generalize (rwA l1 0).val = vm at *
              go_wp2_with fail
              go_quiet (fail)
              go_wp2_with fail
              exact ⟨⟨1, hlt, rfl, HOR.out.drewN _⟩, HLT.out⟩
            | succ m =>
              obtain ⟨z0, z1⟩ := (HG.out.ok HOR.out).cell2 m (by omega)
              have hlb : Op.bytesLess (rwA l1 m).key.toList (rwA l1 (m + 1)).key.toList = true := HR1.out m (m + 1) (by omega) (by rw [HL1.out]; exact hlt)
              have d2 : decide (((m + 1 : Nat) : Int) > 0) = true := decide_eq_true (by omega)
              have e2 : IntKind.i64.wrap (((m + 1 : Nat) : Int) - 1) = (m : Int) := by rw [show (((m + 1 : Nat) : Int) - 1) = (m : Int) from by omega]; exact IntWalk.i64_in _ (by have := HLE.out; omega)
              have e3 : IntKind.i64.wrap ((m : Int) + 1 - 1) = (m : Int) := by rw [show ((m : Int) + 1 - 1) = (m : Int) from by omega]; exact IntWalk.i64_in _ (by have := HLE.out; omega)
              have e4 : IntKind.i64.wrap (m : Int) = (m : Int) := IntWalk.i64_in _ (by have := HLE.out; omega)
              have e5 : IntKind.i64.wrap ((m : Int) + 1 + 1) = (m : Int) + 1 + 1 := IntWalk.i64_in _ (by have := HLE.out; omega)
              have d3 : decide ((m : Int) + 1 > 0) = true := decide_eq_true (by omega)
              have d4 : (0 : Int) < (m : Int) + 1 := by omega
              have i0 : (0 : Int) ≤ (m : Int) := Int.natCast_nonneg _
              have i1 : (m : Int) < (n1 : Int) := by omega
              have i2 : (0 : Int) ≤ (m : Int) + 1 := by omega
              have i3 : (m : Int) + 1 < (n1 : Int) := by omega
              generalize (rwA l1 (m + 1)).key = km at *
              generalize (rwA l1 (m + 1)).val = vm at *
              generalize (rwA l1 m).key = km0 at *
              go_wp2_with fail
              go_quiet (fail)
              go_wp2_with fail
              refine ⟨⟨m + 1 + 1, hlt, by push_cast; rfl, HOR.out.drewN _⟩, ?_⟩
              have := HLT.out
              push_cast at this
              exact this
          · have d1 : decide ((m : Int) < (n1 : Int)) = false := decide_eq_false (by omega)
            obtain rfl : m = n1 := by omega
            have hlen := run_many wr b L (HM7.out.ok HOR.out)
            rw [show (L.length : Int) = (m : Int) from by rw [same_many HM7.out.1 HR1.out.once HLK.out, HL1.out]] at hlen
            have hput := put_fR p A1 m c1 l1 A k c l wr (HT7.out.ok HOR.out) (Nat.le_trans HLE.out (by decide)) HR1.out HL.out (Nat.le_trans HN.out (by decide)) (HA.out.ok (HO7.out.trans HOR.out))
            go_wp2_with fail
            refine hput.mono ?_
            clear hput hlen d1
            rintro _ w8 hpp
            obtain ⟨rfl, ⟨A3, c3, hT8, _⟩, hg8⟩ := put_again HALL.out HLA.out (by rw [HL1.out]; exact HLE.out) hpp
            rw [HL1.out] at hT8
            have HT8 := Lib.hid hT8
            have HO8 : Hid (Ok W w8) := Lib.hid (Below.grown (HO7.out.trans HOR.out) hg8 (HO7.out.trans HOR.out).size (fun j e => by cases e; exact HP.out))
            have HG8 : Hid (RowsIn w8 A2 l1) := Lib.hid (OwnR.rows ((HG.out.ok HOR.out).k2 (p := p) (r := none) ⟨hg8.os, hg8.tape, hg8.output, hg8.size, fun j hj h1 _ => hg8.block j hj (fun e => h1 (by simpa using e))⟩ (fun a e => by
              have h1 := (HG.out.2.lt a.block (by rw [e]; rfl)).1
              have h2 := HP6.out
              exact ⟨by omega, by simp⟩)))
            clear hT8 hg8 hpp HG HM7 HT7 HO7 HOR
            have hal := all_w w8
            go_wp2_with fail
            refine hal.mono ?_
            clear hal
            rintro _ w9 ⟨rfl, o9⟩
            have HO9 := Lib.hid o9
            clear o9
            have hin := inR_f p A3 m c3 l1 allS w9 (HT8.out.ok HO9.out) (Nat.le_trans HLE.out (by decide))
            rw [HMA.out] at hin
            go_wp2_with fail
            refine hin.mono ?_
            clear hin
            rintro _ w10 ⟨A4, n4, c4, rfl, hown4, o10⟩
            obtain rfl : m = n4 := HL1.out.symm.trans hown4.1
            have HR4 := Lib.hid hown4.rows
            have HO10 : Hid (Ok w8 w10) := Lib.hid (HO9.out.trans o10)
            clear hown4 o10 HO9
            have hsa := same_f A4 A2 m c4 c2 l1 HL1.out (Nat.le_trans HLE.out (by decide)) w10 HR4.out (HG8.out.ok HO10.out)
            go_wp2_with fail
            refine hsa.mono ?_
            clear hsa
            rintro _ w11 ⟨rfl, o11⟩
            have HO11 : Hid (Ok W w11) := Lib.hid (HO8.out.trans (HO10.out.trans o11))
            clear o11
            go_wp2_with fail
            go_ret
            exact ⟨rfl, HO11.out⟩
end Go.Proofs.Ytebhcadolnjplaa
