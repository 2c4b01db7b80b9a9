/- The frame that bytes begin with, by definition. -/
import Derived.Test.YtpebnlddmjfomaaDoorGl
namespace Go.Proofs.YtpebnlddmjfomaaDoor
open Go.RowKit
theorem res_new45 (w : World) (x y : Value) : Res w.heap.size (w.alloc (.cells #[x, y] 45)) x y := by
  have h := heap_alloc_new w (.cells #[x, y] 45)
  exact ⟨cell_of_heap h 0, cell_of_heap h 1, World.frozen?_alloc_at _ _ _ _ rfl, World.frozen?_alloc_at _ _ _ _ rfl⟩
theorem Ok.set2 {w v : World} (h : Ok w v) {z : Nat} (hz : w.heap.size ≤ z) {x y : Value} : Ok w ((v.setCell ⟨z, 0, none⟩ x).setCell ⟨z, 1, none⟩ y) := Below.setCell (Below.setCell h hz x) hz y
theorem mid23 (A : Option Addr) (n c m : Nat) (hq : 9 + m ≤ c) (wx : World) : (Instr.slice 23 (.slice A n c) (some (.int .i64 9)) (some (.int .i64 (9 + (m : Int)))) none).run Tryd.prog wx = .ok (.slice (if c = 9 then A else A.map (·.add 9)) (9 + m - 9) (c - 9)) wx := by
  rw [run_slice_lh wx 23 A n c un23 .i64 .i64 9 (9 + (m : Int)) (by decide) (by omega) (by omega), el23, Tryd.sizeOf5]
  have e : ((9 : Int) + (m : Int)).toNat = 9 + m := by omega
  simp [Result.andThen, sliced, e]
theorem bytes_mid {w : World} {A : Option Addr} {n c m : Nat} {xs : List B8} (h : BytesIn w (.slice A n c) xs) (hN : m + 9 ≤ xs.length) : BytesIn w (.slice (if c = 9 then A else A.map (·.add 9)) (9 + m - 9) (c - 9)) ((xs.drop 9).take m) := by
  have h1 := bytes_drop (N := 9) (bytes_take (N := 9 + m) h (by omega)) (by rw [List.length_take]; omega)
  have e : (xs.take (9 + m)).drop 9 = (xs.drop 9).take m := by rw [List.drop_take]; congr 1; omega
  rw [e] at h1
  exact h1
theorem ub_range (b : B8) : 0 ≤ ub b ∧ ub b < 256 := ⟨ub_lo b, ub_hi b⟩
theorem wrap4_v (a b c d : B8) : IntKind.i64.wrap (IntKind.i64.wrap (IntKind.i64.wrap (IntKind.i64.wrap (ub a) + IntKind.i64.wrap (IntKind.i64.wrap (ub b) * 256)) + IntKind.i64.wrap (IntKind.i64.wrap (ub c) * 65536)) + IntKind.i64.wrap (IntKind.i64.wrap (ub d) * 16777216)) = ((un4 a b c d : Nat) : Int) := by
  have ha := ub_range a
  have hb := ub_range b
  have hc := ub_range c
  have hd := ub_range d
  have e : ((un4 a b c d : Nat) : Int) = ub a + ub b * 256 + ub c * 65536 + ub d * 16777216 := by unfold un4 ub; omega
  rw [e]
  generalize ub a = x at *
  generalize ub b = y at *
  generalize ub c = z at *
  generalize ub d = t at *
  rw [IntWalk.i64_in x (by omega), IntWalk.i64_in y (by omega), IntWalk.i64_in z (by omega), IntWalk.i64_in t (by omega), IntWalk.i64_in (y * 256) (by omega), IntWalk.i64_in (z * 65536) (by omega), IntWalk.i64_in (t * 16777216) (by omega), IntWalk.i64_in (x + y * 256) (by omega), IntWalk.i64_in (x + y * 256 + z * 65536) (by omega), IntWalk.i64_in _ (by omega)]
theorem fr_eta {f : Fr} {x : B8} (h : f.kind = ub x) : (⟨(x.toNat : Int), f.data⟩ : Fr) = f := by
  obtain ⟨k, d⟩ := f
  simp only at h
  rw [h]; rfl
theorem mid_cut (A : Option Addr) (n c m : Nat) (xs : List B8) (hq : 9 + m ≤ c) (hN : m + 9 ≤ xs.length) : ∃ A9 c9, (∀ wx, (Instr.slice 23 (.slice A n c) (some (.int .i64 9)) (some (.int .i64 (9 + (m : Int)))) none).run Tryd.prog wx = .ok (.slice A9 m c9) wx) ∧ ∀ w, BytesIn w (.slice A n c) xs → BytesIn w (.slice A9 m c9) ((xs.drop 9).take m) :=
  ⟨_, _, fun wx => (mid23 A n c m hq wx).trans (by rw [Nat.add_sub_cancel_left]), fun w h => by have := bytes_mid h hN; rw [Nat.add_sub_cancel_left] at this; exact this⟩
theorem frozen_of_heap {w : World} {b ty i : Nat} {cs : Array Value} (h : w.heap[b]? = some (.cells cs ty (0, 0))) : w.frozen? ⟨b, i, none⟩ = false := by
  unfold World.frozen?
  simp [h]
theorem res_of_heap {w : World} {g ty : Nat} {x y : Value} (h : w.heap[g]? = some (.cells #[x, y] ty (0, 0))) : Res g w x y :=
  ⟨cell_of_heap h 0, cell_of_heap h 1, frozen_of_heap h, frozen_of_heap h⟩
theorem res_set {V : World} {g : Nat} {x0 y0 x y : Value} (h : Res g V x0 y0) : Res g ((V.setCell ⟨g, 0, none⟩ x).setCell ⟨g, 1, none⟩ y) x y := by
  obtain ⟨h0, h1, f0, f1⟩ := h
  refine ⟨?_, ?_, by simpa using f0, by simpa using f1⟩
  · exact (World.cell?_setCell_other _ _ _ _ (by simp)).trans (World.cell?_setCell_same _ _ _ h0)
  · exact World.cell?_setCell_same _ _ _ (u := y0) ((World.cell?_setCell_other _ _ _ _ (by simp)).trans h1)
def MidP (w1 : World) (k : Int) (m : Nat) (d : List B8) (v : Value) (wx : World) : Prop := ∃ g A3 c3, v = .pointer (some ⟨g, 0, none⟩) ∧ Res g wx (.int .i64 k) (.slice A3 m c3) ∧ OwnN wx w1.heap.size (.slice A3 m c3) d ∧ w1.heap.size ≤ g ∧ Ok w1 wx
theorem fin_beg {w1 V : World} {g N3 c3 m : Nat} {A3 : Option Addr} {d : List B8} {k : Int} (HG : V.heap[g]? = some (.cells #[.int .i64 0, .slice none 0 0] 45 (0, 0))) (HO : OwnN V w1.heap.size (.slice A3 N3 c3) d) (hl : d.length = N3) (hm : d.length = m) (hg : w1.heap.size ≤ g) (hk : Ok w1 V) :
    MidP w1 k m d (.pointer (some ⟨g, 0, none⟩)) ((V.setCell ⟨g, 0, none⟩ (.int .i64 k)).setCell ⟨g, 1, none⟩ (.slice A3 N3 c3)) := by
  obtain rfl : N3 = m := hl.symm.trans hm
  refine ⟨g, A3, c3, rfl, res_set (res_of_heap HG), ?_, hg, Below.setCell (Below.setCell hk hg _) hg _⟩
  refine own_stays HO fun b hb => ?_
  have hne : b ≠ g := fun e => HO.not_ty HG (by decide) (by rw [hb, e])
  rw [heap_setCell_other _ ⟨g, 1, none⟩ b _ hne, heap_setCell_other _ ⟨g, 0, none⟩ b _ hne]
def BegP (w : World) (bs : List B8) (e : Ending) (w' : World) : Prop :=
  ((nextF bs = none ∧ e = .returned (.tuple #[.agg #[.int .i64 0, .slice none 0 0], .bool false])) ∨
  ∃ (f : Fr) (t : List B8) (A : Option Addr) (n c : Nat), nextF bs = some (f, t) ∧ e = .returned (.tuple #[.agg #[.int .i64 f.kind, .slice A n c], .bool true]) ∧ OwnN w' w.heap.size (.slice A n c) f.data) ∧ Ok w w'
set_option maxRecDepth 100000 in
set_option maxHeartbeats 4000000 in
theorem begins_w (A : Option Addr) (n c : Nat) (bs : List B8) (hn : bs.length = n) (hn6 : n ≤ 1000000000) (w : World) (hB : BytesIn w (.slice A n c) bs) :
    Calls Tryd.prog 28 #[.slice A n c] w (BegP w bs) := by
  have HR := Lib.hid (res_new45 w (.int .i64 0) (.slice none 0 0))
  have HO : Hid (Ok w (w.alloc (.cells #[.int .i64 0, .slice none 0 0] 45))) := Lib.hid ((Ok.refl w).alloc _)
  have HSZ : Hid (w.heap.size < (w.alloc (.cells #[.int .i64 0, .slice none 0 0] 45)).heap.size) := Lib.hid (by simp)
  have HB := Lib.hid (HO.out.bytes hB)
  have HN := Lib.hid hn
  clear hB hn
  go_enter Tryd.func28, Tryd.ntmps28
  go_upto_region 1 with fail
  obtain ⟨z, hz⟩ : ∃ z, z = w.heap.size := ⟨_, rfl⟩
  have HZ : Hid (w.heap.size ≤ z) := Lib.hid (Nat.le_of_eq hz.symm)
  rw [← hz] at HR HSZ ⊢
  clear hz
  generalize w.alloc (.cells #[.int .i64 0, .slice none 0 0] 45) = w0 at *
  by_cases h9 : n < 9
  · have d1 : decide ((n : Int) < 9) = true := decide_eq_true (by omega)
    have HNX : Hid (nextF bs = none) := Lib.hid (next_short (by rw [HN.out]; exact h9))
    obtain ⟨r0, r1, f0, f1⟩ := HR.out
    go_wp2_with fail
    refine bodyPost_ret (by simp [results, Tryd.results28, go_sem, r0, r1]; try rfl) rfl ?_
    exact ⟨.inl ⟨HNX.out, rfl⟩, Ok.set2 HO.out HZ.out⟩
  · have d1 : decide ((n : Int) < 9) = false := decide_eq_false (by omega)
    obtain ⟨-, b, off, rfl, c0⟩ := same_cells HB.out rfl 0 (by omega)
    rw [Nat.add_zero] at c0
    obtain ⟨-, b1, off1, e1, c1⟩ := same_cells HB.out rfl 1 (by omega)
    obtain ⟨-, b2, off2, e2, c2⟩ := same_cells HB.out rfl 2 (by omega)
    obtain ⟨-, b3, off3, e3, c3⟩ := same_cells HB.out rfl 3 (by omega)
    obtain ⟨-, b4, off4, e4, c4⟩ := same_cells HB.out rfl 4 (by omega)
    simp only [Option.some.injEq, Addr.mk.injEq, and_true] at e1 e2 e3 e4
    obtain ⟨rfl, rfl⟩ := e1
    obtain ⟨rfl, rfl⟩ := e2
    obtain ⟨rfl, rfl⟩ := e3
    obtain ⟨rfl, rfl⟩ := e4
    have HS4 : Hid (IntKind.i64.wrap (IntKind.i64.wrap (IntKind.i64.wrap (IntKind.i64.wrap (ub (bs.getD 0 0#8)) + IntKind.i64.wrap (IntKind.i64.wrap (ub (bs.getD 1 0#8)) * 256)) + IntKind.i64.wrap (IntKind.i64.wrap (ub (bs.getD 2 0#8)) * 65536)) + IntKind.i64.wrap (IntKind.i64.wrap (ub (bs.getD 3 0#8)) * 16777216)) = ((hN bs : Nat) : Int)) := Lib.hid (wrap4_v _ _ _ _)
    have HE4 : Hid ((hF bs).kind = ub (bs.getD 4 0#8)) := Lib.hid rfl
    generalize bs.getD 0 0#8 = x0 at *
    generalize bs.getD 1 0#8 = x1 at *
    generalize bs.getD 2 0#8 = x2 at *
    generalize bs.getD 3 0#8 = x3 at *
    generalize bs.getD 4 0#8 = x4 at *
    have k0 := cell_regrown c0
    have k1 := cell_regrown c1
    have k2 := cell_regrown c2
    have k3 := cell_regrown c3
    have l1 : (0 : Int) < n := by omega
    have l2 : (1 : Int) < n := by omega
    have l3 : (2 : Int) < n := by omega
    have l4 : (3 : Int) < n := by omega
    have m1 : 0 < n := by omega
    have m2 : 1 < n := by omega
    have m3 : 2 < n := by omega
    have m4 : 3 < n := by omega
    have v0 := ub_range x0
    have v1 := ub_range x1
    have v2 := ub_range x2
    have v3 := ub_range x3
    go_upto_region 3 with fail
    refine wp_region_quiet_below (by kernel_rfl) (by kernel_rfl) ?_
    refine HeldU.out ?_
    repeat (
      refine hqU_step (fun K hK => ?_)
      go_simp
      (refine hK _ ?_; clear hK K))
    refine HeldU.mk (wpQuiet_nil ?_)
    intro _ hw'
    obtain ⟨⟨dq, osq⟩, hw''⟩ := hw'
    subst hw''
    rw [HS4.out]
    have HO1 := Lib.hid (Ok.trans HO.out (below_regrown w0 dq osq))
    have HR1 := Lib.hid (HR.out.ok (below_regrown w0 dq osq))
    have HB1 := Lib.hid (Ok.bytes (below_regrown w0 dq osq) HB.out)
    have hs1 := (below_regrown w0 dq osq).size
    have HSZ1 : Hid (z < (Go.Sort.grow (redrawn w0 dq) osq).heap.size) := Lib.hid (by have := HSZ.out; omega)
    have y4 := Ok.cell (below_regrown w0 dq osq) c4
    clear c0 c1 c2 c3 c4 k0 k1 k2 k3 HS4 v0 v1 v2 v3 hs1 HSZ
    have HFAR := Lib.hid (@beg_far bs)
    have HFL := Lib.hid (@hF_len bs)
    generalize Go.Sort.grow (redrawn w0 dq) osq = w1 at *
    obtain ⟨m, hm⟩ : ∃ m, hN bs = m := ⟨_, rfl⟩
    have HM := Lib.hid hm
    rw [hm] at HFAR HFL ⊢
    rw [HN.out] at HFAR HFL
    clear hm
    have s9 : IntKind.i64.wrap ((n : Int) - 9) = (n : Int) - 9 := IntWalk.i64_in _ (by omega)
    have s9' : wrap64 ((n : Int) - 9) = (n : Int) - 9 := by simp only [wrap64]; omega
    by_cases hbig : 262144 < m
    · have d2 : decide ((262144 : Int) < (m : Int)) = true := decide_eq_true (by omega)
      have HNX : Hid (nextF bs = none) := Lib.hid (HFAR.out (by omega))
      obtain ⟨r0, r1, f0, f1⟩ := HR1.out
      go_wp2_with fail
      refine bodyPost_ret (by simp [results, Tryd.results28, go_sem, r0, r1]; try rfl) rfl ?_
      exact ⟨.inl ⟨HNX.out, rfl⟩, Ok.set2 HO1.out HZ.out⟩
    have d2 : decide ((262144 : Int) < (m : Int)) = false := decide_eq_false (by omega)
    by_cases hlong : n < m + 9
    · have d3 : decide ((n : Int) - 9 < (m : Int)) = true := decide_eq_true (by omega)
      have HNX : Hid (nextF bs = none) := Lib.hid (HFAR.out (by omega))
      obtain ⟨r0, r1, f0, f1⟩ := HR1.out
      go_wp2_with fail
      refine bodyPost_ret (by simp [results, Tryd.results28, go_sem, r0, r1]; try rfl) rfl ?_
      exact ⟨.inl ⟨HNX.out, rfl⟩, Ok.set2 HO1.out HZ.out⟩
    have d3 : decide ((n : Int) - 9 < (m : Int)) = false := decide_eq_false (by omega)
    clear HFAR
    have HFD := Lib.hid (HFL.out (by omega))
    have HDE : Hid ((bs.drop 9).take m = (hF bs).data) := Lib.hid (by rw [← HM.out]; rfl)
    have hcap := (BytesIn.cap HB1.out).2
    obtain ⟨A9, c9, hmid, hmb⟩ := mid_cut (some ⟨b, off, none⟩) n c m bs (by omega) (show m + 9 ≤ bs.length by rw [HN.out]; omega)
    have HMB := Lib.hid (hmb w1 HB1.out)
    rw [HDE.out] at HMB
    clear hmb
    have ha9 : IntKind.i64.wrap (9 + (m : Int)) = 9 + (m : Int) := IntWalk.i64_in _ (by omega)
    have ha9' : wrap64 (9 + (m : Int)) = 9 + (m : Int) := by simp only [wrap64]; omega
    have hw4 : IntKind.i64.wrap (ub x4) = ub x4 := IntWalk.i64_in _ (by have := ub_range x4; omega)
    have l5 : (4 : Int) < n := by omega
    have m5 : 4 < n := by omega
    clear HFL d3 d2 s9 s9'
    go_upto_region 6 with fail
    go_cut [5] from 44 to 54 (fun v wx => MidP w1 (ub x4) m (hF bs).data v wx)
    case first =>
      rename_i K0 Q0 hK0
      have HKK := Lib.hid hK0
      clear hK0
      refine Until.begin (S := fun V => V.cell? ⟨b, off + 4, none⟩ = some (.int .u8 (ub x4))) (j := 12) (by kernel_rfl) ?_ ?_
      · exact (Ok.refl w1).drew.cell y4
      intro hS
      have HD : Hid (Ok w1 w1.drew) := Lib.hid ((Ok.refl w1).drew)
      generalize w1.drew = V0 at *
      have HK0 := HD
      clear HD
      refine Until.take0 (i := 0) (v := ?v0) rfl (by kernel_rfl) (by kernel_rfl) (by kernel_rfl) (by kernel_rfl) (fun _ _ _ h => h) (Or.inl ⟨by rfl, ?hy0⟩) (fun _ => hS) ?rest0
      case hy0 => ((intro w hSw); clear hSw; go_simp; (try with_reducible rfl))
      try go_frame
      refine Until.take0 (i := 1) (v := ?v1) rfl (by kernel_rfl) (by kernel_rfl) (by kernel_rfl) (by kernel_rfl) (fun _ _ _ h => h) (Or.inl ⟨by rfl, ?hy1⟩) (fun _ => hS) ?rest1
      case hy1 => ((intro w hSw); clear hSw; go_simp; (try with_reducible rfl))
      try go_frame
      refine Until.take (i := 2) (v := ?v2) rfl (by kernel_rfl) (by kernel_rfl) (by kernel_rfl) (by kernel_rfl) (fun _ _ _ h => h) (Or.inl ⟨by rfl, ?hy2⟩) hS ?rest2
      case hy2 => ((intro w hSw; (try dsimp only at hSw)); have s4 := hSw; go_simp; (try with_reducible rfl))
      try go_frame
      refine Until.take0 (i := 3) (v := ?v3) rfl (by kernel_rfl) (by kernel_rfl) (by kernel_rfl) (by kernel_rfl) (fun _ _ _ h => h) (Or.inl ⟨by rfl, ?hy3⟩) (fun _ => hS) ?rest3
      case hy3 => ((intro w hSw); clear hSw; go_simp; (try with_reducible rfl))
      try go_frame
      refine Until.take0 (i := 5) (v := ?v5) rfl (by kernel_rfl) (by kernel_rfl) (by kernel_rfl) (by kernel_rfl) (fun _ _ _ h => h) (Or.inl ⟨by rfl, ?hy5⟩) (fun _ => hS) ?rest5
      case hy5 => ((intro w hSw); clear hSw; go_simp; (try with_reducible rfl))
      try go_frame
      refine Until.take0 (i := 6) (v := ?v6) rfl (by kernel_rfl) (by kernel_rfl) (by kernel_rfl) (by kernel_rfl) (fun _ _ _ h => h) (Or.inl ⟨by rfl, ?hy6⟩) (fun _ => hS) ?rest6
      case hy6 => ((intro w hSw); clear hSw; go_simp; (try with_reducible rfl))
      try go_frame
      refine Until.take0 (i := 7) (v := ?v7) rfl (by kernel_rfl) (by kernel_rfl) (by kernel_rfl) (by kernel_rfl) (fun _ _ _ h => h) (Or.inl ⟨by rfl, ?hy7⟩) (fun _ => hS) ?rest7
      case hy7 => ((intro w hSw); clear hSw; go_simp; (try with_reducible rfl))
      try go_frame
      refine Until.take0 (i := 8) (v := ?v8) rfl (by kernel_rfl) (by kernel_rfl) (by kernel_rfl) (by kernel_rfl) (fun _ _ _ h => h) (Or.inl ⟨by rfl, ?hy8⟩) (fun _ => hS) ?rest8
      case hy8 => ((intro w hSw); clear hSw; go_simp; (try with_reducible rfl))
      try go_frame
      refine Until.two (i := 4) (k := 11) (by kernel_rfl) rfl rfl (fun K hK => ?_) (fun K hK => ?_)
      · have HK := Lib.hid hK
        clear hK
        go_simp
        have HOE : Hid (OwnN (V0.alloc (.cells #[] 5)) w1.heap.size (.slice (some ⟨V0.heap.size, 0, none⟩) 0 0) []) := Lib.hid ((own_empty V0).mono HK0.out.size)
        have HKn : Hid (Ok w1 (V0.alloc (.cells #[] 5))) := Lib.hid (HK0.out.alloc _)
        have hSn := ((Ok.refl V0).alloc (.cells #[] 5)).cell hS
        generalize V0.alloc (.cells #[] 5) = V1 at *
        have HK1 := HKn
        clear HKn
        refine HK.out.out _ _ (fun _ => hSn) (fun _ => ?_)
        clear hS
        have hS := hSn
        clear HK K
        try go_frame
        refine Until.two (i := 9) (k := 11) (by kernel_rfl) rfl rfl (fun K hK => ?_) (fun K hK => ?_)
        · have HK := Lib.hid hK
          clear hK
          refine step_appB (by rfl) _ _ (by rfl) w1.heap.size _ [] (hF bs).data _ (by rfl) (by rfl) HOE.out (HK1.out.bytes HMB.out) (by have := HFD.out; simp; omega) HK1.out.size ?_
          intro A3 N3 c3 V2 ho hb hg
          have HO := Lib.hid ho
          have HNL := Lib.hid ho.len'
          have HK2 : Hid (Ok w1 V2) := Lib.hid (Below.trans HK1.out hb)
          clear ho hb hg
          have hSn := HK2.out.cell y4
          refine HK.out.out _ _ (fun _ => hSn) (fun _ => ?_)
          clear hS
          have hS := hSn
          clear HK K
          try go_frame
          refine Until.take0 (i := 10) (v := ?v10b4b9) rfl (by kernel_rfl) (by kernel_rfl) (by kernel_rfl) (by kernel_rfl) (fun _ _ _ h => h) (Or.inl ⟨by rfl, ?hy10b4b9⟩) (fun _ => hS) ?rest10b4b9
          case hy10b4b9 => ((intro w hSw); clear hSw; go_simp; (try with_reducible rfl))
          try go_frame
          refine Until.one (i := 11) (by kernel_rfl) rfl (fun K hK => ?_)
          have HK := Lib.hid hK
          clear hK
          go_simp
          have HG : Hid ((V2.alloc (.cells #[.int .i64 0, .slice none 0 0] 45)).heap[V2.heap.size]? = some (.cells #[.int .i64 0, .slice none 0 0] 45 (0, 0))) := Lib.hid (heap_alloc_new V2 _)
          have HGW : Hid (w1.heap.size ≤ V2.heap.size) := Lib.hid (HK2.out.size)
          have HKn : Hid (Ok w1 (V2.alloc (.cells #[.int .i64 0, .slice none 0 0] 45))) := Lib.hid (HK2.out.alloc _)
          have hSn := ((Ok.refl V2).alloc (.cells #[.int .i64 0, .slice none 0 0] 45)).cell hS
          have HO3 := Lib.hid (HO.out.ok ((Ok.refl V2).alloc (.cells #[.int .i64 0, .slice none 0 0] 45)))
          clear HO
          have HO := HO3
          obtain ⟨g, hgg⟩ : ∃ g, g = V2.heap.size := ⟨_, rfl⟩
          rw [← hgg] at HG HGW
          rw [← hgg]
          clear hgg
          generalize V2.alloc (.cells #[.int .i64 0, .slice none 0 0] 45) = V3 at *
          have HK3 := HKn
          clear HKn
          obtain ⟨r0, r1, f0, f1⟩ := res_of_heap HG.out
          refine HK.out.out _ _ (fun _ => hSn) (fun _ => ?_)
          clear hS
          have hS := hSn
          clear HK K
          try go_frame
          refine Until.one (i := 12) (by kernel_rfl) rfl (fun K hK => ?_)
          have HK := Lib.hid hK
          clear hK
          go_simp
          refine HK.out.out _ _ (fun h => absurd (h.symm.trans (by kernel_rfl : _ = true)) Bool.false_ne_true) (fun _ => ?_)
          clear HK K
          try go_frame
          refine Until.done (by kernel_rfl) ?_ _
          refine HKK.out _ _ ?_
          clear HKK
          go_meet
          exact fin_beg HG.out HO.out HNL.out HFD.out HGW.out HK3.out
        · have HK := Lib.hid hK
          clear hK
          go_simp
          have HG : Hid ((V1.alloc (.cells #[.int .i64 0, .slice none 0 0] 45)).heap[V1.heap.size]? = some (.cells #[.int .i64 0, .slice none 0 0] 45 (0, 0))) := Lib.hid (heap_alloc_new V1 _)
          have HGW : Hid (w1.heap.size ≤ V1.heap.size) := Lib.hid (HK1.out.size)
          have HKn : Hid (Ok w1 (V1.alloc (.cells #[.int .i64 0, .slice none 0 0] 45))) := Lib.hid (HK1.out.alloc _)
          have hSn := ((Ok.refl V1).alloc (.cells #[.int .i64 0, .slice none 0 0] 45)).cell hS
          have HOE2 := Lib.hid (HOE.out.ok ((Ok.refl V1).alloc (.cells #[.int .i64 0, .slice none 0 0] 45)))
          clear HOE
          have HOE := HOE2
          clear HOE2
          obtain ⟨g, hgg⟩ : ∃ g, g = V1.heap.size := ⟨_, rfl⟩
          rw [← hgg] at HG HGW
          rw [← hgg]
          clear hgg
          generalize V1.alloc (.cells #[.int .i64 0, .slice none 0 0] 45) = V2 at *
          have HK2 := HKn
          clear HKn
          refine HK.out.out _ _ (fun _ => hSn) (fun _ => ?_)
          clear hS
          have hS := hSn
          clear HK K
          try go_frame
          refine Until.one (i := 9) (by kernel_rfl) rfl (fun K hK => ?_)
          have HK := Lib.hid hK
          clear hK
          refine step_appB (by rfl) _ _ (by rfl) w1.heap.size _ [] (hF bs).data _ (by rfl) (by rfl) HOE.out (HK2.out.bytes HMB.out) (by have := HFD.out; simp; omega) HK2.out.size ?_
          intro A3 N3 c3 V3 ho hb hg
          have HO := Lib.hid ho
          have HNL := Lib.hid ho.len'
          have HK3 : Hid (Ok w1 V3) := Lib.hid (Below.trans HK2.out hb)
          have HG2 : Hid (V3.heap[g]? = some (.cells #[.int .i64 0, .slice none 0 0] 45 (0, 0))) := Lib.hid ((hg.block g (Array.getElem?_eq_some_iff.1 HG.out).1 (fun e => HOE.out.not_ty HG.out (by decide) e)).trans HG.out)
          clear HG
          have HG := HG2
          clear HG2
          obtain ⟨r0, r1, f0, f1⟩ := res_of_heap HG.out
          clear ho hb hg
          have hSn := HK3.out.cell y4
          refine HK.out.out _ _ (fun _ => hSn) (fun _ => ?_)
          clear hS
          have hS := hSn
          clear HK K
          try go_frame
          refine Until.take0 (i := 10) (v := ?v10b4b11) rfl (by kernel_rfl) (by kernel_rfl) (by kernel_rfl) (by kernel_rfl) (fun _ _ _ h => h) (Or.inl ⟨by rfl, ?hy10b4b11⟩) (fun _ => hS) ?rest10b4b11
          case hy10b4b11 => ((intro w hSw); clear hSw; go_simp; (try with_reducible rfl))
          try go_frame
          refine Until.one (i := 12) (by kernel_rfl) rfl (fun K hK => ?_)
          have HK := Lib.hid hK
          clear hK
          go_simp
          refine HK.out.out _ _ (fun h => absurd (h.symm.trans (by kernel_rfl : _ = true)) Bool.false_ne_true) (fun _ => ?_)
          clear HK K
          try go_frame
          refine Until.done (by kernel_rfl) ?_ _
          refine HKK.out _ _ ?_
          clear HKK
          go_meet
          exact fin_beg HG.out HO.out HNL.out HFD.out HGW.out HK3.out
      · have HK := Lib.hid hK
        clear hK
        go_simp
        have HG : Hid ((V0.alloc (.cells #[.int .i64 0, .slice none 0 0] 45)).heap[V0.heap.size]? = some (.cells #[.int .i64 0, .slice none 0 0] 45 (0, 0))) := Lib.hid (heap_alloc_new V0 _)
        have HGW : Hid (w1.heap.size ≤ V0.heap.size) := Lib.hid (HK0.out.size)
        have HKn : Hid (Ok w1 (V0.alloc (.cells #[.int .i64 0, .slice none 0 0] 45))) := Lib.hid (HK0.out.alloc _)
        have hSn := ((Ok.refl V0).alloc (.cells #[.int .i64 0, .slice none 0 0] 45)).cell hS
        obtain ⟨g, hgg⟩ : ∃ g, g = V0.heap.size := ⟨_, rfl⟩
        rw [← hgg] at HG HGW
        rw [← hgg]
        clear hgg
        generalize V0.alloc (.cells #[.int .i64 0, .slice none 0 0] 45) = V1 at *
        have HK1 := HKn
        clear HKn
        refine HK.out.out _ _ (fun _ => hSn) (fun _ => ?_)
        clear hS
        have hS := hSn
        clear HK K
        try go_frame
        refine Until.one (i := 4) (by kernel_rfl) rfl (fun K hK => ?_)
        have HK := Lib.hid hK
        clear hK
        go_simp
        have HOE : Hid (OwnN (V1.alloc (.cells #[] 5)) w1.heap.size (.slice (some ⟨V1.heap.size, 0, none⟩) 0 0) []) := Lib.hid ((own_empty V1).mono HK1.out.size)
        have HKn : Hid (Ok w1 (V1.alloc (.cells #[] 5))) := Lib.hid (HK1.out.alloc _)
        have hSn := ((Ok.refl V1).alloc (.cells #[] 5)).cell hS
        have HG3 : Hid ((V1.alloc (.cells #[] 5)).heap[g]? = some (.cells #[.int .i64 0, .slice none 0 0] 45 (0, 0))) := Lib.hid ((((Ok.refl V1).alloc (.cells #[] 5)).block g (Array.getElem?_eq_some_iff.1 HG.out).1).trans HG.out)
        clear HG
        have HG := HG3
        clear HG3
        generalize V1.alloc (.cells #[] 5) = V2 at *
        have HK2 := HKn
        clear HKn
        refine HK.out.out _ _ (fun _ => hSn) (fun _ => ?_)
        clear hS
        have hS := hSn
        clear HK K
        try go_frame
        refine Until.one (i := 9) (by kernel_rfl) rfl (fun K hK => ?_)
        have HK := Lib.hid hK
        clear hK
        refine step_appB (by rfl) _ _ (by rfl) w1.heap.size _ [] (hF bs).data _ (by rfl) (by rfl) HOE.out (HK2.out.bytes HMB.out) (by have := HFD.out; simp; omega) HK2.out.size ?_
        intro A3 N3 c3 V3 ho hb hg
        have HO := Lib.hid ho
        have HNL := Lib.hid ho.len'
        have HK3 : Hid (Ok w1 V3) := Lib.hid (Below.trans HK2.out hb)
        have HG2 : Hid (V3.heap[g]? = some (.cells #[.int .i64 0, .slice none 0 0] 45 (0, 0))) := Lib.hid ((hg.block g (Array.getElem?_eq_some_iff.1 HG.out).1 (fun e => HOE.out.not_ty HG.out (by decide) e)).trans HG.out)
        clear HG
        have HG := HG2
        clear HG2
        obtain ⟨r0, r1, f0, f1⟩ := res_of_heap HG.out
        clear ho hb hg
        have hSn := HK3.out.cell y4
        refine HK.out.out _ _ (fun _ => hSn) (fun _ => ?_)
        clear hS
        have hS := hSn
        clear HK K
        try go_frame
        refine Until.take0 (i := 10) (v := ?v10b11) rfl (by kernel_rfl) (by kernel_rfl) (by kernel_rfl) (by kernel_rfl) (fun _ _ _ h => h) (Or.inl ⟨by rfl, ?hy10b11⟩) (fun _ => hS) ?rest10b11
        case hy10b11 => ((intro w hSw); clear hSw; go_simp; (try with_reducible rfl))
        try go_frame
        refine Until.one (i := 12) (by kernel_rfl) rfl (fun K hK => ?_)
        have HK := Lib.hid hK
        clear hK
        go_simp
        refine HK.out.out _ _ (fun h => absurd (h.symm.trans (by kernel_rfl : _ = true)) Bool.false_ne_true) (fun _ => ?_)
        clear HK K
        try go_frame
        refine Until.done (by kernel_rfl) ?_ _
        refine HKK.out _ _ ?_
        clear HKK
        go_meet
        exact fin_beg HG.out HO.out HNL.out HFD.out HGW.out HK3.out
    case rest =>
      obtain ⟨g, A3, c3, rfl, hres, hown, hg, hk⟩ := hcut
      have HRG := Lib.hid hres
      have HOD := Lib.hid hown
      have HGG := Lib.hid hg
      have HKC := Lib.hid hk
      have HFE : Hid ((⟨(x4.toNat : Int), (hF bs).data⟩ : Fr) = hF bs) := Lib.hid (fr_eta HE4.out)
      have HBF : Hid (bytesF ⟨(x4.toNat : Int), (hF bs).data⟩ = bytesF (hF bs)) := Lib.hid (by rw [HFE.out])
      have HONE : Hid (∀ V, Ok wc V → Calls Tryd.prog 19 #[.agg #[.int .i64 (ub x4), .slice A3 m c3]] V (RowG V (bytesF (hF bs)))) := Lib.hid (fun V k => by rw [← HBF.out]; exact rone_w x4.toNat x4.isLt A3 m c3 (hF bs).data HFD.out (by omega) V (k.bytes (hown.bytes (by rw [HFD.out]; omega))))
      have HBL : Hid ((bytesF (hF bs)).length = 9 + m) := Lib.hid (by rw [bytesF_len, HFD.out])
      have HBC := Lib.hid (hk.bytes HB1.out)
      have HRC := Lib.hid (HR1.out.ok hk)
      have HYES := Lib.hid (@beg_yes bs)
      have HNO := Lib.hid (fun i => @beg_no bs i)
      rw [HM.out, HN.out] at HYES HNO
      clear hown hg hk hmid ha9 ha9' hw4 HMB HDE HBF HFE HB HR HB1 HR1 y4 HO
      obtain ⟨r0, r1, f0, f1⟩ := hres
      go_upto_region 7 with fail
      go_wp2_with fail
      (with_reducible refine (HONE.out _ (Ok.refl _)).mono ?_)
      rintro _ w5 ⟨A5, n5, c5, rfl, ho5, hk5⟩
      have HO5 := Lib.hid ho5
      obtain rfl : 9 + m = n5 := HBL.out.symm.trans ho5.len'
      obtain ⟨g5, rfl, -, -⟩ := ho5.capd (by omega)
      have HK5 := Lib.hid (Ok.trans HKC.out hk5)
      have HRG5 := Lib.hid (HRG.out.ok hk5)
      have HRC5 := Lib.hid (HRC.out.ok hk5)
      have HBC5 := Lib.hid (hk5.bytes HBC.out)
      have HOD5 := Lib.hid (HOD.out.ok hk5)
      clear ho5 hk5 r0 r1 f0 f1 HRG HRC HBC HOD HONE
      go_wp2_with fail
      go_loopw [7] (fun i wr => ∃ k : Nat, k ≤ 9 + m ∧ i = .int .i64 k ∧ (∀ j, j < k → (bytesF (hF bs)).getD j 0#8 = bs.getD j 0#8) ∧ Ok w5 wr) (fun i _ => 9 + m - (intOf i).toNat)
      case atStart => exact ⟨0, Nat.zero_le _, rfl, fun j hj => absurd hj (Nat.not_lt_zero _), Ok.refl _⟩
      case round =>
        obtain ⟨k, hk, rfl, hsame, okr⟩ := hrel
        have HOKR := Lib.hid okr
        have HSM := Lib.hid hsame
        clear okr hsame
        by_cases hlt : k < 9 + m
        · have e1 : decide ((k : Int) < ((9 + m : Nat) : Int)) = true := decide_eq_true (by omega)
          have C0 := ((HO5.out.ok HOKR.out).cell k (by rw [HBL.out]; exact hlt)).1
          obtain ⟨-, b', off', eb, C1⟩ := same_cells (HOKR.out.bytes HBC5.out) rfl k (by omega)
          simp only [Option.some.injEq, Addr.mk.injEq, and_true] at eb
          obtain ⟨rfl, rfl⟩ := eb
          have HNEQ := Lib.hid (HNO.out k (by omega) hlt)
          have HEQ : Hid ((bytesF (hF bs)).getD k 0#8 = bs.getD k 0#8 → ∀ j, j < k + 1 → (bytesF (hF bs)).getD j 0#8 = bs.getD j 0#8) := Lib.hid fun h j hj => by
            rcases Nat.lt_succ_iff_lt_or_eq.1 hj with h3 | rfl
            · exact HSM.out j h3
            · exact h
          generalize (bytesF (hF bs)).getD k 0#8 = y at *
          generalize bs.getD k 0#8 = y' at *
          have hi0 : (0 : Int) ≤ (k : Int) := Int.natCast_nonneg _
          have hi1 : (k : Int) < ((9 + m : Nat) : Int) := by omega
          have hi2 : (k : Int) < (n : Int) := by omega
          have k0 := cell_regrown C0
          have k1 := cell_regrown C1
          go_upto_region 11 with fail
          refine wp_region_quiet_below (by kernel_rfl) (by kernel_rfl) ?_
          refine HeldU.out ?_
          repeat (
            refine hqU_step (fun K hK => ?_)
            go_simp
            (refine hK _ ?_; clear hK K))
          refine HeldU.mk (wpQuiet_nil ?_)
          intro _ hw'
          obtain ⟨⟨dq, osq⟩, hw''⟩ := hw'
          subst hw''
          have HO6 := Lib.hid (Ok.trans HOKR.out (below_regrown wr dq osq))
          clear k0 k1 C0 C1
          generalize Go.Sort.grow (redrawn wr dq) osq = w6 at *
          by_cases hy : y = y'
          · have d2 : (ub y != ub y') = false := by rw [hy]; simp
            have HEK := Lib.hid (HEQ.out hy)
            clear HNEQ HEQ hy
            go_wp2_with fail
            exact ⟨⟨k + 1, hlt, by go_num, HEK.out, HO6.out⟩, by simp [intOf]; omega⟩
          · have d2 : (ub y != ub y') = true := by rw [bne, ub_eq]; simpa using hy
            have HNX := Lib.hid (HNEQ.out hy)
            clear HNEQ HEQ hy
            obtain ⟨r0, r1, f0, f1⟩ := HRC5.out.ok HO6.out
            go_wp2_with fail
            refine bodyPost_ret (by simp [results, Tryd.results28, go_sem, r0, r1]; try rfl) rfl ?_
            exact ⟨.inl ⟨HNX.out, rfl⟩, Ok.set2 (Ok.trans HO1.out (Ok.trans HK5.out HO6.out)) HZ.out⟩
        · have e1 : decide ((k : Int) < ((9 + m : Nat) : Int)) = false := decide_eq_false (by omega)
          obtain rfl : k = 9 + m := by omega
          have HNX := Lib.hid (HYES.out (by omega) (by omega) HSM.out)
          obtain ⟨q0, q1, -, -⟩ := HRG5.out.ok HOKR.out
          obtain ⟨r0, r1, f0, f1⟩ := HRC5.out.ok HOKR.out
          go_wp2_with fail
          refine bodyPost_ret (by simp [results, Tryd.results28, go_sem, r0, r1]; try rfl) rfl ?_
          refine ⟨.inr ⟨_, _, A3, m, c3, HNX.out, ?_, ?_⟩, Ok.set2 (Ok.trans HO1.out (Ok.trans HK5.out HOKR.out)) HZ.out⟩
          · rw [HE4.out]
          · exact (((HOD5.out.ok HOKR.out).set HSZ1.out 0 _).set HSZ1.out 1 _).mono HO1.out.size
end Go.Proofs.YtpebnlddmjfomaaDoor
