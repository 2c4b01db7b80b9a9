/- Rows: DeleteFunc. -/
import Derived.Test.YtebhcadolnjplaaGreatXb
namespace Go.Proofs.YtebhcadolnjplaaGreat
open Go.RowKit

theorem call137 (args : Array Value) (w : World) : (callFunc 79 args).run Tryz.prog w = .ok (.enter 79 args) w := by
  have hn : ¬ Tryz.f79.name = "runtime.NumGoroutine" := by decide
  have hb : ¬ Tryz.f79.body = none := fun h => by
    have h2 : Tryz.f79.body.isNone = false := by kernel_rfl
    rw [h] at h2; cases h2
  simp [callFunc, go_sem, hn, hb]
theorem in1_f (s : Sp) (z : Nat) (km vm : Str) (w : World) (c0 : w.cell? ⟨z, 0, none⟩ = some (.string s.lo)) (c1 : w.cell? ⟨z, 1, none⟩ = some (.string s.hi)) :
    Calls Tryz.prog 79 #[.agg #[.string km, .string vm], .pointer (some ⟨z, 0, none⟩)] w (Ret w (.bool (hasB s km))) := by
  obtain ⟨q, hq⟩ : ∃ q, w.heap.size = q := ⟨_, rfl⟩
  have HO : Hid (Ok w (w.alloc (.cells #[.string km, .string vm] 48))) := Lib.hid ((Ok.refl w).alloc _)
  have HC : Hid ((w.alloc (.cells #[.string km, .string vm] 48)).cell? ⟨q, 0, none⟩ = some (.string km)) := Lib.hid (by rw [← hq]; exact (two_new w _ _ _).1)
  have HC0 := Lib.hid c0
  have HC1 := Lib.hid c1
  clear c0 c1
  go_enter Tryz.func79, Tryz.ntmps79
  go_upto_region 1 with fail
  clear hq
  generalize w.alloc (.cells #[.string km, .string vm] 48) = w0 at *
  have c0 := HO.out.cell HC0.out
  have c1 := HO.out.cell HC1.out
  have k0 := HC.out
  have hh := has_w s km w0
  unfold spV at hh
  go_wp2_with fail
  refine hh.mono ?_
  clear hh c0 c1 k0
  rintro _ w1 ⟨rfl, o1⟩
  have HO1 := Lib.hid (HO.out.trans o1)
  clear o1
  go_wp2_with fail
  go_ret
  exact ⟨rfl, HO1.out⟩
def InP (s : Sp) (W : World) (e : Ending) (w' : World) : Prop := ∃ z, e = .returned (.func (.func 79) #[] #[.pointer (some ⟨z, 0, none⟩)]) ∧ w'.cell? ⟨z, 0, none⟩ = some (.string s.lo) ∧ w'.cell? ⟨z, 1, none⟩ = some (.string s.hi) ∧ Ok W w' ∧ W.heap.size ≤ z
theorem in_f (s : Sp) (W : World) : Calls Tryz.prog 35 #[spV s] W (InP s W) := by
  have HO : Hid (Ok W (W.alloc (.cells #[.string s.lo, .string s.hi] 36))) := Lib.hid ((Ok.refl W).alloc _)
  have HC := Lib.hid (two_new W (.string s.lo) (.string s.hi) 36)
  unfold spV
  go_enter Tryz.func35, Tryz.ntmps35
  go_wp2_with fail
  go_ret
  exact ⟨W.heap.size, rfl, HC.out.1, HC.out.2, HO.out, Nat.le_refl _⟩
/-- A list of the call's own. -/
def ListP (l : List Rw) (W : World) (e : Ending) (w' : World) : Prop := ∃ A n c, e = .returned (.slice A n c) ∧ OwnR w' W.heap.size A n c l ∧ Ok W w'
def meant (s : Sp) (l : List Rw) : List Rw := l.filter fun r => hasB s r.key
theorem meant_take (s : Sp) (l : List Rw) (k : Nat) (h : k < l.length) : meant s (l.take (k + 1)) = meant s (l.take k) ++ if hasB s (rwA l k).key then [rwA l k] else [] := by
  unfold meant
  rw [take_one l k h, List.filter_append]
  congr 1
  cases hq : hasB s (rwA l k).key <;> simp [hq]
theorem meant_le (s : Sp) (l : List Rw) (k : Nat) : (meant s (l.take k)).length ≤ k := Nat.le_trans (List.length_filter_le _ _) (by rw [List.length_take]; omega)
set_option maxRecDepth 100000 in
set_option maxHeartbeats 4000000 in
theorem each_f (p : Nat) (A : Option Addr) (n c : Nat) (l : List Rw) (s : Sp) (z : Nat) (W : World) (h : TabAt p A n c l W) (hn : n ≤ 1000) (z0 : W.cell? ⟨z, 0, none⟩ = some (.string s.lo)) (z1 : W.cell? ⟨z, 1, none⟩ = some (.string s.hi)) :
    Calls Tryz.prog 34 #[.pointer (some ⟨p, 0, none⟩), .func (.func 79) #[] #[.pointer (some ⟨z, 0, none⟩)]] W (ListP (meant s l) W) := by
  have c0 := h.c0
  have HI := Lib.hid h.own.rows
  have HL := Lib.hid h.own.1
  have HZ0 := Lib.hid z0
  have HZ1 := Lib.hid z1
  have HN := Lib.hid hn
  have hcall := call137
  clear h z0 z1 hn
  go_enter Tryz.func34, Tryz.ntmps34
  go_wp2_with fail
  go_loopw [5, 13] (fun v5 v13 wr => ∃ (k : Nat) (A1 : Option Addr) (n1 c1 : Nat), k ≤ n ∧ v13 = .int .i64 k ∧ v5 = .slice A1 n1 c1 ∧ OwnR wr W.heap.size A1 n1 c1 (meant s (l.take k)) ∧ Ok W wr) (fun _ v _ => n - (intOf v).toNat)
  case atStart => exact ⟨0, none, 0, 0, Nat.zero_le _, rfl, rfl, ⟨rfl, World.ownsRow_nil _ _ _ _⟩, Ok.refl _⟩
  case round =>
    obtain ⟨k, A1, n1, c1, hk, rfl, rfl, hown, okr⟩ := hrel
    have HOWN := Lib.hid hown
    have HOK := Lib.hid okr
    clear hown okr
    by_cases hlt : k < n
    · have d1 : decide ((k : Int) < (n : Int)) = true := decide_eq_true (by omega)
      have HMT := Lib.hid (meant_take s l k (by rw [HL.out]; exact hlt))
      have HN1 : Hid (n1 + 1 ≤ 1000000) := Lib.hid (by
        have := meant_le s l k
        rw [HOWN.out.1] at this
        have := HN.out; omega)
      have HRW : Hid (rwA l k = ⟨(rwA l k).key, (rwA l k).val⟩) := Lib.hid rfl
      obtain ⟨b, off, rfl, x0, x1⟩ := HI.out.ok HOK.out k (by rw [HL.out]; exact hlt)
      generalize (rwA l k).key = km at *
      generalize (rwA l k).val = vm at *
      have hi0 : (0 : Int) ≤ (k : Int) := Int.natCast_nonneg _
      have hi1 : (k : Int) < (n : Int) := by omega
      obtain ⟨q, hq⟩ : ∃ q, wr.heap.size = q := ⟨_, rfl⟩
      have HQC : Hid ((wr.alloc (.cells #[.string km, .string vm] 48)).cell? ⟨q, 0, none⟩ = some (.string km) ∧ (wr.alloc (.cells #[.string km, .string vm] 48)).cell? ⟨q, 1, none⟩ = some (.string vm)) := Lib.hid (by rw [← hq]; exact two_new wr _ _ _)
      have HZ : Hid (Ok wr (wr.alloc (.cells #[.string km, .string vm] 48))) := Lib.hid ((Ok.refl wr).alloc _)
      go_upto_region 5 with fail
      clear hq x0 x1
      generalize wr.alloc (.cells #[.string km, .string vm] 48) = w0 at *
      have q0 := HQC.out.1
      have q1 := HQC.out.2
      have hf := in1_f s z km vm w0 ((HOK.out.trans HZ.out).cell HZ0.out) ((HOK.out.trans HZ.out).cell HZ1.out)
      obtain ⟨hb, hhb⟩ : ∃ hb, hasB s km = hb := ⟨_, rfl⟩
      rw [hhb] at hf HMT
      clear hhb
      go_wp2_with fail
      refine hf.mono ?_
      clear hf q0 q1
      rintro _ w1 ⟨rfl, o1⟩
      have q0 := o1.cell HQC.out.1
      have q1 := o1.cell HQC.out.2
      have HOW : Hid (OwnR w1 W.heap.size A1 n1 c1 (meant s (l.take k))) := Lib.hid (HOWN.out.ok (HZ.out.trans o1))
      have HO1 : Hid (Ok W w1) := Lib.hid (HOK.out.trans (HZ.out.trans o1))
      clear o1 HQC HZ
      have e1 : IntKind.i64.wrap ((k : Int) + 1) = (k : Int) + 1 := IntWalk.i64_in _ (by have := HN.out; omega)
      have HLT : Hid (n - ((k : Int) + 1).toNat < n - (k : Int).toNat) := Lib.hid (by omega)
      cases hb with
      | true =>
        have HOA : Hid (Ok w1 (w1.alloc (.cells #[.string km, .string vm] 48))) := Lib.hid ((Ok.refl w1).alloc _)
        have HVB : Hid (RowsIn (w1.alloc (.cells #[.string km, .string vm] 48)) (some ⟨w1.heap.size, 0, none⟩) [⟨km, vm⟩]) := Lib.hid (RowsIn.one _ _ ⟨km, vm⟩ (heap_alloc_new w1 _))
        go_wp2_with (at_builtin; go_must (refine wpList_appRows rfl (.tmp 20) (.tmp 22) rfl W.heap.size A1 n1 c1 (meant s (l.take k)) rfl (HOW.out.ok HOA.out) w1.heap.size 0 1 1 [⟨km, vm⟩] rfl rfl HVB.out HN1.out (Nat.le_trans HO1.out.size HOA.out.size) ?_; intro A' c' w2 hown2 hg2; have HOWN2 := Lib.hid hown2; have HG2 := Lib.hid hg2; clear hown2 hg2))
        refine ⟨⟨k + 1, A', n1 + 1, c', hlt, rfl, rfl, ?_, ?_⟩, HLT.out⟩
        · rw [HMT.out, HRW.out]; exact HOWN2.out
        · exact Below.grown (HO1.out.trans HOA.out) HG2.out (Nat.le_trans HO1.out.size HOA.out.size) (fun j e => (HOW.out.2.lt j e).1)
      | false =>
        go_wp2_with fail
        exact ⟨⟨k + 1, A1, n1, c1, hlt, rfl, rfl, by rw [HMT.out]; simpa using HOW.out, HO1.out⟩, HLT.out⟩
    · have d1 : decide ((k : Int) < (n : Int)) = false := decide_eq_false (by omega)
      obtain rfl : k = n := by omega
      go_wp2_with fail
      go_ret
      exact ⟨A1, n1, c1, rfl, by have := HOWN.out; rwa [List.take_of_length_le (by rw [HL.out]; exact Nat.le_refl _)] at this, HOK.out⟩
end Go.Proofs.YtebhcadolnjplaaGreat
namespace Go.Proofs.YtebhcadolnjplaaGreat
open Go.RowKit

set_option maxRecDepth 100000 in
set_option maxHeartbeats 4000000 in
theorem inR_f (p : Nat) (A : Option Addr) (n c : Nat) (l : List Rw) (s : Sp) (W : World) (h : TabAt p A n c l W) (hn : n ≤ 1000) :
    Calls Tryz.prog 16 #[.pointer (some ⟨p, 0, none⟩), spV s] W (ListP (meant s l) W) := by
  obtain ⟨y, hy⟩ : ∃ y, W.heap.size = y := ⟨_, rfl⟩
  have HYC : Hid ((W.alloc (.cells #[.string s.lo, .string s.hi] 36)).cell? ⟨y, 0, none⟩ = some (.string s.lo) ∧ (W.alloc (.cells #[.string s.lo, .string s.hi] 36)).cell? ⟨y, 1, none⟩ = some (.string s.hi)) := Lib.hid (by rw [← hy]; exact two_new W _ _ _)
  have HO0 : Hid (Ok W (W.alloc (.cells #[.string s.lo, .string s.hi] 36))) := Lib.hid ((Ok.refl W).alloc _)
  have HT := Lib.hid h
  have HN := Lib.hid hn
  clear h hn
  unfold spV
  go_enter Tryz.func16, Tryz.ntmps16
  go_upto_region 1 with fail
  clear hy
  generalize W.alloc (.cells #[.string s.lo, .string s.hi] 36) = w0 at *
  have hno := none85 p w0 (HO0.out.cell HT.out.c1)
  go_wp2_with fail
  refine hno.mono ?_
  clear hno
  rintro _ w1 ⟨rfl, o1⟩
  have HO1 : Hid (Ok W w1) := Lib.hid (HO0.out.trans o1)
  have y0 := o1.cell HYC.out.1
  have y1 := o1.cell HYC.out.2
  clear o1 HYC HO0
  go_upto_region 3 with fail
  rename_i K0 hK0
  have HK0 := Lib.hid hK0
  clear hK0
  refine Until.begin (S := fun V => V.cell? ⟨y, 0, none⟩ = some (.string s.lo) ∧ V.cell? ⟨y, 1, none⟩ = some (.string s.hi)) (j := 4) (by kernel_rfl) ?_ ?_
  · exact ⟨(Ok.refl w1).drew.cell y0, (Ok.refl w1).drew.cell y1⟩
  intro hS
  have HD : Hid (Ok w1 w1.drew) := Lib.hid ((Ok.refl w1).drew)
  generalize w1.drew = V0 at *
  clear y0 y1
  refine Until.take0 (i := 0) (v := ?v0) rfl (by kernel_rfl) (by kernel_rfl) (by kernel_rfl) (by kernel_rfl) (fun _ _ _ h => h) (Or.inl ⟨by rfl, ?hy0⟩) (fun _ => hS) ?rest0
  case hy0 => ((intro w hSw); clear hSw; go_simp; (try with_reducible rfl))
  try go_frame
  refine Until.take0 (i := 1) (v := ?v1) rfl (by kernel_rfl) (by kernel_rfl) (by kernel_rfl) (by kernel_rfl) (fun _ _ _ h => h) (Or.inl ⟨by rfl, ?hy1⟩) (fun _ => hS) ?rest1
  case hy1 => ((intro w hSw); clear hSw; go_simp; (try with_reducible rfl))
  try go_frame
  refine Until.take0 (i := 2) (v := ?v2) rfl (by kernel_rfl) (by kernel_rfl) (by kernel_rfl) (by kernel_rfl) (fun _ _ _ h => h) (Or.inl ⟨by rfl, ?hy2⟩) (fun _ => hS) ?rest2
  case hy2 => ((intro w hSw); clear hSw; go_simp; (try with_reducible rfl))
  try go_frame
  refine Until.take (i := 3) (v := ?v3) rfl (by kernel_rfl) (by kernel_rfl) (by kernel_rfl) (by kernel_rfl) (fun _ _ _ h => h) (Or.inl ⟨by rfl, ?hy3⟩) hS ?rest3
  case hy3 => ((intro w hSw; (try dsimp only at hSw)); obtain ⟨s0, s1⟩ := hSw; go_simp; (try with_reducible rfl))
  try go_frame
  refine Until.one (i := 4) (by kernel_rfl) rfl (fun K hK => ?_)
  have HK := Lib.hid hK
  clear hK
  go_simp
  refine ((show Calls Tryz.prog 35 #[.agg #[.string s.lo, .string s.hi]] V0 (InP s V0) from in_f s V0)).mono ?_
  rintro _ V1 ⟨z, rfl, z0, z1, o1, zge⟩
  have HZ0 := Lib.hid z0
  have HZ1 := Lib.hid z1
  have HV1 : Hid (Ok w1 V1) := Lib.hid (HD.out.trans o1)
  have HZG := Lib.hid zge
  clear z0 z1 o1 zge
  refine HK.out.out _ _ (fun h => absurd (h.symm.trans (by kernel_rfl : _ = true)) Bool.false_ne_true) (fun _ => ?_)
  clear HK K
  try go_frame
  refine Until.one (i := 5) (by kernel_rfl) rfl (fun K hK => ?_)
  have HK := Lib.hid hK
  clear hK
  go_simp
  refine (each_f p A n c l s z V1 (HT.out.ok (HO1.out.trans HV1.out)) HN.out HZ0.out HZ1.out).mono ?_
  rintro _ V2 ⟨A2, n2, c2, rfl, hown, o2⟩
  have HOWN := Lib.hid hown
  have HO2 := Lib.hid o2
  clear hown o2
  refine HK.out.out _ _ (fun h => absurd (h.symm.trans (by kernel_rfl : _ = true)) Bool.false_ne_true) (fun _ => ?_)
  clear HK K
  try go_frame
  refine Until.one (i := 6) (by kernel_rfl) rfl (fun K hK => ?_)
  have HK := Lib.hid hK
  clear hK
  go_simp
  refine HK.out.out _ _ (fun h => absurd (h.symm.trans (by kernel_rfl : _ = true)) Bool.false_ne_true) (fun _ => ?_)
  clear HK K
  try go_frame
  refine Until.done (by kernel_rfl) ?_ _
  refine HK0.out _ _ ?_
  clear HK0
  go_wp2_with fail
  go_ret
  have b1 : Ok W V1 := HO1.out.trans HV1.out
  exact ⟨A2, n2, c2, rfl, ⟨HOWN.out.1, ownsRow_base HOWN.out.2 b1.size⟩, b1.trans HO2.out⟩
end Go.Proofs.YtebhcadolnjplaaGreat
namespace Go.Proofs.YtebhcadolnjplaaGreat
open Go.RowKit

def IdxInP (s : Sp) (n : Nat) (l : List Rw) (W : World) (e : Ending) (w' : World) : Prop := ∃ x : Int, e = .returned (.int .i64 x) ∧ Ok W w' ∧ ((x = -1 ∧ ∀ j, j < n → hasB s (rwA l j).key = false) ∨ ∃ k : Nat, k < n ∧ x = (k : Int) ∧ hasB s (rwA l k).key = true ∧ ∀ j, j < k → hasB s (rwA l j).key = false)
set_option maxRecDepth 100000 in
set_option maxHeartbeats 4000000 in
theorem idxIn_f (s : Sp) (z : Nat) (A : Option Addr) (n c : Nat) (l : List Rw) (W : World) (hn : l.length = n) (hn6 : n ≤ 1000000) (h : RowsIn W A l) (z0 : W.cell? ⟨z, 0, none⟩ = some (.string s.lo)) (z1 : W.cell? ⟨z, 1, none⟩ = some (.string s.hi)) :
    Calls Tryz.prog 90 #[.slice A n c, .func (.func 79) #[] #[.pointer (some ⟨z, 0, none⟩)]] W (IdxInP s n l W) := by
  have HI := Lib.hid h
  have HN := Lib.hid hn
  have HZ0 := Lib.hid z0
  have HZ1 := Lib.hid z1
  have hcall := call137
  clear h hn z0 z1
  go_enter Tryz.func90, Tryz.ntmps90
  go_wp2_with fail
  go_loopw [5, 8] (fun _ v wr => ∃ k : Nat, k ≤ n ∧ v = .int .i64 k ∧ (∀ j, j < k → hasB s (rwA l j).key = false) ∧ Ok W wr) (fun _ v _ => n - (intOf v).toNat)
  case atStart => exact ⟨0, Nat.zero_le _, rfl, fun j hj => absurd hj (Nat.not_lt_zero _), Ok.refl _⟩
  case round =>
    obtain ⟨k, hk, rfl, hb, okr⟩ := hrel
    have HB := Lib.hid hb
    have HOK := Lib.hid okr
    clear hb okr
    by_cases hlt : k < n
    · have d1 : decide ((k : Int) < (n : Int)) = true := decide_eq_true (by omega)
      obtain ⟨b, off, rfl, c0, c1⟩ := HI.out.ok HOK.out k (by rw [HN.out]; exact hlt)
      have hf := in1_f s z (rwA l k).key (rwA l k).val wr (HOK.out.cell HZ0.out) (HOK.out.cell HZ1.out)
      have HNX : Hid (hasB s (rwA l k).key = false → ∀ j, j < k + 1 → hasB s (rwA l j).key = false) := Lib.hid fun q j hj => by
        by_cases hjk : j < k
        · exact HB.out j hjk
        · obtain rfl : j = k := by omega
          exact q
      have HFA : Hid (hasB s (rwA l k).key = true → ∃ k' : Nat, k' < n ∧ (k : Int) = (k' : Int) ∧ hasB s (rwA l k').key = true ∧ ∀ j, j < k' → hasB s (rwA l j).key = false) := Lib.hid fun q => ⟨k, hlt, rfl, q, HB.out⟩
      have hi0 : (0 : Int) ≤ (k : Int) := Int.natCast_nonneg _
      have hi1 : (k : Int) < (n : Int) := by omega
      generalize hasB s (rwA l k).key = rb at *
      generalize (rwA l k).key = km at *
      generalize (rwA l k).val = vm at *
      go_wp2_with fail
      refine hf.mono ?_
      clear hf c0 c1
      rintro _ w1 ⟨rfl, o1⟩
      have HO1 := Lib.hid (HOK.out.trans o1)
      clear o1
      cases rb with
      | false =>
        go_wp2_with fail
        refine ⟨⟨k + 1, hlt, rfl, HNX.out (by simp), HO1.out⟩, ?_⟩
        show n - ((k : Int) + 1).toNat < n - (k : Int).toNat
        omega
      | true =>
        go_wp2_with fail
        go_ret
        exact ⟨_, rfl, HO1.out, .inr (HFA.out (by simp))⟩
    · have d1 : decide ((k : Int) < (n : Int)) = false := decide_eq_false (by omega)
      obtain rfl : k = n := by omega
      go_wp2_with fail
      go_ret
      exact ⟨_, rfl, HOK.out, .inl ⟨rfl, HB.out⟩⟩
theorem run_clear_rows (w : World) (ty : TypeId) (g o n c : Nat) (cur : List Value) (t : TypeId) (hn : 0 < n) (hg : w.heap[g]? = some (.cells cur.toArray t (0, 0))) (hfit : o + n * 2 ≤ cur.length) :
    (Builtin.clear_ #[29] ty #[.slice (some ⟨g, o, none⟩) n c]).run Tryz.prog w = .ok (.tuple #[]) (w.setRow g (splice cur o (Builtin.zeroCells (Value.agg #[.string ⟨#[]⟩, .string ⟨#[]⟩]).cells n).toList).toArray) := by
  have hl : (Builtin.zeroCells (Value.agg #[.string ⟨#[]⟩, .string ⟨#[]⟩]).cells n).toList.length = n * 2 := by rw [Array.length_toList]; exact zeros_len n
  have h1 : ∀ v ∈ (Builtin.zeroCells (Value.agg #[.string ⟨#[]⟩, .string ⟨#[]⟩]).cells n).toList, v.oneCell' = true := by
    intro v hv
    rw [Array.mem_toList_iff] at hv
    obtain ⟨i, hi, rfl⟩ := Array.mem_iff_getElem.1 hv
    simp only [Builtin.zeroCells, Value.cells]
    have : i % 2 = 0 ∨ i % 2 = 1 := Nat.mod_two_eq_zero_or_one i
    rcases this with q | q <;> simp [q, Value.oneCell']
  have hst := run_storeCells_at Tryz.prog g o t (Builtin.zeroCells (Value.agg #[.string ⟨#[]⟩, .string ⟨#[]⟩]).cells n).toList 0 cur.toArray w hg (by rw [hl]; simpa using hfit) h1
  obtain ⟨i0, hi, hz0, hz1, hz2⟩ := info_parts info105
  obtain ⟨m, rfl⟩ : ∃ m, n = m + 1 := ⟨n - 1, by omega⟩
  have hz : ∀ w, (zeroValue 48).run Tryz.prog w = .ok (.agg #[.string ⟨#[]⟩, .string ⟨#[]⟩]) w := fun w => by simp [zeroValue, typeInfo, hi, hz0]
  simp [Builtin.clear_, run_underlying Tryz.underlying29, hz, hst, splice]
end Go.Proofs.YtebhcadolnjplaaGreat
namespace Go.Proofs.YtebhcadolnjplaaGreat
open Go.RowKit

def stay (s : Sp) (l : List Rw) : List Rw := l.filter fun r => !hasB s r.key
theorem stay_succ (s : Sp) (l : List Rw) (m : Nat) (h : m < l.length) : stay s (l.take (m + 1)) = stay s (l.take m) ++ if hasB s (rwA l m).key then [] else [rwA l m] := by
  unfold stay
  rw [take_one l m h, List.filter_append]
  congr 1
  cases hq : hasB s (rwA l m).key <;> simp [hq]
theorem stay_all (s : Sp) (l : List Rw) (m : Nat) (hm : m ≤ l.length) (h : ∀ j, j < m → hasB s (rwA l j).key = false) : stay s (l.take m) = l.take m := by
  unfold stay
  rw [List.filter_eq_self]
  intro x hx
  obtain ⟨j, hj, rfl⟩ := (mem_rwA _ _).1 hx
  rw [List.length_take] at hj
  have e : rwA (l.take m) j = rwA l j := by
    unfold rwA
    simp only [List.getD_eq_getElem?_getD]
    rw [List.getElem?_take, if_pos (by omega)]
  rw [e, h j (by omega)]
  rfl
/-- What DeleteFunc leaves. -/
def DelRP (B : Nat) (A : Option Addr) (n c : Nat) (zs : List Rw) (w : World) (e : Ending) (w' : World) : Prop :=
  e = .returned (.slice A zs.length c) ∧ OwnR w' B A zs.length c zs ∧ w.grownBy w' (Value.slice A n c).ownBlock
/-- m have been looked at, k of them kept, ys is what lies there. -/
structure DelR (s : Sp) (l : List Rw) (B g n c m k : Nat) (w wr : World) (ys : List Rw) : Prop where
  le : m ≤ n
  lt : k < m
  len : ys.length = n
  cnt : (stay s (l.take m)).length = k
  low : ys.take k = stay s (l.take m)
  high : ∀ j, k ≤ j → rwA ys j = rwA l j
  own : OwnR wr B (some ⟨g, 0, none⟩) n c ys
  kp : w.grownBy wr (some g)
theorem DelR.ok {s : Sp} {l ys : List Rw} {B g n c m k : Nat} {w wr w' : World} (h : DelR s l B g n c m k w wr ys) (o : Ok wr w') : DelR s l B g n c m k w w' ys :=
  { h with own := h.own.ok o, kp := grown_trans h.kp (grown_ok o) }
theorem DelR.skip {s : Sp} {l ys : List Rw} {B g n c m k : Nat} {w wr : World} (h : DelR s l B g n c m k w wr ys) (hn : l.length = n) (hm : m < n) (hq : hasB s (rwA l m).key = true) : DelR s l B g n c (m + 1) k w wr ys := by
  have e := stay_succ s l m (by omega)
  rw [hq, if_pos rfl, List.append_nil] at e
  exact { h with le := hm, lt := by have := h.lt; omega, cnt := by rw [e]; exact h.cnt, low := by rw [e]; exact h.low }
theorem DelR.keep {s : Sp} {l ys : List Rw} {B g n c m k : Nat} {w wr : World} (h : DelR s l B g n c m k w wr ys) (hn : l.length = n) (hm : m < n) (hq : hasB s (rwA l m).key = false) :
    DelR s l B g n c (m + 1) (k + 1) w ((wr.setCell ⟨g, k * 2, none⟩ (.string (rwA l m).key)).setCell ⟨g, k * 2 + 1, none⟩ (.string (rwA l m).val)) (ys.set k ⟨(rwA l m).key, (rwA l m).val⟩) := by
  have e := stay_succ s l m (by omega)
  rw [hq, if_neg (by decide)] at e
  have hk := h.lt
  have hl := h.len
  refine ⟨hm, by omega, by rw [List.length_set]; exact hl, by rw [e, List.length_append, h.cnt]; rfl, ?_, fun j hj => ?_, h.own.set k _ _, ?_⟩
  · rw [e, ← h.low, List.take_add_one, List.take_set_of_le (Nat.le_refl _)]
    congr 1
    rw [List.getElem?_set_self (by omega)]
    rfl
  · rw [← h.high j (by omega), rwA_set ys k _ (by omega), if_neg (by omega)]
  · refine grown_trans h.kp ⟨rfl, rfl, rfl, by simp, fun j hj hn => ?_⟩
    rw [Below.heap_setCell _ ⟨g, k * 2 + 1, none⟩ _ j (fun q => hn (by rw [q])), Below.heap_setCell _ ⟨g, k * 2, none⟩ _ j (fun q => hn (by rw [q]))]
/-- The first k of them, the rest cleared. -/
theorem OwnR.cut {w : World} {B g n c : Nat} {l : List Rw} (h : OwnR w B (some ⟨g, 0, none⟩) n c l) (k : Nat) (hk : k ≤ n) (cur : List Value) (hg : w.heap[g]? = some (.cells cur.toArray 48 (0, 0))) (zs : List Value) (hz : zs.length = (n - k) * 2) :
    OwnR (w.setRow g (splice cur (k * 2) zs).toArray) B (some ⟨g, 0, none⟩) k c (l.take k) := by
  have hl := h.1
  rcases h.2.2 with ⟨e, _⟩ | ⟨g', cap, cur', e, hb', hg', h1, h2, h3, h4⟩
  · cases e
  simp only [Value.slice.injEq, Option.some.injEq, Addr.mk.injEq] at e
  obtain ⟨⟨rfl, -, -⟩, -, rfl⟩ := e
  rw [hg] at hg'
  simp only [Option.some.injEq, Obj.cells.injEq, and_true] at hg'
  subst hg'
  simp only [List.size_toArray] at h3 h4
  refine ⟨by rw [List.length_take]; omega, by rw [flat2_len, List.length_take]; omega, .inr ⟨g, c, _, rfl, hb', setRow_heap w g _ _ 48 _ hg, by omega, h2, ?_, ?_⟩⟩
  · rw [List.size_toArray, length_splice _ _ _ (by omega)]; exact h3
  · show List.take (k * 2) (splice cur (k * 2) zs) = _
    unfold splice
    rw [List.take_append_of_le_length (by rw [List.length_take]; omega), List.take_take, Nat.min_self, flat2_take l k (by omega), ← h4, List.take_take, Nat.min_eq_left (by omega)]
end Go.Proofs.YtebhcadolnjplaaGreat
namespace Go.Proofs.YtebhcadolnjplaaGreat
open Go.RowKit

theorem stay_len (s : Sp) (l : List Rw) (n : Nat) (hn : l.length = n) : stay s (l.take n) = stay s l := by rw [List.take_of_length_le (by omega)]
set_option maxRecDepth 100000 in
set_option maxHeartbeats 4000000 in
theorem delR_f (s : Sp) (z B : Nat) (A : Option Addr) (n c : Nat) (l : List Rw) (w : World) (hI : OwnR w B A n c l) (hn6 : n ≤ 1000000) (z0 : w.cell? ⟨z, 0, none⟩ = some (.string s.lo)) (z1 : w.cell? ⟨z, 1, none⟩ = some (.string s.hi)) (hz : ∀ a, A = some a → z ≠ a.block) :
    Calls Tryz.prog 94 #[.slice A n c, .func (.func 79) #[] #[.pointer (some ⟨z, 0, none⟩)]] w (DelRP B A n c (stay s l) w) := by
  have hix := idxIn_f s z A n c l w hI.1 hn6 hI.rows z0 z1
  have HI := Lib.hid hI
  have HN := Lib.hid hI.1
  have HZ0 := Lib.hid z0
  have HZ1 := Lib.hid z1
  have HZN := Lib.hid hz
  have hcall := call137
  have HKN := Lib.hid (stay_len s l n hI.1)
  clear hI z0 z1 hz
  go_enter Tryz.func94, Tryz.ntmps94
  go_wp2_with fail
  refine hix.mono ?_
  clear hix
  rintro _ w1 ⟨R, rfl, o1, hx⟩
  have HI1 := Lib.hid (HI.out.ok o1)
  have HO1 := Lib.hid o1
  clear o1 HI
  rcases hx with ⟨rfl, hall⟩ | ⟨k0, hk0, rfl, hq0, hall⟩
  · have HALL := Lib.hid hall
    clear hall
    go_wp2_with fail
    go_ret
    have e : stay s l = l := by rw [← HKN.out, stay_all s l n (by rw [HN.out]; exact Nat.le_refl _) HALL.out, List.take_of_length_le (by rw [HN.out]; exact Nat.le_refl _)]
    rw [e]
    exact ⟨by rw [HN.out]; rfl, by rw [HN.out]; exact HI1.out, grown_ok HO1.out⟩
  · obtain ⟨g, hg⟩ : ∃ g, A = some ⟨g, 0, none⟩ := by
      rcases HI1.out.nc with ⟨_, h0, _⟩ | q
      · omega
      · exact q
    subst hg
    have HD : Hid (DelR s l B g n c (k0 + 1) k0 w w1 l) := Lib.hid (by
      have ek := stay_all s l k0 (by rw [HN.out]; omega) hall
      have es := stay_succ s l k0 (by rw [HN.out]; omega)
      rw [hq0, if_pos rfl, List.append_nil] at es
      exact ⟨hk0, Nat.lt_succ_self _, HN.out, by rw [es, ek, List.length_take, HN.out]; omega, by rw [es, ek], fun _ _ => rfl, HI1.out, grown_ok HO1.out⟩)
    have HF2 : Hid (∀ km vm w', w.grownBy w' (some g) → Calls Tryz.prog 79 #[.agg #[.string km, .string vm], .pointer (some ⟨z, 0, none⟩)] w' (Ret w' (.bool (hasB s km)))) := Lib.hid fun km vm w' k =>
      in1_f s z km vm w' (k.cell HZ0.out (fun e => HZN.out _ rfl (by simpa using e))) (k.cell HZ1.out (fun e => HZN.out _ rfl (by simpa using e)))
    have hne : ((k0 : Int) == -1) = false := beq_eq_false_iff_ne.2 (by omega)
    clear hall hq0 HI1
    go_wp2_with fail
    go_loopw [5, 6, 7] (fun i j _ wr => ∃ (m k : Nat) (ys : List Rw), i = .int .i64 k ∧ j = .int .i64 m ∧ DelR s l B g n c m k w wr ys) (fun _ j _ _ => n - (intOf j).toNat)
    case atStart => exact ⟨k0 + 1, k0, l, rfl, by push_cast; rfl, HD.out⟩
    case round =>
      obtain ⟨m, k, ys, rfl, rfl, hd⟩ := hrel
      have HDR := Lib.hid hd
      have b1 := hd.le
      have b2 := hd.lt
      clear hd
      by_cases hlt : m < n
      · have d1 : decide ((m : Int) < (n : Int)) = true := decide_eq_true (by omega)
        have hcell := HDR.out.own.cell2 m hlt
        rw [HDR.out.high m (by omega)] at hcell
        obtain ⟨x0, x1⟩ := hcell
        have HSK := Lib.hid (fun (w' : World) (o : Ok wr w') => (HDR.out.ok o).skip HN.out hlt)
        have HKE := Lib.hid (fun (w' : World) (o : Ok wr w') => (HDR.out.ok o).keep HN.out hlt)
        have HST : Hid (∀ w' : World, Ok wr w' → (∃ u, w'.cell? ⟨g, k * 2, none⟩ = some u) ∧ (∃ u, w'.cell? ⟨g, k * 2 + 1, none⟩ = some u) ∧ w'.frozen? ⟨g, k * 2, none⟩ = false ∧ w'.frozen? ⟨g, k * 2 + 1, none⟩ = false) := Lib.hid fun w' o =>
          ⟨⟨_, ((HDR.out.ok o).own.cell2 k (by omega)).1⟩, ⟨_, ((HDR.out.ok o).own.cell2 k (by omega)).2⟩, (HDR.out.ok o).own.froz _, (HDR.out.ok o).own.froz _⟩
        obtain ⟨hb, hhb⟩ : ∃ hb, hasB s (rwA l m).key = hb := ⟨_, rfl⟩
        rw [hhb] at HSK HKE
        generalize (rwA l m).key = km at *
        generalize (rwA l m).val = vm at *
        have hi0 : (0 : Int) ≤ (m : Int) := Int.natCast_nonneg _
        have hi1 : (m : Int) < (n : Int) := by omega
        have hk0' : (0 : Int) ≤ (k : Int) := Int.natCast_nonneg _
        have hk1 : (k : Int) < (n : Int) := by omega
        have e1 : IntKind.i64.wrap ((m : Int) + 1) = (m : Int) + 1 := IntWalk.i64_in _ (by omega)
        have e2 : IntKind.i64.wrap ((k : Int) + 1) = (k : Int) + 1 := IntWalk.i64_in _ (by omega)
        obtain ⟨q, hq⟩ : ∃ q, wr.heap.size = q := ⟨_, rfl⟩
        have HQC : Hid ((wr.alloc (.cells #[.string km, .string vm] 48)).cell? ⟨q, 0, none⟩ = some (.string km) ∧ (wr.alloc (.cells #[.string km, .string vm] 48)).cell? ⟨q, 1, none⟩ = some (.string vm)) := Lib.hid (by rw [← hq]; exact two_new wr _ _ _)
        have HZ : Hid (Ok wr (wr.alloc (.cells #[.string km, .string vm] 48))) := Lib.hid ((Ok.refl wr).alloc _)
        have hf := HF2.out km vm _ (grown_trans HDR.out.kp (grown_ok HZ.out))
        rw [hhb] at hf
        clear hhb
        go_upto_region 8 with fail
        clear hq x0 x1
        generalize wr.alloc (.cells #[.string km, .string vm] 48) = w0 at *
        have q0 := HQC.out.1
        have q1 := HQC.out.2
        go_wp2_with fail
        refine hf.mono ?_
        clear hf q0 q1
        rintro _ w2 ⟨rfl, o2⟩
        have HO2 : Hid (Ok wr w2) := Lib.hid (HZ.out.trans o2)
        have q0 := o2.cell HQC.out.1
        have q1 := o2.cell HQC.out.2
        clear o2 HZ HQC
        cases hb with
        | true =>
          have HSK2 := Lib.hid (HSK.out w2 HO2.out rfl)
          go_wp2_with fail
          refine ⟨⟨m + 1, k, ys, rfl, by push_cast; rfl, HSK2.out⟩, ?_⟩
          show n - ((m : Int) + 1).toNat < n - (m : Int).toNat
          omega
        | false =>
          have HKE2 := Lib.hid (HKE.out w2 HO2.out rfl)
          obtain ⟨⟨u0, y0⟩, ⟨u1, y1⟩, f0, f1⟩ := HST.out w2 HO2.out
          go_wp2_with fail
          refine ⟨⟨m + 1, k + 1, _, by push_cast; rfl, by push_cast; rfl, HKE2.out⟩, ?_⟩
          show n - ((m : Int) + 1).toNat < n - (m : Int).toNat
          omega
      · have d1 : decide ((m : Int) < (n : Int)) = false := decide_eq_false (by omega)
        obtain rfl : m = n := by omega
        have hcap : m ≤ c := by
          rcases HDR.out.own.2.2 with ⟨e, _⟩ | ⟨g', cap, cur, e, _, _, h1, _⟩
          · cases e
          · simp only [Value.slice.injEq] at e
            omega
        obtain ⟨cur, hg, hcl0⟩ : ∃ cur : List Value, wr.heap[g]? = some (.cells cur.toArray 48 (0, 0)) ∧ m * 2 ≤ cur.length := by
          rcases HDR.out.own.2.2 with ⟨e, _⟩ | ⟨g', cap, cur, e, _, hg, h1, _, h3, _⟩
          · cases e
          · simp only [Value.slice.injEq, Option.some.injEq, Addr.mk.injEq] at e
            obtain ⟨⟨rfl, -, -⟩, -, rfl⟩ := e
            exact ⟨cur.toList, by simpa using hg, by rw [Array.length_toList, h3]; omega⟩
        have hcl := fun ty => run_clear_rows wr ty g (k * 2) (m - k) (c - k) cur 48 (by omega) hg (by omega)
        have HCUT := Lib.hid (HDR.out.own.cut k (by omega) cur hg (Builtin.zeroCells (Value.agg #[.string ⟨#[]⟩, .string ⟨#[]⟩]).cells (m - k)).toList (by rw [Array.length_toList]; exact zeros_len _))
        clear hg hcl0
        generalize (Builtin.zeroCells (Value.agg #[.string ⟨#[]⟩, .string ⟨#[]⟩]).cells (m - k)).toList = ZZ at *
        have HGR := Lib.hid (grown_setRow wr g (splice cur (k * 2) ZZ).toArray)
        generalize wr.setRow g (splice cur (k * 2) ZZ).toArray = w9 at *
        go_wp2
        go_ret
        rw [← HKN.out]
        refine ⟨by rw [HDR.out.cnt]; rfl, ?_, grown_trans HDR.out.kp HGR.out⟩
        rw [HDR.out.cnt, ← HDR.out.low]
        exact HCUT.out
end Go.Proofs.YtebhcadolnjplaaGreat
