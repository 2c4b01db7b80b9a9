/- Rows: the rows that a span has. -/
import Derived.Test.YtebhcadolnjplaaSf
namespace Go.Proofs.Ytebhcadolnjplaa
open Go.RowKit

theorem call137 (args : Array Value) (w : World) : (callFunc 137 args).run Try.prog w = .ok (.enter 137 args) w := by
  have hn : ¬ Try.f137.name = "runtime.NumGoroutine" := by decide
  have hb : ¬ Try.f137.body = none := fun h => by
    have h2 : Try.f137.body.isNone = false := by kernel_rfl
    rw [h] at h2; cases h2
  simp [callFunc, go_sem, hn, hb]
theorem in1_f (s : Sp) (z : Nat) (km vm : Str) (w : World) (c0 : w.cell? ⟨z, 0, none⟩ = some (.string s.lo)) (c1 : w.cell? ⟨z, 1, none⟩ = some (.string s.hi)) :
    Calls Try.prog 137 #[.agg #[.string km, .string vm], .pointer (some ⟨z, 0, none⟩)] w (Ret w (.bool (hasB s km))) := by
  obtain ⟨q, hq⟩ : ∃ q, w.heap.size = q := ⟨_, rfl⟩
  have HO : Hid (Ok w (w.alloc (.cells #[.string km, .string vm] 105))) := Lib.hid ((Ok.refl w).alloc _)
  have HC : Hid ((w.alloc (.cells #[.string km, .string vm] 105)).cell? ⟨q, 0, none⟩ = some (.string km)) := Lib.hid (by rw [← hq]; exact (two_new w _ _ _).1)
  have HC0 := Lib.hid c0
  have HC1 := Lib.hid c1
  clear c0 c1
  go_enter Try.func137, Try.ntmps137
  go_upto_region 1 with fail
  clear hq
  generalize w.alloc (.cells #[.string km, .string vm] 105) = w0 at *
  have c0 := HO.out.cell HC0.out
  have c1 := HO.out.cell HC1.out
  have k0 := HC.out
  have hh := has_w s km w0
  unfold spV at hh
  go_wp2_with fail
  refine hh.mono ?_
  clear hh c0 c1 k0
  rintro _ w1 ⟨rfl, o1⟩
  have HO1 := Lib.hid (HO.out.trans o1)
  clear o1
  go_wp2_with fail
  go_ret
  exact ⟨rfl, HO1.out⟩
def InP (s : Sp) (W : World) (e : Ending) (w' : World) : Prop := ∃ z, e = .returned (.func (.func 137) #[] #[.pointer (some ⟨z, 0, none⟩)]) ∧ w'.cell? ⟨z, 0, none⟩ = some (.string s.lo) ∧ w'.cell? ⟨z, 1, none⟩ = some (.string s.hi) ∧ Ok W w' ∧ W.heap.size ≤ z
theorem in_f (s : Sp) (W : World) : Calls Try.prog 87 #[spV s] W (InP s W) := by
  have HO : Hid (Ok W (W.alloc (.cells #[.string s.lo, .string s.hi] 91))) := Lib.hid ((Ok.refl W).alloc _)
  have HC := Lib.hid (two_new W (.string s.lo) (.string s.hi) 91)
  unfold spV
  go_enter Try.func87, Try.ntmps87
  go_wp2_with fail
  go_ret
  exact ⟨W.heap.size, rfl, HC.out.1, HC.out.2, HO.out, Nat.le_refl _⟩
/-- A list of the call's own. -/
def ListP (l : List Rw) (W : World) (e : Ending) (w' : World) : Prop := ∃ A n c, e = .returned (.slice A n c) ∧ OwnR w' W.heap.size A n c l ∧ Ok W w'
def meant (s : Sp) (l : List Rw) : List Rw := l.filter fun r => hasB s r.key
theorem meant_take (s : Sp) (l : List Rw) (k : Nat) (h : k < l.length) : meant s (l.take (k + 1)) = meant s (l.take k) ++ if hasB s (rwA l k).key then [rwA l k] else [] := by
  unfold meant
  rw [take_one l k h, List.filter_append]
  congr 1
  cases hq : hasB s (rwA l k).key <;> simp [hq]
theorem meant_le (s : Sp) (l : List Rw) (k : Nat) : (meant s (l.take k)).length ≤ k := Nat.le_trans (List.length_filter_le _ _) (by rw [List.length_take]; omega)
set_option maxRecDepth 100000 in
set_option maxHeartbeats 4000000 in
theorem each_f (p : Nat) (A : Option Addr) (n c : Nat) (l : List Rw) (s : Sp) (z : Nat) (W : World) (h : TabAt p A n c l W) (hn : n ≤ 1000) (z0 : W.cell? ⟨z, 0, none⟩ = some (.string s.lo)) (z1 : W.cell? ⟨z, 1, none⟩ = some (.string s.hi)) :
    Calls Try.prog 86 #[.pointer (some ⟨p, 0, none⟩), .func (.func 137) #[] #[.pointer (some ⟨z, 0, none⟩)]] W (ListP (meant s l) W) := by
  have c0 := h.c0
  have HI := Lib.hid h.own.rows
  have HL := Lib.hid h.own.1
  have HZ0 := Lib.hid z0
  have HZ1 := Lib.hid z1
  have HN := Lib.hid hn
  have hcall := call137
  clear h z0 z1 hn
  go_enter Try.func86, Try.ntmps86
  go_wp2_with fail
  go_loopw [5, 13] (fun v5 v13 wr => ∃ (k : Nat) (A1 : Option Addr) (n1 c1 : Nat), k ≤ n ∧ v13 = .int .i64 k ∧ v5 = .slice A1 n1 c1 ∧ OwnR wr W.heap.size A1 n1 c1 (meant s (l.take k)) ∧ Ok W wr) (fun _ v _ => n - (intOf v).toNat)
  case atStart => exact ⟨0, none, 0, 0, Nat.zero_le _, rfl, rfl, ⟨rfl, World.ownsRow_nil _ _ _ _⟩, Ok.refl _⟩
  case round =>
    obtain ⟨k, A1, n1, c1, hk, rfl, rfl, hown, okr⟩ := hrel
    have HOWN := Lib.hid hown
    have HOK := Lib.hid okr
    clear hown okr
    by_cases hlt : k < n
    · have d1 : decide ((k : Int) < (n : Int)) = true := decide_eq_true (by omega)
      have HMT := Lib.hid (meant_take s l k (by rw [HL.out]; exact hlt))
      have HN1 : Hid (n1 + 1 ≤ 1000000) := Lib.hid (by
        have := meant_le s l k
        rw [HOWN.out.1] at this
        have := HN.out; omega)
      have HRW : Hid (rwA l k = ⟨(rwA l k).key, (rwA l k).val⟩) := Lib.hid rfl
      obtain ⟨b, off, rfl, x0, x1⟩ := HI.out.ok HOK.out k (by rw [HL.out]; exact hlt)
      generalize (rwA l k).key = km at *
      generalize (rwA l k).val = vm at *
      have hi0 : (0 : Int) ≤ (k : Int) := Int.natCast_nonneg _
      have hi1 : (k : Int) < (n : Int) := by omega
      obtain ⟨q, hq⟩ : ∃ q, wr.heap.size = q := ⟨_, rfl⟩
      have HQC : Hid ((wr.alloc (.cells #[.string km, .string vm] 105)).cell? ⟨q, 0, none⟩ = some (.string km) ∧ (wr.alloc (.cells #[.string km, .string vm] 105)).cell? ⟨q, 1, none⟩ = some (.string vm)) := Lib.hid (by rw [← hq]; exact two_new wr _ _ _)
      have HZ : Hid (Ok wr (wr.alloc (.cells #[.string km, .string vm] 105))) := Lib.hid ((Ok.refl wr).alloc _)
      go_upto_region 5 with fail
      clear hq x0 x1
      generalize wr.alloc (.cells #[.string km, .string vm] 105) = w0 at *
      have q0 := HQC.out.1
      have q1 := HQC.out.2
      have hf := in1_f s z km vm w0 ((HOK.out.trans HZ.out).cell HZ0.out) ((HOK.out.trans HZ.out).cell HZ1.out)
      obtain ⟨hb, hhb⟩ : ∃ hb, hasB s km = hb := ⟨_, rfl⟩
      rw [hhb] at hf HMT
      clear hhb
      go_wp2_with fail
      refine hf.mono ?_
      clear hf q0 q1
      rintro _ w1 ⟨rfl, o1⟩
      have q0 := o1.cell HQC.out.1
      have q1 := o1.cell HQC.out.2
      have HOW : Hid (OwnR w1 W.heap.size A1 n1 c1 (meant s (l.take k))) := Lib.hid (HOWN.out.ok (HZ.out.trans o1))
      have HO1 : Hid (Ok W w1) := Lib.hid (HOK.out.trans (HZ.out.trans o1))
      clear o1 HQC HZ
      have e1 : IntKind.i64.wrap ((k : Int) + 1) = (k : Int) + 1 := IntWalk.i64_in _ (by have := HN.out; omega)
      have HLT : Hid (n - ((k : Int) + 1).toNat < n - (k : Int).toNat) := Lib.hid (by omega)
      cases hb with
      | true =>
        have HOA : Hid (Ok w1 (w1.alloc (.cells #[.string km, .string vm] 105))) := Lib.hid ((Ok.refl w1).alloc _)
        have HVB : Hid (RowsIn (w1.alloc (.cells #[.string km, .string vm] 105)) (some ⟨w1.heap.size, 0, none⟩) [⟨km, vm⟩]) := Lib.hid (RowsIn.one _ _ ⟨km, vm⟩ (heap_alloc_new w1 _))
        go_wp2_with (at_builtin; go_must (refine wpList_appRows rfl (.tmp 20) (.tmp 22) rfl W.heap.size A1 n1 c1 (meant s (l.take k)) rfl (HOW.out.ok HOA.out) w1.heap.size 0 1 1 [⟨km, vm⟩] rfl rfl HVB.out HN1.out (Nat.le_trans HO1.out.size HOA.out.size) ?_; intro A' c' w2 hown2 hg2; have HOWN2 := Lib.hid hown2; have HG2 := Lib.hid hg2; clear hown2 hg2))
        refine ⟨⟨k + 1, A', n1 + 1, c', hlt, rfl, rfl, ?_, ?_⟩, HLT.out⟩
        · rw [HMT.out, HRW.out]; exact HOWN2.out
        · exact Below.grown (HO1.out.trans HOA.out) HG2.out (Nat.le_trans HO1.out.size HOA.out.size) (fun j e => (HOW.out.2.lt j e).1)
      | false =>
        go_wp2_with fail
        exact ⟨⟨k + 1, A1, n1, c1, hlt, rfl, rfl, by rw [HMT.out]; simpa using HOW.out, HO1.out⟩, HLT.out⟩
    · have d1 : decide ((k : Int) < (n : Int)) = false := decide_eq_false (by omega)
      obtain rfl : k = n := by omega
      go_wp2_with fail
      go_ret
      exact ⟨A1, n1, c1, rfl, by have := HOWN.out; rwa [List.take_of_length_le (by rw [HL.out]; exact Nat.le_refl _)] at this, HOK.out⟩
end Go.Proofs.Ytebhcadolnjplaa
