/- Disks: the calls that only read. -/
import Derived.Test.YtfchjdhjbepocaaRows
import Derived.Test.YtfchjdhjbepocaaMh
import Derived.Handy
import Derived.Deep.RegionHeld3
import Derived.Deep.DeepCutAuto
import Derived.IntWalk
namespace Go.Proofs.Ytfchjdhjbepocaa
open Go Go.RowKit

theorem info5 : (Try.prog.info? 5).map (fun i => (i.zero, i.size, i.bytes)) = some (some (.int .u8 0), 1, 1) := by kernel_rfl
theorem info105 : (Try.prog.info? 105).map (fun i => (i.zero, i.size, i.bytes)) = some (some (.agg #[.string ⟨#[]⟩, .int .i64 0]), 2, 24) := by kernel_rfl
theorem info48 : (Try.prog.info? 48).map (fun i => (i.zero, i.size, i.bytes)) = some (some (.slice none 0 0), 1, 24) := by kernel_rfl
theorem info3 : (Try.prog.info? 3).map (fun i => (i.zero, i.size, i.bytes)) = some (some (.int .i64 0), 1, 8) := by kernel_rfl
theorem zero48 (w : World) : (zeroValue 48).run Try.prog w = .ok (.slice none 0 0) w := by
  obtain ⟨i0, hi, hz0, -, -⟩ := info_parts info48
  simp [zeroValue, typeInfo, hi, hz0]
theorem zero3 (w : World) : (zeroValue 3).run Try.prog w = .ok (.int .i64 0) w := by
  obtain ⟨i0, hi, hz0, -, -⟩ := info_parts info3
  simp [zeroValue, typeInfo, hi, hz0]
theorem eq_map (mb : Nat) (w : World) : (binOp .eql 55 (.map (some mb)) (.map none)).run Try.prog w = .ok (.bool false) w := by
  have h : ∀ d, (Op.equalIn (d + 1) 55 (.map (some mb)) (.map none)).run Try.prog w = .ok false w := fun d => by simp [Op.equalIn, run_underlying Try.underlying55]
  have h2 : (Op.equal 55 (.map (some mb)) (.map none)).run Try.prog w = .ok false w := h 9999
  simp [binOp, h2, Result.andThen]
set_option maxRecDepth 100000 in
set_option maxHeartbeats 1000000 in
theorem none_f (p mb : Nat) (w : World) (c2 : w.cell? ⟨p, 2, none⟩ = some (.map (some mb))) : Calls Try.prog 50 #[.pointer (some ⟨p, 0, none⟩)] w fun e w' => e = .returned (.bool false) ∧ w = w' := by
  have hq := eq_map mb w
  go_enter Try.func50, Try.ntmps50
  go_wp2_with fail
  go_ret
  exact ⟨rfl, rfl⟩
/-- A name of a file. -/
def namedB (k : Str) : Bool := decide (1 ≤ k.size) && decide (k.size ≤ 40)
set_option maxRecDepth 100000 in
set_option maxHeartbeats 1000000 in
theorem named_f (k : Str) (w : World) : Calls Try.prog 72 #[.string k] w fun e w' => e = .returned (.bool (namedB k)) ∧ w = w' := by
  by_cases h1 : (1 : Int) ≤ (k.size : Int)
  · by_cases h2 : (k.size : Int) ≤ 40
    · have e : namedB k = true := by unfold namedB; rw [decide_eq_true (by omega), decide_eq_true (by omega)]; rfl
      rw [e]
      go_enter Try.func72, Try.ntmps72
      go_wp2_with fail
      go_ret
      exact ⟨rfl, rfl⟩
    · have e : namedB k = false := by unfold namedB; rw [decide_eq_false (by omega : ¬ k.size ≤ 40), Bool.and_false]
      rw [e]
      go_enter Try.func72, Try.ntmps72
      go_wp2_with fail
      go_ret
      exact ⟨rfl, rfl⟩
  · have e : namedB k = false := by unfold namedB; rw [decide_eq_false (by omega : ¬ 1 ≤ k.size), Bool.false_and]
    rw [e]
    go_enter Try.func72, Try.ntmps72
    go_wp2_with fail
    go_ret
    exact ⟨rfl, rfl⟩
theorem Ok.grow {w wr w2 : World} {r : Nat} (h : Ok w wr) (k : wr.grownBy w2 (some r)) (hr : w.heap.size ≤ r) : Ok w w2 :=
  ⟨k.os.trans h.os, k.tape.trans h.tape, k.output.trans h.output, Nat.le_trans h.size k.size, fun j hj => (k.block j (Nat.lt_of_lt_of_le hj h.size) (fun e => by cases e; omega)).trans (h.block j hj)⟩
theorem RangeV.left {w : World} {r b : Nat} {l todo : Tb Value} (h : RangeV w r b l todo) : w.rangeLeft b r = todo.length := by
  obtain ⟨ho, es, clock, seen, last, hb, he, h1, h2, hr, hcl, ht⟩ := h
  unfold World.rangeLeft
  rw [hb, hr]
  have := congrArg List.length ht
  simpa using this
theorem wrap_add (a b : Nat) (h : a + b ≤ 1000000000000) : IntKind.i64.wrap ((a : Int) + (b : Int)) = ((a + b : Nat) : Int) := by
  rw [IntWalk.i64_in _ (by omega)]; push_cast; rfl
theorem used_mid {l A B : Tb (List B8)} {p : Str × List B8} (h : l = A ++ p :: B) : used l = used (A ++ B) + p.2.length := by
  subst h
  simp only [used, List.map_append, List.map_cons, List.sum_append, List.sum_cons]
  omega
/-- How many bytes the slices of a map have. -/
def lens (vs : Tb Sl) : Nat := (vs.map fun q => q.2.n).sum
theorem lens_used {w : World} : ∀ {vs : Tb Sl} {fs : Tb (List B8)}, All2 (FileR w) vs fs → lens vs = used fs
  | [], [], _ => rfl
  | p :: vs, q :: fs, h => by
    obtain ⟨s, e, hn⟩ := h.1.2.form
    have : p.2.n = q.2.length := by
      simp only [Sl.v, Value.slice.injEq] at e
      rw [e.2.1, hn]
    have ih := lens_used h.2
    simp only [lens, used, List.map_cons, List.sum_cons] at ih ⊢
    omega
  | [], _ :: _, h => h.elim
  | _ :: _, [], h => h.elim
theorem mvs_mid {vs : Tb Sl} {A B : Tb Value} {p : Str × Value} (h : mvs vs = A ++ p :: B) : ∃ (A' B' : Tb Sl) (s : Sl), vs = A' ++ (p.1, s) :: B' ∧ A = mvs A' ∧ B = mvs B' ∧ p.2 = s.v := by
  unfold mvs at h
  obtain ⟨A', R, rfl, h1, h2⟩ := List.map_eq_append_iff.1 h
  cases R with
  | nil => cases h2
  | cons q B' =>
    simp only [List.map_cons, List.cons.injEq] at h2
    obtain ⟨rfl, rfl⟩ := h2
    exact ⟨A', B', q.2, rfl, h1.symm, rfl, rfl⟩
theorem lens_mid (A B : Tb Sl) (k : Str) (s : Sl) : lens (A ++ (k, s) :: B) = lens (A ++ B) + s.n := by
  simp only [lens, List.map_append, List.map_cons, List.sum_append, List.sum_cons]
  omega
theorem mvs_app (A B : Tb Sl) : mvs A ++ mvs B = mvs (A ++ B) := by simp [mvs]
set_option maxRecDepth 100000 in
set_option maxHeartbeats 2000000 in
theorem used_f (p : Nat) (D : Dk) (pv : Sl) (mb : Nat) (vs : Tb Sl) (w : World) (h : DkAt p D pv mb vs w) (hu : used D.fs ≤ 100000000) : Calls Try.prog 73 #[.pointer (some ⟨p, 0, none⟩)] w (Ret w (.int .i64 (used D.fs : Int))) := by
  have c2 := h.c2
  have HM := Lib.hid h.mp
  have HL := Lib.hid (lens_used h.fs.each)
  have HU := Lib.hid hu
  generalize used D.fs = N at *
  clear h hu
  go_enter Try.func73, Try.ntmps73
  go_wp2_with (at_range; go_must (refine wpList_map_range rfl (.tmp 9) 55 rfl Try.underlying55 mb (mvs vs) rfl HM.out ?_; intro w1 hr1 hg1 hs1; have HR1 := Lib.hid hr1; have HO1 : Hid (Ok w w1) := Lib.hid (ok_grown hg1 (fun j e => by cases e)); clear hr1 hg1 hs1))
  obtain ⟨r, hr⟩ : ∃ r, w.heap.size = r := ⟨_, rfl⟩
  rw [hr] at HR1 ⊢
  have HRW : Hid (w.heap.size ≤ r) := Lib.hid (by omega)
  clear hr
  go_frame
  go_loopw [3, 5] (fun n _ wr => ∃ todo : Tb Sl, n = .int .i64 ((N - lens todo : Nat) : Int) ∧ lens todo ≤ N ∧ RangeV wr r mb (mvs vs) (mvs todo) ∧ Ok w wr) (fun _ _ wr => wr.rangeLeft mb r)
  case atStart => exact ⟨vs, by rw [HL.out]; simp, by rw [HL.out]; exact Nat.le_refl _, HR1.out, HO1.out⟩
  case round =>
    obtain ⟨todo, rfl, hle, hrv, okr⟩ := hrel
    have HRV := Lib.hid hrv
    have HOK := Lib.hid okr
    have HLE := Lib.hid hle
    clear hrv okr hle HR1 HO1
    obtain ⟨m, hm⟩ : ∃ m, N - lens todo = m := ⟨_, rfl⟩
    rw [hm]
    have HMM := Lib.hid hm
    clear hm
    go_wp2_with (at_next; refine wpList_map_next rfl (.tmp 10) rfl r mb (mvs vs) (mvs todo) rfl HRV.out ?_ ?_)
    · intro h0
      have h1 : todo = [] := List.map_eq_nil_iff.1 h0
      have HN : Hid (m = N) := Lib.hid (by have := HMM.out; rw [h1] at this; simpa [lens] using this.symm)
      clear h0 h1
      obtain rfl := HN.out
      go_wp2_with fail
      go_ret
      exact ⟨rfl, HOK.out⟩
    · intro A B qk qv w2 ht hrv2 hg2 hs2 hen
      obtain ⟨A', B', s, e1, rfl, rfl, e2⟩ := mvs_mid ht
      have HLN : Hid (lens todo = lens (A' ++ B') + s.n) := Lib.hid (by rw [e1, lens_mid])
      have HRV2 : Hid (RangeV w2 r mb (mvs vs) (mvs (A' ++ B'))) := Lib.hid (by rw [← mvs_app]; exact hrv2)
      have HO2 : Hid (Ok w w2) := Lib.hid (HOK.out.grow hg2 HRW.out)
      have HMT : Hid (w2.rangeLeft mb r < wr.rangeLeft mb r) := Lib.hid (by rw [HRV2.out.left, HRV.out.left, e1]; simp [mvs])
      simp only at e2
      subst e2
      have hw : IntKind.i64.wrap ((m : Int) + (s.n : Int)) = ((m + s.n : Nat) : Int) := wrap_add m s.n (by have := HLN.out; have := HLE.out; have := HU.out; have := HMM.out; omega)
      have HRL : Hid (m + s.n = N - lens (A' ++ B') ∧ lens (A' ++ B') ≤ N) := Lib.hid (by have := HLN.out; have := HLE.out; have := HMM.out; omega)
      clear ht hrv2 hg2 hs2 e1
      unfold Sl.v at hen
      go_wp2_with fail
      exact ⟨⟨A' ++ B', by rw [← HRL.out.1]; push_cast; rfl, HRL.out.2, HRV2.out, HO2.out⟩, HMT.out⟩
theorem many_take (l : List Pc) (k : Nat) (h : k < l.length) : many (l.take (k + 1)) = many (l.take k) + (pcA l k).2 := by
  rw [take_one l k h, many_append, many_cons]; rfl
theorem many_take_le (l : List Pc) (k : Nat) : many (l.take k) ≤ many l := by
  have := many_append (l.take k) (l.drop k)
  rw [List.take_append_drop] at this
  omega
theorem ofP_take (l : List Pc) (q : Str) (k : Nat) (h : k < l.length) : ofP (l.take (k + 1)) q = ofP (l.take k) q + if (pcA l k).1 = q then (pcA l k).2 else 0 := by
  rw [take_one l k h, ofP_append, ofP_cons]; rfl
theorem take_all (l : List Pc) (n : Nat) (h : l.length = n) : l.take n = l := List.take_of_length_le (by omega)
theorem OwnQ.at {w : World} {A : Option Addr} {n c : Nat} {l : List Pc} (h : OwnQ w A n c l) (j : Nat) (hj : j < n) : ∃ g, A = some ⟨g, 0, none⟩ ∧ w.cell? ⟨g, j * 2, none⟩ = some (.string (pcA l j).1) ∧ w.cell? ⟨g, j * 2 + 1, none⟩ = some (.int .i64 ((pcA l j).2 : Int)) := by
  rcases h.nc with ⟨_, q, _⟩ | ⟨g, rfl⟩
  · omega
  · exact ⟨g, rfl, h.cell2 j hj⟩
set_option maxRecDepth 100000 in
set_option maxHeartbeats 2000000 in
theorem many_f (p : Nat) (A : Option Addr) (n c : Nat) (l : List Pc) (w : World) (c0 : w.cell? ⟨p, 0, none⟩ = some (.slice A n c)) (h : OwnQ w A n c l) (hn : n ≤ 1000000) (hm : many l ≤ 1000000000) :
    Calls Try.prog 71 #[.pointer (some ⟨p, 0, none⟩)] w (Ret w (.int .i64 (many l : Int))) := by
  have HI := Lib.hid h
  have HL := Lib.hid h.1
  have HN := Lib.hid hn
  have HM := Lib.hid hm
  clear h hn hm
  go_enter Try.func71, Try.ntmps71
  go_wp2_with fail
  go_loopw [3, 11] (fun v i wr => ∃ k : Nat, k ≤ n ∧ i = .int .i64 (k : Int) ∧ v = .int .i64 ((many (l.take k) : Nat) : Int) ∧ Ok w wr) (fun _ i _ => n - (intOf i).toNat)
  case atStart => exact ⟨0, Nat.zero_le _, rfl, rfl, Ok.refl _⟩
  case round =>
    obtain ⟨k, hk, rfl, rfl, okr⟩ := hrel
    have HOK := Lib.hid okr
    clear okr
    by_cases hlt : k < n
    · have d1 : decide (k < n) = true := decide_eq_true hlt
      obtain ⟨g, rfl, x0, x1⟩ := (HI.out.ok HOK.out).at k hlt
      have HMT := Lib.hid (many_take l k (by rw [HL.out]; exact hlt))
      have HML := Lib.hid (many_take_le l (k + 1))
      have hi0 : (0 : Int) ≤ (k : Int) := Int.natCast_nonneg _
      have hi1 : (k : Int) < (n : Int) := by omega
      obtain ⟨m, hm⟩ : ∃ m, many (l.take k) = m := ⟨_, rfl⟩
      rw [hm] at HMT ⊢
      generalize (pcA l k).1 = km at *
      generalize (pcA l k).2 = vm at *
      have HOA : Hid (Ok wr (wr.alloc (.cells #[.string km, .int .i64 (vm : Int)] 105))) := Lib.hid ((Ok.refl wr).alloc _)
      obtain ⟨q, hq⟩ : ∃ q, wr.heap.size = q := ⟨_, rfl⟩
      have HQC : Hid ((wr.alloc (.cells #[.string km, .int .i64 (vm : Int)] 105)).cell? ⟨q, 0, none⟩ = some (.string km) ∧ (wr.alloc (.cells #[.string km, .int .i64 (vm : Int)] 105)).cell? ⟨q, 1, none⟩ = some (.int .i64 (vm : Int))) := Lib.hid (by rw [← hq]; exact two_new wr _ _ _)
      have e1 : IntKind.i64.wrap ((k : Int) + 1) = (k : Int) + 1 := IntWalk.i64_in _ (by have := HN.out; omega)
      have e2 : IntKind.i64.wrap ((m : Int) + (vm : Int)) = (m : Int) + (vm : Int) := IntWalk.i64_in _ (by have := HM.out; have := HML.out; have := HMT.out; omega)
      have HMS : Hid (n - ((k : Int) + 1).toNat < n - (k : Int).toNat) := Lib.hid (by omega)
      clear hm
      go_upto_region 5 with fail
      clear hq x0 x1
      generalize wr.alloc (.cells #[.string km, .int .i64 (vm : Int)] 105) = w0 at *
      have q0 := HQC.out.1
      have q1 := HQC.out.2
      go_wp2_with fail
      exact ⟨⟨k + 1, hlt, rfl, by rw [HMT.out]; rfl, HOK.out.trans HOA.out⟩, HMS.out⟩
    · have d1 : decide (k < n) = false := decide_eq_false hlt
      obtain rfl : k = n := by omega
      have HT := Lib.hid (take_all l k HL.out)
      rw [HT.out]
      go_wp2_with fail
      go_ret
      exact ⟨rfl, HOK.out⟩
end Go.Proofs.Ytfchjdhjbepocaa
