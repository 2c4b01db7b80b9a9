/- Bytes, frames compared; too many frames: walked. -/
import Derived.Test.YtpebnlddmjfomaaDoorFk
namespace Go.Proofs.YtpebnlddmjfomaaDoor
open Go.RowKit
theorem same_cells {w : World} {v : Value} {xs : List B8} {A : Option Addr} {n c : Nat} (h : BytesIn w v xs) (hv : v = .slice A n c) (i : Nat) (hi : i < n) : n = xs.length ∧ ∃ b o, A = some ⟨b, o, none⟩ ∧ w.cell? ⟨b, o + i, none⟩ = some (.int .u8 (ub (xs.getD i 0#8))) := by
  rcases h with ⟨rfl, A', c', rfl, _⟩ | ⟨b, o, c', rfl, _, _, hc⟩
  · simp only [Value.slice.injEq] at hv; omega
  · simp only [Value.slice.injEq] at hv
    obtain ⟨rfl, rfl, rfl⟩ := hv
    exact ⟨rfl, b, o, rfl, hc i hi⟩

set_option maxRecDepth 100000 in
set_option maxHeartbeats 1000000 in
theorem sameBytes_v (va vb : Value) (xs : List B8) (W : World) (ha : BytesIn W va xs) (hb : BytesIn W vb xs) :
    Calls Tryd.prog 15 #[va, vb] W fun e w' => e = .returned (.bool true) ∧ Ok W w' := by
  obtain ⟨A, ca, rfl, hm⟩ := ha.form
  obtain ⟨B, cb, rfl, _⟩ := hb.form
  have HA := Lib.hid ha
  have HB := Lib.hid hb
  clear ha hb
  generalize hn : xs.length = n at *
  have HN := Lib.hid hn
  clear hn
  have hne : ((n : Int) != n) = false := by simp
  go_enter Tryd.func15, Tryd.ntmps15
  go_wp2_with fail
  go_loopw [5] (fun i wr => ∃ k : Nat, k ≤ n ∧ i = .int .i64 k ∧ Ok W wr) (fun i _ => n - (intOf i).toNat)
  case atStart => exact ⟨0, Nat.zero_le _, rfl, Ok.refl _⟩
  case round =>
    obtain ⟨k, hk, rfl, hok⟩ := hrel
    by_cases hlt : k < n
    · obtain ⟨_, b, o, rfl, hc⟩ := same_cells HA.out rfl k hlt
      obtain ⟨_, b', o', rfl, hc'⟩ := same_cells HB.out rfl k hlt
      have hx := hok.cell hc
      have hy := hok.cell hc'
      have HO := Lib.hid hok
      clear hc hc' hok
      generalize xs.getD k 0#8 = y at *
      have hi0 : (0 : Int) ≤ (k : Int) := Int.natCast_nonneg _
      have hi1 : (k : Int) < (n : Int) := by omega
      go_wp2_with fail
      go_quiet (fail)
      go_wp2_with fail
      go_roundw
      case rel => exact ⟨k + 1, by omega, by go_num, HO.out.drewN _⟩
      case measure => simp [intOf]; omega
    · have hke : k = n := by omega
      subst hke
      have HO := Lib.hid hok
      clear hok
      go_wp2_with fail
      go_ret
      exact ⟨rfl, HO.out⟩
structure HeldU (p : Prop) : Prop where
  out : p
theorem hqU_step {P : Program} {ops : Array Oper} {C : World → Prop} {Q : Act → Prop} {a : Act} {o : Oper} {rest : List Oper}
    (h : ∀ K : Act → Prop, (∀ a, HeldU (wpQuiet P ops C Q rest a) → K a) → if Region.wanted o (yielded ops a.tmps) then o.quiet P a C K else K (a.put o.dst undef)) : HeldU (wpQuiet P ops C Q (o :: rest) a) :=
  ⟨h (fun a => wpQuiet P ops C Q rest a) (fun _ h => h.out)⟩
set_option maxRecDepth 100000 in
set_option maxHeartbeats 4000000 in
theorem equal_w (A B : Option Addr) (n c d : Nat) (l : List Fr) (hn : l.length = n) (hn6 : n ≤ 1000000) (w : World) (hA : FramesAt w A l) (hB : FramesAt w B l) :
    Calls Tryd.prog 20 #[.slice A n c, .slice B n d] w (Ret w (.bool true)) := by
  have HA := Lib.hid hA
  have HB := Lib.hid hB
  have HN := Lib.hid hn
  clear hA hB hn
  have hne : ((n : Int) != n) = false := by simp
  go_enter Tryd.func20, Tryd.ntmps20
  go_wp2_with fail
  go_loopw [5] (fun i wr => ∃ k : Nat, k ≤ n ∧ i = .int .i64 k ∧ Ok w wr) (fun i _ => n - (intOf i).toNat)
  case atStart => exact ⟨0, Nat.zero_le _, rfl, Ok.refl _⟩
  case round =>
    obtain ⟨k, hk, rfl, okr⟩ := hrel
    have HO := Lib.hid okr
    clear okr
    by_cases hlt : k < n
    · have d1 : decide ((k : Int) < (n : Int)) = true := decide_eq_true (by omega)
      obtain ⟨b, off, rfl, C0, v, C1, hv⟩ := HA.out.ok HO.out k (by rw [HN.out]; exact hlt)
      obtain ⟨b', off', rfl, C0', v', C1', hv'⟩ := HB.out.ok HO.out k (by rw [HN.out]; exact hlt)
      have q15 : ∀ d os, Calls Tryd.prog 15 #[v, v'] (Go.Sort.grow (redrawn wr d) os) fun e w'' => e = .returned (.bool true) ∧ ∃ q : Regrown, w'' = Go.Sort.grow (redrawn wr q.d) q.os := fun d os => Calls.regrown_of (sameBytes_v v v' _ _ (Ok.bytes (below_regrown wr d os) hv) (Ok.bytes (below_regrown wr d os) hv'))
      obtain ⟨A1, c1, rfl, -⟩ := hv.form
      obtain ⟨A2, c2, rfl, -⟩ := hv'.form
      have k0 := cell_regrown C0
      have k1 := cell_regrown C1
      have k0' := cell_regrown C0'
      have k1' := cell_regrown C1'
      generalize (atF l k).data.length = m at *
      generalize (atF l k).kind = kd at *
      clear hv hv' C0 C1 C0' C1'
      have hi0 : (0 : Int) ≤ (k : Int) := Int.natCast_nonneg _
      have hi1 : (k : Int) < (n : Int) := by omega
      go_wp2_with fail
      refine wp_region_quiet_below (by kernel_rfl) (by kernel_rfl) ?_
      refine HeldU.out ?_
      repeat (
        refine hqU_step (fun K hK => ?_)
        go_simp
        first
          | (refine hK _ ?_; clear hK K)
          | (apply Exists.intro
             refine ⟨fun _ => ?_, hK _ ?_⟩
             (with_reducible first
               | exact q15 _ _)
             clear hK K))
      refine HeldU.mk (wpQuiet_nil ?_)
      intro _ hw'
      obtain ⟨⟨dq, osq⟩, hw''⟩ := hw'
      subst hw''
      have HO2 := Lib.hid (Ok.trans HO.out (below_regrown wr dq osq))
      clear q15 k0 k1 k0' k1'
      generalize Go.Sort.grow (redrawn wr dq) osq = w2 at *
      go_wp2_with fail
      refine ⟨⟨k + 1, hlt, by go_num, HO2.out⟩, by simp [intOf]; omega⟩
    · have d1 : decide ((k : Int) < (n : Int)) = false := decide_eq_false (by omega)
      go_wp2_with fail
      go_ret
      exact ⟨rfl, HO.out⟩
def sumD (l : List Fr) : Nat := (l.map fun f => f.data.length).sum
theorem putL_len : ∀ l : List Fr, (putL l).length = 9 * l.length + sumD l
  | [] => rfl
  | f :: l => by
    rw [putL_cons, List.length_append, bytesF_len, List.length_cons, putL_len l]
    simp only [sumD, List.map_cons, List.sum_cons]
    omega
theorem sumD_take (l : List Fr) (k : Nat) (h : k < l.length) : sumD (l.take (k + 1)) = sumD (l.take k) + (atF l k).data.length := by
  have e : atF l k = l[k] := by simp [atF, List.getD, h]
  rw [List.take_succ_eq_append_getElem h, e]
  unfold sumD
  rw [List.map_append, List.sum_append]
  simp only [List.map_cons, List.map_nil, List.sum_cons, List.sum_nil, Nat.add_zero]
def GrP (w : World) (l : List Fr) (e : Ending) (w' : World) : Prop := (∃ r, e = .returned (.bool r) ∧ (r = false → l.length ≤ 8000 ∧ (putL l).length ≤ 80000)) ∧ Ok w w'
theorem GrP.mk {w w' : World} {l : List Fr} {e : Ending} (r : Bool) (he : e = .returned (.bool r)) (h : r = false → l.length ≤ 8000 ∧ (putL l).length ≤ 80000) (ho : Ok w w') : GrP w l e w' := ⟨⟨r, he, h⟩, ho⟩
set_option maxHeartbeats 4000000 in
theorem great_w (A : Option Addr) (n c : Nat) (l : List Fr) (hn : l.length = n) (w : World) (hI : FramesAt w A l) :
    Calls Tryd.prog 7 #[.slice A n c] w (GrP w l) := by
  have HI := Lib.hid hI
  have HN := Lib.hid hn
  clear hI hn
  by_cases h8 : n ≤ 8000
  · go_enter Tryd.func7, Tryd.ntmps7
    go_wp2_with fail
    go_loopw [3, 4] (fun s i wr => ∃ k : Nat, k ≤ n ∧ i = .int .i64 k ∧ s = .int .i64 ((n + sumD (l.take k) : Nat) : Int) ∧ n + sumD (l.take k) ≤ 200000000000000 ∧ Ok w wr) (fun _ i _ => n - (intOf i).toNat)
    case atStart => exact ⟨0, Nat.zero_le _, rfl, by simp [sumD], by simp [sumD]; omega, Ok.refl _⟩
    case round =>
      obtain ⟨k, hk, rfl, rfl, hs, okr⟩ := hrel
      have HO := Lib.hid okr
      clear okr
      by_cases hlt : k < n
      · have d1 : decide ((k : Int) < (n : Int)) = true := decide_eq_true (by omega)
        obtain ⟨b, off, rfl, C0, v, C1, hv⟩ := HI.out.ok HO.out k (by rw [HN.out]; exact hlt)
        obtain ⟨A1, c1, rfl, hvl⟩ := hv.form
        have HS := Lib.hid (sumD_take l k (by rw [HN.out]; exact hlt))
        have HP := Lib.hid (putL_len l)
        have HSL : Hid (8000 < n + sumD (l.take k) → True) := Lib.hid (fun _ => trivial)
        generalize (atF l k).data.length = m at *
        generalize hq : n + sumD (l.take k) = q at *
        have HQ := Lib.hid hq
        clear hq hv C0
        have hi0 : (0 : Int) ≤ (k : Int) := Int.natCast_nonneg _
        have hi1 : (k : Int) < (n : Int) := by omega
        have hq0 : (0 : Int) ≤ (q : Int) := Int.natCast_nonneg _
        by_cases hq8 : q ≤ 8000
        · have d2 : decide ((q : Int) ≤ 8000) = true := decide_eq_true (by omega)
          go_wp2_with fail
          refine ⟨⟨k + 1, hlt, by go_num, ?_, by rw [HS.out]; have := HQ.out; omega, HO.out⟩, by simp [intOf]; omega⟩
          rw [HS.out]
          have := HQ.out
          rw [← Nat.add_assoc, this]
          go_num
        · have d2 : decide ((q : Int) ≤ 8000) = false := decide_eq_false (by omega)
          have d3 : decide ((8000 : Int) < (q : Int)) = true := decide_eq_true (by omega)
          go_wp2_with fail
          go_ret
          exact GrP.mk true rfl (fun h => by cases h) HO.out
      · have d1 : decide ((k : Int) < (n : Int)) = false := decide_eq_false (by omega)
        have HP := Lib.hid (putL_len l)
        have htk : l.take k = l := List.take_of_length_le (by rw [HN.out]; omega)
        rw [htk] at hs ⊢
        generalize hq : n + sumD l = q at *
        have HQ := Lib.hid hq
        clear hq htk
        by_cases hq8 : 8000 < q
        · have d3 : decide ((8000 : Int) < (q : Int)) = true := decide_eq_true (by omega)
          go_wp2_with fail
          go_ret
          exact GrP.mk true rfl (fun h => by cases h) HO.out
        · have d3 : decide ((8000 : Int) < (q : Int)) = false := decide_eq_false (by omega)
          go_wp2_with fail
          go_ret
          exact GrP.mk false rfl (fun _ => ⟨by rw [HN.out]; exact h8, by rw [HP.out, HN.out]; have := HQ.out; omega⟩) HO.out
  · have d2 : decide ((n : Int) ≤ 8000) = false := decide_eq_false (by omega)
    have d3 : decide ((8000 : Int) < (n : Int)) = true := decide_eq_true (by omega)
    have d1 : decide ((0 : Int) < (n : Int)) = true := decide_eq_true (by omega)
    have d1n : decide (0 < n) = true := decide_eq_true (by omega)
    go_enter Tryd.func7, Tryd.ntmps7
    go_wp2_with fail
    refine wp_loop_rounds 1 ?_
    rw [rounds_succ]
    go_wp2_with fail
    go_ret
    exact GrP.mk true rfl (fun h => by cases h) (Ok.refl _)
end Go.Proofs.YtpebnlddmjfomaaDoor
