/- The law SpanParts, walked. -/
import Derived.Test.YtneipmgkphdfkaaO
import Derived.Test.YtneipmgkphdfkaaU
import Derived.Deep.RegionHeld3
import Derived.Deep.AppendLies
import Derived.Deep.SlicePairs
namespace Go.Proofs.Ytneipmgkphdfkaa
open Go.ChangeShapes Go.WideShapes Go.ChangeAt Go.RowKit

/-- Two texts appended, at a step of a region that draws. -/
theorem step_appT {ops : Array Oper} {o : Oper} {a : Act} {w : World} {K : Act → World → Prop} {Q : Exit → Act → World → Prop} {E : Prop} (hgd : o.guard = none) (s x : Operand)
    (ho : o.op = .call { callee := .builtin .append, args := #[s, x], argTypes := #[24, 24] })
    (base : Nat) (v : Value) (xs : List Str) (h : Nat) (t0 t1 : Str) (hs : a.eval s = v) (hx : a.eval x = .slice (some ⟨h, 0, none⟩) 2 2) (hown : OwnT w base v xs)
    (hc0 : w.cell? ⟨h, 0, none⟩ = some (.string t0)) (hc1 : w.cell? ⟨h, 1, none⟩ = some (.string t1)) (hlen : xs.length ≤ 100) (hbase : base ≤ w.heap.size)
    (hk : ∀ A n c w', OwnT w' base (.slice A n c) (xs ++ [t0, t1]) → Below base w w' → K (a.put o.dst (.slice A n c)) w') :
    if Region.wanted o (yielded ops a.tmps) = true then Oper.wp Try.prog o a w K Q else E := by
  obtain ⟨i0, hi, hz0, hz1, hz2⟩ := info_parts info9
  refine step_append_lies w hgd s x 24 ho base 9 i0 (.string ⟨#[]⟩) 1 16 Try.underlying24 hi hz0 hz1 hz2 rfl (by decide) v xs.length (xs.map Value.string) hs hown
    ⟨h, 0, none⟩ 2 2 [.string t0, .string t1] hx rfl ?_ ?_ (by decide) (by unfold maxLen; omega) (by omega) hbase _ rfl ?_
  · intro j u hu
    match j, hu with
    | 0, hu =>
      obtain rfl : u = .string t0 := by simpa using hu.symm
      exact hc0
    | 1, hu =>
      obtain rfl : u = .string t1 := by simpa using hu.symm
      exact hc1
  · intro u hu
    rcases List.mem_cons.1 hu with rfl | hu
    · rfl
    · obtain rfl : u = .string t1 := by simpa using hu
      rfl
  · intro g cap w1 hown1 hgrow _ _
    have hb : Below base w w1 := (Below.refl base w).grown hgrow hbase (fun k hk => (World.ownsRow.lt hown k hk).1)
    refine hk _ _ _ w1 ?_ hb
    unfold OwnT
    rw [List.map_append, List.length_append]
    exact hown1

set_option maxRecDepth 100000 in
set_option maxHeartbeats 8000000 in
theorem spanParts_w (A : Option Addr) (n c : Nat) (ps : List Sp) (hn : ps.length = n) (w : World) (hI : SpansAt w A ps) : Calls Try.prog 4 #[.slice A n c] w (Ret w (.bool true)) := by
  have HI := Lib.hid hI
  have HN := Lib.hid hn
  clear hI hn
  go_enter Try.func4, Try.ntmps4
  go_wp2_with fail
  refine (awake_w _).mono ?_
  rintro _ w1 ⟨rfl, o1⟩
  have ok1 := Lib.hid o1
  clear o1
  have HI1 := Lib.hid (HI.out.ok ok1.out)
  go_wp2_with fail
  go_loopw [3, 4] (fun l i wr => ∃ (k : Nat) (A' : Option Addr) (n' c' : Nat) (xs : List Str), k ≤ n ∧ k ≤ 31 ∧ i = .int .i64 k ∧ l = .slice A' n' c' ∧ OwnT wr w1.heap.size (.slice A' n' c') xs ∧ xs.length = 2 * k ∧ Ok w1 wr) (fun _ i _ => 31 - (intOf i).toNat)
  case atStart => exact ⟨0, none, 0, 0, [], Nat.zero_le _, Nat.zero_le _, rfl, rfl, World.ownsRow_nil _ _ _ _, rfl, Ok.refl _⟩
  case round =>
    obtain ⟨k, A', n', c', xs, hk, hk31, rfl, rfl, hown, hxl, okr⟩ := hrel
    have HOWN := Lib.hid hown
    have HOKR := Lib.hid okr
    have HXL := Lib.hid hxl
    clear hown okr hxl
    by_cases hlt : k < n
    · have d1 : decide ((k : Int) < (n : Int)) = true := decide_eq_true (by omega)
      by_cases h31 : k < 31
      · have d2 : decide ((k : Int) < 31) = true := decide_eq_true (by omega)
        obtain ⟨b, off, rfl, C0, C1⟩ := HI1.out k (by rw [HN.out]; exact hlt)
        have hbl : Hid (b < w1.heap.size) := Lib.hid (World.block_lt_of_cell? _ _ C0)
        have C0 := Ok.cell HOKR.out C0
        have C1 := Ok.cell HOKR.out C1
        have hi0 : (0 : Int) ≤ (k : Int) := Int.natCast_nonneg _
        have hi1 : (k : Int) < (n : Int) := by omega
        obtain ⟨⟨sl, sh⟩, hs⟩ : ∃ s, at1 ps k = s := ⟨_, rfl⟩
        rw [hs] at C0 C1
        simp only at C0 C1
        clear hs
        have HX100 : Hid (xs.length ≤ 100) := Lib.hid (by rw [HXL.out]; omega)
        have HB : Hid (w1.heap.size ≤ wr.heap.size) := Lib.hid HOKR.out.size
        have HOWD : Hid (OwnT ((wr.drew).alloc (.cells #[.string sl, .string sh] 9)) w1.heap.size (.slice A' n' c') xs) := Lib.hid (World.ownsRow.alloc (World.ownsRow.drew HOWN.out) _)
        go_wp2_with fail
        go_region_held3 (fun w' => w'.cell? ⟨b, off + k * 2, none⟩ = some (.string sl) ∧ w'.cell? ⟨b, off + k * 2 + 1, none⟩ = some (.string sh))
          (first | go_keep | (refine ⟨(Below.cell (p := ⟨b, off + k * 2, none⟩) hb2 hbl.out).trans ?_, (Below.cell (p := ⟨b, off + k * 2 + 1, none⟩) hb2 hbl.out).trans ?_⟩ <;> go_cell))
          ((refine step_appT (by rfl) _ _ (by rfl) w1.heap.size _ xs wr.heap.size sl sh (by rfl) (by rfl) HOWD.out (by go_cell) (by go_cell) HX100.out (by simp; exact Nat.le_succ_of_le HB.out) ?_; intro A2 n2 c2 w2 hown2 hb2))
        go_wp2
        refine ⟨⟨k + 1, A2, n2, c2, xs ++ [sl, sh], hlt, h31, rfl, rfl, hown2, by rw [List.length_append, HXL.out]; simp; omega, Below.trans (Ok.alloc (Ok.drew HOKR.out) _) hb2⟩, ?_⟩
        show 31 - ((k : Int) + 1).toNat < 31 - (k : Int).toNat
        omega
      · have d2 : decide ((k : Int) < 31) = false := decide_eq_false (by omega)
        go_wp2_with fail
        refine (few_w _ _ _ _ HOWN.out.strs).mono ?_
        rintro _ w4 ⟨⟨r, rfl, hr1⟩, rfl⟩
        cases r with
        | true => exact absurd (hr1 (by trivial)) (by rw [HXL.out]; omega)
        | false =>
          go_wp2
          go_ret
          exact ⟨rfl, Ok.call ok1.out HOKR.out⟩
    · have d1 : decide ((k : Int) < (n : Int)) = false := decide_eq_false (by omega)
      obtain rfl : k = n := by omega
      go_wp2_with fail
      refine (few_w _ _ _ _ HOWN.out.strs).mono ?_
      rintro _ w4 ⟨⟨r, rfl, hr1⟩, rfl⟩
      cases r with
      | false =>
        go_wp2
        go_ret
        exact ⟨rfl, Ok.call ok1.out HOKR.out⟩
      | true =>
        have h30 : k ≤ 30 := by
          have := hr1 (by trivial)
          rw [HXL.out] at this
          omega
        clear hr1
        have d3 : decide ((30 : Int) < (k : Int)) = false := decide_eq_false (by omega)
        have hS := HI1.out.ok HOKR.out
        go_wp2_with fail
        refine (parts_w _ _ _ _ HN.out (by omega) _ hS).mono ?_
        rintro _ w5 ⟨rfl, o5⟩
        have hS5 := hS.ok o5
        go_wp2_with fail
        refine (rparts_w _ _ _ _ HN.out (by omega) _ hS5).mono ?_
        rintro _ w6 ⟨rfl, o6⟩
        have HOK6 := Lib.hid (Ok.call (Ok.call (Ok.call ok1.out HOKR.out) o5) o6)
        go_wp2
        go_ret
        exact ⟨by first | rfl | simp, HOK6.out⟩
end Go.Proofs.Ytneipmgkphdfkaa
