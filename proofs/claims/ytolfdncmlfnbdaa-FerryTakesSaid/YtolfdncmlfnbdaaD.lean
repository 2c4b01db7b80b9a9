/- Contracts of the writer's calls, and of the look at two lists of bytes. -/
import Derived.Test.YtolfdncmlfnbdaaC
namespace Go.Proofs.Ytolfdncmlfnbdaa
open Go.RowKit

def Wrx (g : Nat) (w : World) (xs : List B8) : Prop := ∃ A c, Wr g w (.slice A xs.length c) xs
theorem Wrx.of {g : Nat} {w : World} {v : Value} {xs : List B8} (h : Wr g w v xs) : Wrx g w xs := by
  obtain ⟨A, c, rfl⟩ := h.form
  exact ⟨A, c, h⟩

set_option maxHeartbeats 400000 in
theorem none_w (g : Nat) (v : Value) (xs : List B8) (W : World) (hw : Wr g W v xs) :
    Calls Try.prog 83 #[.pointer (some ⟨g, 0, none⟩)] W fun e w' => e = .returned (.bool false) ∧ W = w' := by
  have hc := hw.2.2.2.1
  clear hw
  go_enter Try.func83, Try.ntmps83
  go_wp2
  go_ret
  exact ⟨rfl, rfl⟩

set_option maxHeartbeats 400000 in
theorem newWriter_w (W : World) :
    Calls Try.prog 13 #[] W fun e w' => e = .returned (.pointer (some ⟨W.heap.size, 0, none⟩)) ∧ Wrx W.heap.size w' [] ∧ Below W.heap.size W w' ∧ w'.heap.size = W.heap.size + 1 := by
  have HF : Hid (Wrx W.heap.size (W.alloc (.cells #[.slice none 0 0, .bool false, .bool true] 65)) []) := Lib.hid (by
    refine ⟨none, 0, ?_, World.ownsRow_nil _ _ _ _, ?_, ?_, World.frozen?_alloc_at _ _ _ _ rfl⟩ <;> (rw [World.cell?_alloc_at _ _ _ _ rfl]; rfl)
    )
  go_enter Try.func13, Try.ntmps13
  go_wp2
  go_ret
  exact ⟨rfl, HF.out, (Below.refl _ _).alloc (Nat.le_refl _) _, by simp⟩

theorem encs_len (l : List Nat) : (encs l).length ≤ 10 * l.length := by
  induction l with
  | nil => simp [encs]
  | cons a l ih =>
    have := enc_len a
    simp only [encs, List.map_cons, List.flatten_cons, List.length_append, List.length_cons] at *
    omega
theorem encs_take_len (l : List Nat) (k : Nat) (h : k ≤ l.length) : (encs (l.take k)).length ≤ 10 * k := by
  have := encs_len (l.take k)
  rw [List.length_take, Nat.min_eq_left h] at this
  exact this

/- Numbers: the list's cells lie below the writer, or there is one alone. -/
set_option maxRecDepth 100000 in
set_option maxHeartbeats 1000000 in
theorem numbers_w (g : Nat) (v : Value) (xs : List B8) (W : World) (hw : Wr g W v xs) (l : List Nat) (A : Option Addr) (n c : Nat) (hn : l.length = n) (hnm : n ≤ 1000000) (hxs : xs.length ≤ 1000000)
    (hcell : ∀ k, k < n → ∃ b o, A = some ⟨b, o, none⟩ ∧ W.cell? ⟨b, o + k, none⟩ = some (.int .i64 ((l.getD k 0 : Nat) : Int)) ∧ l.getD k 0 ≤ 4611686018427387903 ∧ (0 < k → b < g)) :
    Calls Try.prog 14 #[.pointer (some ⟨g, 0, none⟩), .slice A n c] W (WrPost g W (.pointer (some ⟨g, 0, none⟩)) (xs ++ encs l)) := by
  have HW := Lib.hid hw
  have HC := Lib.hid hcell
  have HN := Lib.hid hn
  clear hw hcell hn
  go_enter Try.func14, Try.ntmps14
  go_wp2_with fail
  refine (none_w g v xs _ HW.out).mono ?_
  rintro e w1 ⟨rfl, rfl⟩
  go_wp2_with fail
  go_loopw [12] (fun i wr => ∃ k : Nat, k ≤ n ∧ i = .int .i64 k ∧ Wrx g wr (xs ++ encs (l.take k)) ∧ Below g W wr ∧ (k = 0 → wr = W)) (fun i _ => n - (intOf i).toNat)
  case atStart => exact ⟨0, Nat.zero_le _, rfl, by simpa [encs] using Wrx.of HW.out, Below.refl _ _, fun _ => rfl⟩
  case round =>
    obtain ⟨k, hk, rfl, ⟨A', c', hwr⟩, hbe, hk0⟩ := hrel
    by_cases hlt : k < n
    · obtain ⟨b, o, rfl, hc, hle, hbg⟩ := HC.out k hlt
      have hc' : wr.cell? ⟨b, o + k, none⟩ = some (.int .i64 ((l.getD k 0 : Nat) : Int)) := by
        by_cases h0 : k = 0
        · rw [hk0 h0]; exact hc
        · rw [hbe.cell (p := ⟨b, o + k, none⟩) (hbg (by omega))]; exact hc
      have HE := Lib.hid (encs_take l k (by rw [HN.out]; exact hlt))
      have HL := Lib.hid (encs_take_len l k (by rw [HN.out]; omega))
      have HWR := Lib.hid hwr
      have HBE := Lib.hid hbe
      clear hwr hbe hk0 hbg hc
      generalize l.getD k 0 = m at *
      go_wp2_with fail
      refine (number_w g _ (xs ++ encs (l.take k)) m _ HWR.out hle (by have := HL.out; rw [List.length_append]; omega)).mono ?_
      rintro e w2 ⟨rfl, hwx, hb2⟩
      have HWX := Lib.hid hwx
      have HB2 := Lib.hid hb2
      clear hwx hb2
      go_wp2_with fail
      go_roundw
      case rel => exact ⟨k + 1, by omega, by go_num, by rw [HE.out, ← List.append_assoc]; exact HWX.out, HBE.out.trans HB2.out, fun h => by omega⟩
      case measure => simp [intOf]; omega
    · have hke : k = n := by omega
      subst hke
      have HWR : Hid (Wrx g wr (xs ++ encs l)) := Lib.hid (by
        have := (⟨A', c', hwr⟩ : Wrx g wr (xs ++ encs (l.take k)))
        rwa [List.take_of_length_le (by rw [HN.out]; exact Nat.le_refl _)] at this)
      have HBE := Lib.hid hbe
      clear hwr hbe hk0
      go_wp2_with fail
      go_ret
      exact ⟨rfl, HWR.out, HBE.out⟩

/-- Done: a copy of what was written. -/
def DonePost (W : World) (xs : List B8) (e : Ending) (w' : World) : Prop :=
  (∃ A c, e = .returned (.tuple #[.slice A xs.length c, .int .i64 0]) ∧ BytesIn w' (.slice A xs.length c) xs) ∧ Ok W w' ∧ True
set_option maxRecDepth 100000 in
set_option maxHeartbeats 1000000 in
theorem done_w (g : Nat) (v : Value) (xs : List B8) (W : World) (hw : Wr g W v xs) (hx : xs.length ≤ 140737488350000) :
    Calls Try.prog 18 #[.pointer (some ⟨g, 0, none⟩)] W (DonePost W xs) := by
  obtain ⟨A, c, rfl⟩ := hw.form
  have HW := Lib.hid hw
  have HB : Hid (BytesIn W (.slice A xs.length c) xs) := Lib.hid (hw.2.1.bytes (by omega))
  have h0 := hw.1
  have h1 := hw.2.2.1
  have HON : Hid (OwnN W W.heap.size (.slice none 0 0) []) := Lib.hid (World.ownsRow_nil _ _ _ _)
  generalize hL : xs.length = L at *
  have HL := Lib.hid hL
  clear hw hL
  go_enter Try.func18, Try.ntmps18
  go_wp2_with fail
  refine (none_w g _ xs _ HW.out).mono ?_
  rintro e w1 ⟨rfl, rfl⟩
  go_wp2_with (at_builtin; go_must (refine wpList_app rfl (.const (.slice none 0 0)) (.tmp 15) rfl W.heap.size (.slice none 0 0) [] xs (.slice A L c) rfl rfl HON.out HB.out (by rw [HL.out]; simp; omega) (Nat.le_refl _) ?_; intro A' c' w2 hown2 hbel2; simp only [List.nil_append, List.length_nil, Nat.zero_add] at hown2 ⊢; have HOWN2 := Lib.hid hown2; have HBEL2 := Lib.hid hbel2; clear hown2 hbel2; rw [HL.out]))
  go_ret2
  exact ⟨⟨A', c', by rw [HL.out]; rfl, by rw [HL.out]; have := HOWN2.out.bytes (by rw [HL.out]; omega); rwa [HL.out] at this⟩, HBEL2.out, trivial⟩

theorem Ok.drewN {w w' : World} (h : Ok w w') (n : Nat) : Ok w (w'.drewN n) := by
  obtain ⟨h1, h2, h3, h4, h5⟩ := h
  exact ⟨h1, h2, h3, h4, h5⟩

/-- Two lists of bytes that are one: so it says. -/
theorem same_cells {w : World} {v : Value} {xs : List B8} {A : Option Addr} {n c : Nat} (h : BytesIn w v xs) (hv : v = .slice A n c) (i : Nat) (hi : i < n) : n = xs.length ∧ ∃ b o, A = some ⟨b, o, none⟩ ∧ w.cell? ⟨b, o + i, none⟩ = some (.int .u8 (ub (xs.getD i 0#8))) := by
  rcases h with ⟨rfl, A', c', rfl, _⟩ | ⟨b, o, c', rfl, _, _, hc⟩
  · simp only [Value.slice.injEq] at hv; omega
  · simp only [Value.slice.injEq] at hv
    obtain ⟨rfl, rfl, rfl⟩ := hv
    exact ⟨rfl, b, o, rfl, hc i hi⟩

set_option maxRecDepth 100000 in
set_option maxHeartbeats 1000000 in
theorem sameBytes_v (va vb : Value) (xs : List B8) (W : World) (ha : BytesIn W va xs) (hb : BytesIn W vb xs) :
    Calls Try.prog 20 #[va, vb] W fun e w' => e = .returned (.bool true) ∧ Ok W w' := by
  obtain ⟨A, ca, rfl, hm⟩ := ha.form
  obtain ⟨B, cb, rfl, _⟩ := hb.form
  have HA := Lib.hid ha
  have HB := Lib.hid hb
  clear ha hb
  generalize hn : xs.length = n at *
  have HN := Lib.hid hn
  clear hn
  have hne : ((n : Int) != n) = false := by simp
  go_enter Try.func20, Try.ntmps20
  go_wp2_with fail
  go_loopw [5] (fun i wr => ∃ k : Nat, k ≤ n ∧ i = .int .i64 k ∧ Ok W wr) (fun i _ => n - (intOf i).toNat)
  case atStart => exact ⟨0, Nat.zero_le _, rfl, Ok.refl _⟩
  case round =>
    obtain ⟨k, hk, rfl, hok⟩ := hrel
    by_cases hlt : k < n
    · obtain ⟨_, b, o, rfl, hc⟩ := same_cells HA.out rfl k hlt
      obtain ⟨_, b', o', rfl, hc'⟩ := same_cells HB.out rfl k hlt
      have hx := hok.cell hc
      have hy := hok.cell hc'
      have HO := Lib.hid hok
      clear hc hc' hok
      generalize xs.getD k 0#8 = y at *
      have hi0 : (0 : Int) ≤ (k : Int) := Int.natCast_nonneg _
      have hi1 : (k : Int) < (n : Int) := by omega
      go_wp2_with fail
      go_quiet (fail)
      go_wp2_with fail
      go_roundw
      case rel => exact ⟨k + 1, by omega, by go_num, HO.out.drewN _⟩
      case measure => simp [intOf]; omega
    · have hke : k = n := by omega
      subst hke
      have HO := Lib.hid hok
      clear hok
      go_wp2_with fail
      go_ret
      exact ⟨rfl, HO.out⟩
end Go.Proofs.Ytolfdncmlfnbdaa
