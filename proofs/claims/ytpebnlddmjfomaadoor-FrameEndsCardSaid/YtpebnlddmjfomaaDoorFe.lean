/- Bytes cut; the place in bytes; what it takes, its numbers: walked. -/
import Derived.Test.YtpebnlddmjfomaaDoorFd
import Derived.Laws.Slices
namespace Go.Proofs.YtpebnlddmjfomaaDoor
open Go.RowKit
theorem bytes_take {w : World} {A : Option Addr} {n c N : Nat} {xs : List B8} (h : BytesIn w (.slice A n c) xs) (hN : N ≤ xs.length) : BytesIn w (.slice A N c) (xs.take N) := by
  rcases h with ⟨rfl, A', c', e, hA⟩ | ⟨b, o, c', e, hn, hm, hc⟩
  · simp only [Value.slice.injEq] at e
    obtain ⟨rfl, rfl, rfl⟩ := e
    obtain rfl : N = 0 := by simpa using hN
    exact .inl ⟨rfl, _, _, rfl, hA⟩
  · simp only [Value.slice.injEq] at e
    obtain ⟨rfl, rfl, rfl⟩ := e
    refine .inr ⟨b, o, c, by rw [List.length_take, Nat.min_eq_left hN], by rw [List.length_take]; omega, by rw [List.length_take]; omega, fun i hi => ?_⟩
    rw [List.length_take, Nat.min_eq_left hN] at hi
    rw [hc i (by omega)]
    simp [hi]
theorem bytes_drop {w : World} {A : Option Addr} {n c N : Nat} {xs : List B8} (h : BytesIn w (.slice A n c) xs) (hN : N ≤ xs.length) : BytesIn w (.slice (if c = N then A else A.map (·.add N)) (n - N) (c - N)) (xs.drop N) := by
  rcases h with ⟨rfl, A', c', e, hA⟩ | ⟨b, o, c', e, hn, hm, hc⟩
  · simp only [Value.slice.injEq] at e
    obtain ⟨rfl, rfl, rfl⟩ := e
    obtain rfl : N = 0 := by simpa using hN
    refine .inl ⟨rfl, _, _, rfl, fun e => ?_⟩
    have : A = none := by
      split at e
      · exact e
      · simpa using e
    have := hA this
    omega
  · simp only [Value.slice.injEq] at e
    obtain ⟨rfl, rfl, rfl⟩ := e
    by_cases h0 : N = xs.length
    · refine .inl ⟨by simp [h0], (if c = N then some ⟨b, o, none⟩ else (some (⟨b, o, none⟩ : Addr)).map (·.add N)), c - N, by rw [h0]; simp, fun e => ?_⟩
      split at e <;> cases e
    · have hne : c ≠ N := by omega
      rw [if_neg hne]
      refine .inr ⟨b, o + N, c - N, by simp only [Option.map, Addr.add]; split <;> simp_all, by rw [List.length_drop]; omega, by rw [List.length_drop]; omega, fun i hi => ?_⟩
      rw [List.length_drop] at hi
      rw [show o + N + i = o + (N + i) from by omega, hc (N + i) (by omega)]
      simp
theorem el58 : Tryd.prog.elem 58 = 5 := by kernel_rfl
theorem un58 : Tryd.prog.underlying 58 = some (.slice (Tryd.prog.elem 58)) := by rw [el58]; exact Tryd.underlying58
theorem low58 (A : Option Addr) (n c q : Nat) (hq : q ≤ c) (wx : World) : (Instr.slice 58 (.slice A n c) none (some (.int .i64 (q : Int))) none).run Tryd.prog wx = .ok (.slice A q c) wx := by
  rw [run_slice_h wx 58 A n c un58 .i64 (q : Int) (Int.natCast_nonneg _) (by omega), el58, Tryd.sizeOf5]
  have e : A.map (·.add (0 * 1)) = A := by cases A <;> simp [Addr.add]
  simp only [Result.andThen, sliced, e]
  simp
theorem high58 (A : Option Addr) (n c q : Nat) (hq : q ≤ n) (wx : World) : (Instr.slice 58 (.slice A n c) (some (.int .i64 (q : Int))) none none).run Tryd.prog wx = .ok (.slice (if c = q then A else A.map (·.add q)) (n - q) (c - q)) wx := by
  rw [run_slice_l wx 58 A n c un58 .i64 (q : Int) (Int.natCast_nonneg _) (by omega), el58, Tryd.sizeOf5]
  simp [Result.andThen, sliced]
theorem el23 : Tryd.prog.elem 23 = 5 := by kernel_rfl
theorem un23 : Tryd.prog.underlying 23 = some (.slice (Tryd.prog.elem 23)) := by rw [el23]; exact Tryd.underlying23
theorem low23 (A : Option Addr) (n c q : Nat) (hq : q ≤ c) (wx : World) : (Instr.slice 23 (.slice A n c) none (some (.int .i64 (q : Int))) none).run Tryd.prog wx = .ok (.slice A q c) wx := by
  rw [run_slice_h wx 23 A n c un23 .i64 (q : Int) (Int.natCast_nonneg _) (by omega), el23, Tryd.sizeOf5]
  have e : A.map (·.add (0 * 1)) = A := by cases A <;> simp [Addr.add]
  simp only [Result.andThen, sliced, e]
  simp
theorem high23 (A : Option Addr) (n c q : Nat) (hq : q ≤ n) (wx : World) : (Instr.slice 23 (.slice A n c) (some (.int .i64 (q : Int))) none none).run Tryd.prog wx = .ok (.slice (if c = q then A else A.map (·.add q)) (n - q) (c - q)) wx := by
  rw [run_slice_l wx 23 A n c un23 .i64 (q : Int) (Int.natCast_nonneg _) (by omega), el23, Tryd.sizeOf5]
  simp [Result.andThen, sliced]
def Only (g : Nat) (w w' : World) : Prop := w'.os = w.os ∧ w'.tape = w.tape ∧ w'.output = w.output ∧ w'.heap.size = w.heap.size ∧ ∀ k, k ≠ g → w'.heap[k]? = w.heap[k]?
theorem Only.refl (g : Nat) (w : World) : Only g w w := ⟨rfl, rfl, rfl, rfl, fun _ _ => rfl⟩
theorem Only.trans {g : Nat} {a b c : World} (h : Only g a b) (k : Only g b c) : Only g a c :=
  ⟨k.1.trans h.1, k.2.1.trans h.2.1, k.2.2.1.trans h.2.2.1, k.2.2.2.1.trans h.2.2.2.1, fun i hi => (k.2.2.2.2 i hi).trans (h.2.2.2.2 i hi)⟩
theorem Only.set {g : Nat} {a b : World} (h : Only g a b) (o : Nat) (v : Value) : Only g a (b.setCell ⟨g, o, none⟩ v) :=
  h.trans ⟨rfl, rfl, rfl, by simp [World.setCell], fun k hk => heap_setCell_other b ⟨g, o, none⟩ k v hk⟩
theorem Only.below {g : Nat} {a b : World} (h : Only g a b) {B : Nat} (hB : B ≤ g) : Below B a b :=
  ⟨h.1, h.2.1, h.2.2.1, Nat.le_of_eq h.2.2.2.1.symm, fun k hk => h.2.2.2.2 k (by omega)⟩


theorem BytesIn.cap {w : World} {A : Option Addr} {n c : Nat} {xs : List B8} (h : BytesIn w (.slice A n c) xs) : n = xs.length ∧ n ≤ c := by
  rcases h with ⟨rfl, A', c', e, _⟩ | ⟨b, o, c', e, hn, _⟩
  · simp only [Value.slice.injEq] at e
    obtain ⟨rfl, rfl, rfl⟩ := e
    exact ⟨rfl, Nat.zero_le _⟩
  · simp only [Value.slice.injEq] at e
    obtain ⟨rfl, rfl, rfl⟩ := e
    exact ⟨rfl, hn⟩
/-- A place at block p in bytes that lie in the world W0: what is left, and how far it is. -/
def Pl (W0 : World) (p : Nat) (w : World) (bs : List B8) (m : Nat) : Prop :=
  W0.heap.size ≤ p ∧ Ok W0 w ∧ (∃ A c, w.cell? ⟨p, 0, none⟩ = some (.slice A bs.length c) ∧ BytesIn W0 (.slice A bs.length c) bs) ∧ w.cell? ⟨p, 1, none⟩ = some (.int .i64 (m : Int)) ∧ w.frozen? ⟨p, 0, none⟩ = false ∧ w.frozen? ⟨p, 1, none⟩ = false
def TakeP (W0 : World) (p : Nat) (w : World) (bs : List B8) (m q : Nat) (e : Ending) (w' : World) : Prop :=
  if q ≤ bs.length then (∃ A c, e = .returned (.tuple #[.slice A q c, .bool true]) ∧ BytesIn W0 (.slice A q c) (bs.take q)) ∧ Pl W0 p w' (bs.drop q) m ∧ Only p w w'
  else e = .returned (.tuple #[.slice none 0 0, .bool false]) ∧ w = w'
set_option maxHeartbeats 1000000 in
theorem take_w (W0 : World) (p : Nat) (w : World) (bs : List B8) (m q : Nat) (h : Pl W0 p w bs m) : Calls Tryd.prog 63 #[.pointer (some ⟨p, 0, none⟩), .int .i64 (q : Int)] w (TakeP W0 p w bs m q) := by
  obtain ⟨h1, h2, ⟨A, c, c0, hB⟩, c1, f0, f1⟩ := h
  have hcap := hB.cap.2
  by_cases hq : q ≤ bs.length
  · have HP : Hid (∀ A' : Option Addr, A' = (if c = q then A else A.map (·.add q)) → TakeP W0 p w bs m q (.returned (.tuple #[.slice A q c, .bool true])) (w.setCell ⟨p, 0, none⟩ (.slice A' (bs.length - q) (c - q)))) := Lib.hid fun A' e => by
      unfold TakeP
      rw [if_pos hq]
      have hl : (bs.drop q).length = bs.length - q := List.length_drop ..
      refine ⟨⟨A, c, rfl, bytes_take hB hq⟩, ⟨h1, Below.trans h2 ((Only.refl p w).set 0 _ |>.below h1), ⟨A', c - q, ?_, ?_⟩, ?_, ?_, ?_⟩, (Only.refl p w).set 0 _⟩
      · rw [hl]; go_simp
      · rw [hl, e]; exact bytes_drop hB hq
      · go_simp
      · go_simp
      · go_simp
    have s1 := low58 A bs.length c q (by omega)
    obtain ⟨A', hA'⟩ : ∃ A', A' = (if c = q then A else A.map (·.add q)) := ⟨_, rfl⟩
    have s2 := high58 A bs.length c q hq
    rw [← hA'] at s2
    have HP2 := Lib.hid (HP.out A' hA')
    clear hA' HP hB h2 hcap c1 f1
    have d1 : decide ((bs.length : Int) < (q : Int)) = false := decide_eq_false (by omega)
    generalize bs.length = n at *
    go_enter Tryd.func63, Tryd.ntmps63
    go_wp2_with fail
    go_ret2
    exact HP2.out
  · have HP : Hid (TakeP W0 p w bs m q (.returned (.tuple #[.slice none 0 0, .bool false])) w) := Lib.hid (by unfold TakeP; rw [if_neg hq]; exact ⟨rfl, rfl⟩)
    have d1 : decide (bs.length < q) = true := decide_eq_true (by omega)
    clear hB h2 hcap c1 f1 hq
    generalize bs.length = n at *
    go_enter Tryd.func63, Tryd.ntmps63
    go_wp2_with fail
    go_ret2
    exact HP.out
end Go.Proofs.YtpebnlddmjfomaaDoor
