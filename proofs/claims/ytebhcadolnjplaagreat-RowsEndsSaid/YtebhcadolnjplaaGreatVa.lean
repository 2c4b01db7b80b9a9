/- The document's own spans: which is right, what it has. -/
import Derived.Test.YtebhcadolnjplaaGreatTn
import Derived.Test.YtebhcadolnjplaaGreatRs
namespace Go.Proofs.YtebhcadolnjplaaGreat
open Go.RowKit

set_option maxRecDepth 100000 in
set_option maxHeartbeats 2000000 in
theorem rright_w (s : Sp) (w : World) : Calls Tryz.prog 98 #[spV s] w (Ret w (.bool (rightB s))) := by
  obtain ⟨lo, hi⟩ := s
  have hkl := rkey_w lo
  have hkh := rkey_w hi
  have e1 := isNo lo
  have e2 := isNo hi
  have e3 : Op.bytesLess lo.toList hi.toList = ltB lo hi := rfl
  obtain ⟨R, hR⟩ : ∃ R, rightB ⟨lo, hi⟩ = R := ⟨_, rfl⟩
  rw [hR]
  have er : Hid (R = ((noB lo || keyB lo) && (noB hi || keyB hi) && (noB hi || ltB lo hi))) := Lib.hid hR.symm
  clear hR
  unfold spV at *
  have f1 : noB lo = true ∨ (noB lo = false ∧ keyB lo = true) ∨ (noB lo = false ∧ keyB lo = false) := by cases noB lo <;> cases keyB lo <;> simp
  have f2 : noB hi = true ∨ (noB hi = false ∧ keyB hi = true) ∨ (noB hi = false ∧ keyB hi = false) := by cases noB hi <;> cases keyB hi <;> simp
  rcases f1 with hn1 | ⟨hn1, hk1⟩ | ⟨hn1, hk1⟩
  · rw [hn1] at e1 er
    rcases f2 with hn2 | ⟨hn2, hk2⟩ | ⟨hn2, hk2⟩
    · rw [hn2] at e2 er
      have L0 : (w.alloc (Obj.cells #[Value.string lo, Value.string hi] 36)).cell? ⟨w.heap.size, 0, none⟩ = some (.string lo) := by go_cell
      have H0 : (w.alloc (Obj.cells #[Value.string lo, Value.string hi] 36)).cell? ⟨w.heap.size, 1, none⟩ = some (.string hi) := by go_cell
      go_enter Tryz.func98, Tryz.ntmps98
      go_wp2
      go_ret
      exact ⟨by rw [er.out]; first | rfl | simp, (Ok.alloc (Ok.refl w) _)⟩
    · rw [hn2] at e2 er; rw [hk2] at hkh er
      have L0 : (w.alloc (Obj.cells #[Value.string lo, Value.string hi] 36)).cell? ⟨w.heap.size, 0, none⟩ = some (.string lo) := by go_cell
      have H0 : (w.alloc (Obj.cells #[Value.string lo, Value.string hi] 36)).cell? ⟨w.heap.size, 1, none⟩ = some (.string hi) := by go_cell
      go_enter Tryz.func98, Tryz.ntmps98
      go_wp2_with fail
      refine (hkh _).mono ?_
      rintro _ w8 ⟨rfl, o8⟩
      have L1 : w8.cell? ⟨w.heap.size, 0, none⟩ = some (.string lo) := Ok.cell o8 L0
      have H1 : w8.cell? ⟨w.heap.size, 1, none⟩ = some (.string hi) := Ok.cell o8 H0
      go_wp2
      go_ret
      exact ⟨by rw [er.out]; first | rfl | simp, Ok.call (Ok.alloc (Ok.refl w) _) o8⟩
    · rw [hn2] at e2 er; rw [hk2] at hkh er
      have L0 : (w.alloc (Obj.cells #[Value.string lo, Value.string hi] 36)).cell? ⟨w.heap.size, 0, none⟩ = some (.string lo) := by go_cell
      have H0 : (w.alloc (Obj.cells #[Value.string lo, Value.string hi] 36)).cell? ⟨w.heap.size, 1, none⟩ = some (.string hi) := by go_cell
      go_enter Tryz.func98, Tryz.ntmps98
      go_wp2_with fail
      refine (hkh _).mono ?_
      rintro _ w8 ⟨rfl, o8⟩
      go_wp2
      go_ret
      exact ⟨by rw [er.out]; first | rfl | simp, Ok.call (Ok.alloc (Ok.refl w) _) o8⟩
  · rw [hn1] at e1 er; rw [hk1] at hkl er
    rcases f2 with hn2 | ⟨hn2, hk2⟩ | ⟨hn2, hk2⟩
    · rw [hn2] at e2 er
      go_enter Tryz.func98, Tryz.ntmps98
      go_wp2_with fail
      refine (hkl _).mono ?_
      rintro _ w7 ⟨rfl, o7⟩
      have L0 : w7.cell? ⟨w.heap.size, 0, none⟩ = some (.string lo) := Ok.cell o7 (by go_cell)
      have H0 : w7.cell? ⟨w.heap.size, 1, none⟩ = some (.string hi) := Ok.cell o7 (by go_cell)
      go_wp2
      go_ret
      exact ⟨by rw [er.out]; first | rfl | simp, (Ok.call (Ok.alloc (Ok.refl w) _) o7)⟩
    · rw [hn2] at e2 er; rw [hk2] at hkh er
      go_enter Tryz.func98, Tryz.ntmps98
      go_wp2_with fail
      refine (hkl _).mono ?_
      rintro _ w7 ⟨rfl, o7⟩
      have L0 : w7.cell? ⟨w.heap.size, 0, none⟩ = some (.string lo) := Ok.cell o7 (by go_cell)
      have H0 : w7.cell? ⟨w.heap.size, 1, none⟩ = some (.string hi) := Ok.cell o7 (by go_cell)
      go_wp2_with fail
      refine (hkh _).mono ?_
      rintro _ w8 ⟨rfl, o8⟩
      have L1 : w8.cell? ⟨w.heap.size, 0, none⟩ = some (.string lo) := Ok.cell o8 L0
      have H1 : w8.cell? ⟨w.heap.size, 1, none⟩ = some (.string hi) := Ok.cell o8 H0
      go_wp2
      go_ret
      exact ⟨by rw [er.out]; first | rfl | simp, Ok.call (Ok.call (Ok.alloc (Ok.refl w) _) o7) o8⟩
    · rw [hn2] at e2 er; rw [hk2] at hkh er
      go_enter Tryz.func98, Tryz.ntmps98
      go_wp2_with fail
      refine (hkl _).mono ?_
      rintro _ w7 ⟨rfl, o7⟩
      have L0 : w7.cell? ⟨w.heap.size, 0, none⟩ = some (.string lo) := Ok.cell o7 (by go_cell)
      have H0 : w7.cell? ⟨w.heap.size, 1, none⟩ = some (.string hi) := Ok.cell o7 (by go_cell)
      go_wp2_with fail
      refine (hkh _).mono ?_
      rintro _ w8 ⟨rfl, o8⟩
      go_wp2
      go_ret
      exact ⟨by rw [er.out]; first | rfl | simp, Ok.call (Ok.call (Ok.alloc (Ok.refl w) _) o7) o8⟩
  · rw [hn1] at e1 er; rw [hk1] at hkl er
    go_enter Tryz.func98, Tryz.ntmps98
    go_wp2_with fail
    refine (hkl _).mono ?_
    rintro _ w7 ⟨rfl, o7⟩
    go_wp2
    go_ret
    exact ⟨by rw [er.out]; first | rfl | simp, Ok.call (Ok.alloc (Ok.refl w) _) o7⟩

set_option maxRecDepth 100000 in
set_option maxHeartbeats 2000000 in
theorem rhas_w (s : Sp) (k : Str) (w : World) : Calls Tryz.prog 52 #[spV s, .string k] w (Ret w (.bool (hasB s k))) := by
  have hr := rright_w s
  have hk := rkey_w k
  obtain ⟨R, hR⟩ : ∃ R, hasB s k = R := ⟨_, rfl⟩
  rw [hR]
  have er : Hid (R = (rightB s && keyB k && !ltB k s.lo && (noB s.hi || ltB k s.hi))) := Lib.hid hR.symm
  clear hR
  obtain ⟨lo, hi⟩ := s
  have ele := le_of (a := lo) (b := k)
  have e2 := isNo hi
  have e3 : Op.bytesLess k.toList hi.toList = ltB k hi := rfl
  unfold spV at *
  cases h1 : rightB ⟨lo, hi⟩ with
  | false =>
    rw [h1] at hr er
    go_enter Tryz.func52, Tryz.ntmps52
    go_wp2_with fail
    refine (hr _).mono ?_
    rintro _ w1 ⟨rfl, o1⟩
    have L1 : w1.cell? ⟨w.heap.size, 0, none⟩ = some (.string lo) := Ok.cell o1 (by go_cell)
    have H1 : w1.cell? ⟨w.heap.size, 1, none⟩ = some (.string hi) := Ok.cell o1 (by go_cell)
    go_wp2
    go_ret
    exact ⟨by rw [er.out]; first | rfl | simp, Ok.call (Ok.alloc (Ok.refl w) _) o1⟩
  | true =>
    rw [h1] at hr er
    cases h2 : keyB k with
    | false =>
      rw [h2] at hk er
      go_enter Tryz.func52, Tryz.ntmps52
      go_wp2_with fail
      refine (hr _).mono ?_
      rintro _ w1 ⟨rfl, o1⟩
      have L1 : w1.cell? ⟨w.heap.size, 0, none⟩ = some (.string lo) := Ok.cell o1 (by go_cell)
      have H1 : w1.cell? ⟨w.heap.size, 1, none⟩ = some (.string hi) := Ok.cell o1 (by go_cell)
      go_wp2_with fail
      refine (hk _).mono ?_
      rintro _ w2 ⟨rfl, o2⟩
      have L2 := Ok.cell o2 L1
      have H2 := Ok.cell o2 H1
      go_wp2
      go_ret
      exact ⟨by rw [er.out]; first | rfl | simp, Ok.call (Ok.call (Ok.alloc (Ok.refl w) _) o1) o2⟩
    | true =>
      rw [h2] at hk er
      cases h3 : ltB k lo with
      | true =>
        rw [h3] at ele er
        go_enter Tryz.func52, Tryz.ntmps52
        go_wp2_with fail
        refine (hr _).mono ?_
        rintro _ w1 ⟨rfl, o1⟩
        have L1 : w1.cell? ⟨w.heap.size, 0, none⟩ = some (.string lo) := Ok.cell o1 (by go_cell)
        have H1 : w1.cell? ⟨w.heap.size, 1, none⟩ = some (.string hi) := Ok.cell o1 (by go_cell)
        go_wp2_with fail
        refine (hk _).mono ?_
        rintro _ w2 ⟨rfl, o2⟩
        have L2 := Ok.cell o2 L1
        have H2 := Ok.cell o2 H1
        go_wp2
        go_ret
        exact ⟨by rw [er.out]; first | rfl | simp, Ok.call (Ok.call (Ok.alloc (Ok.refl w) _) o1) o2⟩
      | false =>
        rw [h3] at ele er
        cases h4 : noB hi with
        | true =>
          rw [h4] at e2 er
          go_enter Tryz.func52, Tryz.ntmps52
          go_wp2_with fail
          refine (hr _).mono ?_
          rintro _ w1 ⟨rfl, o1⟩
          have L1 : w1.cell? ⟨w.heap.size, 0, none⟩ = some (.string lo) := Ok.cell o1 (by go_cell)
          have H1 : w1.cell? ⟨w.heap.size, 1, none⟩ = some (.string hi) := Ok.cell o1 (by go_cell)
          go_wp2_with fail
          refine (hk _).mono ?_
          rintro _ w2 ⟨rfl, o2⟩
          have L2 := Ok.cell o2 L1
          have H2 := Ok.cell o2 H1
          go_wp2
          go_ret
          exact ⟨by rw [er.out]; first | rfl | simp, Ok.call (Ok.call (Ok.alloc (Ok.refl w) _) o1) o2⟩
        | false =>
          rw [h4] at e2 er
          go_enter Tryz.func52, Tryz.ntmps52
          go_wp2_with fail
          refine (hr _).mono ?_
          rintro _ w1 ⟨rfl, o1⟩
          have L1 : w1.cell? ⟨w.heap.size, 0, none⟩ = some (.string lo) := Ok.cell o1 (by go_cell)
          have H1 : w1.cell? ⟨w.heap.size, 1, none⟩ = some (.string hi) := Ok.cell o1 (by go_cell)
          go_wp2_with fail
          refine (hk _).mono ?_
          rintro _ w2 ⟨rfl, o2⟩
          have L2 := Ok.cell o2 L1
          have H2 := Ok.cell o2 H1
          go_wp2
          go_ret
          exact ⟨by rw [er.out]; first | rfl | simp, Ok.call (Ok.call (Ok.alloc (Ok.refl w) _) o1) o2⟩

end Go.Proofs.YtebhcadolnjplaaGreat
