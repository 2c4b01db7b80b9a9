/- The document's own answers: what a key is, which span is right, what it has: as the plain mathematics says. -/
import Derived.Test.YtdabdkedgigjdaaGreatC
namespace Go.Proofs.YtdabdkedgigjdaaGreat
open Go.RowKit

set_option maxRecDepth 100000 in
set_option maxHeartbeats 2000000 in
theorem rkey_w (s : Str) (w : World) : Calls Tryz.prog 105 #[.string s] w (Ret w (.bool (keyB s))) := by
  by_cases h1 : 1 ≤ s.size
  · have d1 : decide ((s.size : Int) < 1) = false := decide_eq_false (by omega)
    by_cases h2 : s.size ≤ 20
    · have d2 : decide ((20 : Int) < (s.size : Int)) = false := decide_eq_false (by omega)
      go_enter Tryz.func105, Tryz.ntmps105
      go_wp2_with fail
      go_loop [3] (fun i => ∃ k : Nat, k ≤ s.size ∧ i = .int .i64 k ∧ (s.data.toList.take k).all letterB = true) (fun i => s.size - (intOf i).toNat)
      case atStart => exact ⟨0, Nat.zero_le _, rfl, by simp⟩
      case round =>
        obtain ⟨k, hk, rfl, hall⟩ := hrel
        by_cases hlt : k < s.size
        · have d3 : decide ((k : Int) < (s.size : Int)) = true := decide_eq_true (by omega)
          have hlen : k < s.data.toList.length := by rw [Array.length_toList]; exact hlt
          have hnx := Lib.hid (all_take s.data.toList k hlen hall)
          have hel : s.data.toList[k] = s[k] := by rw [Array.getElem_toList]; rfl
          have HEL := Lib.hid hel
          rw [hel] at hnx
          have hbad : Hid (letterB s[k] = false → keyB s = false) := Lib.hid fun hc => by
            have h9 : s.data.toList.all letterB = false := by
              rw [List.all_eq_false]
              exact ⟨s.data.toList[k], List.getElem_mem hlen, by rw [HEL.out, hc]; simp⟩
            simp [keyB, h9]
          clear hel
          have h0 := s[k].toNat_lt
          by_cases g1 : 97 ≤ s[k].toNat
          · have e1 : decide ((97 : Int) ≤ (s[k].toNat : Int)) = true := decide_eq_true (by omega)
            by_cases g2 : s[k].toNat ≤ 122
            · have e2 : decide ((s[k].toNat : Int) ≤ 122) = true := decide_eq_true (by omega)
              go_wp2
              refine ⟨⟨k + 1, hlt, rfl, by rw [hnx.out]; simp [letterB]; omega⟩, ?_⟩
              show s.size - ((k : Int) + 1).toNat < s.size - (k : Int).toNat
              omega
            · have e2 : decide ((s[k].toNat : Int) ≤ 122) = false := decide_eq_false (by omega)
              have e3 : decide ((48 : Int) ≤ (s[k].toNat : Int)) = true := decide_eq_true (by omega)
              have e4 : decide ((s[k].toNat : Int) ≤ 57) = false := decide_eq_false (by omega)
              go_wp2
              have e := hbad.out (by simp [letterB]; omega)
              rw [e]
              go_ret
              exact ⟨rfl, Ok.refl _⟩
          · have e1 : decide ((97 : Int) ≤ (s[k].toNat : Int)) = false := decide_eq_false (by omega)
            by_cases g3 : 48 ≤ s[k].toNat
            · have e3 : decide ((48 : Int) ≤ (s[k].toNat : Int)) = true := decide_eq_true (by omega)
              by_cases g4 : s[k].toNat ≤ 57
              · have e4 : decide ((s[k].toNat : Int) ≤ 57) = true := decide_eq_true (by omega)
                go_wp2
                refine ⟨⟨k + 1, hlt, rfl, by rw [hnx.out]; simp [letterB]; omega⟩, ?_⟩
                show s.size - ((k : Int) + 1).toNat < s.size - (k : Int).toNat
                omega
              · have e4 : decide ((s[k].toNat : Int) ≤ 57) = false := decide_eq_false (by omega)
                go_wp2
                have e := hbad.out (by simp [letterB]; omega)
                rw [e]
                go_ret
                exact ⟨rfl, Ok.refl _⟩
            · have e3 : decide ((48 : Int) ≤ (s[k].toNat : Int)) = false := decide_eq_false (by omega)
              go_wp2
              have e := hbad.out (by simp [letterB]; omega)
              rw [e]
              go_ret
              exact ⟨rfl, Ok.refl _⟩
        · have d3 : decide ((k : Int) < (s.size : Int)) = false := decide_eq_false (by omega)
          go_wp2
          have e : keyB s = true := by
            have hl : s.data.toList.length = s.size := by rw [Array.length_toList]; rfl
            rw [List.take_of_length_le (by omega)] at hall
            simp [keyB, h1, h2, hall]
          rw [e]
          go_ret
          exact ⟨rfl, Ok.refl w⟩
    · have d2 : decide ((20 : Int) < (s.size : Int)) = true := decide_eq_true (by omega)
      have e : keyB s = false := by simp [keyB, h2]
      rw [e]
      go_enter Tryz.func105, Tryz.ntmps105
      go_wp2
      go_ret
      exact ⟨rfl, Ok.refl w⟩
  · have d1 : decide ((s.size : Int) < 1) = true := decide_eq_true (by omega)
    have e : keyB s = false := by simp [keyB, h1]
    rw [e]
    go_enter Tryz.func105, Tryz.ntmps105
    go_wp2
    go_ret
    exact ⟨rfl, Ok.refl w⟩

set_option maxRecDepth 100000 in
set_option maxHeartbeats 2000000 in
theorem rright_w (s : Sp) (w : World) : Calls Tryz.prog 56 #[spV s] w (Ret w (.bool (rightB s))) := by
  obtain ⟨lo, hi⟩ := s
  have hkl := rkey_w lo
  have hkh := rkey_w hi
  have e1 := isNo lo
  have e2 := isNo hi
  have e3 : Op.bytesLess lo.toList hi.toList = ltB lo hi := rfl
  obtain ⟨R, hR⟩ : ∃ R, rightB ⟨lo, hi⟩ = R := ⟨_, rfl⟩
  rw [hR]
  have er : Hid (R = ((noB lo || keyB lo) && (noB hi || keyB hi) && (noB hi || ltB lo hi))) := Lib.hid hR.symm
  clear hR
  unfold spV at *
  have f1 : noB lo = true ∨ (noB lo = false ∧ keyB lo = true) ∨ (noB lo = false ∧ keyB lo = false) := by cases noB lo <;> cases keyB lo <;> simp
  have f2 : noB hi = true ∨ (noB hi = false ∧ keyB hi = true) ∨ (noB hi = false ∧ keyB hi = false) := by cases noB hi <;> cases keyB hi <;> simp
  rcases f1 with hn1 | ⟨hn1, hk1⟩ | ⟨hn1, hk1⟩
  · rw [hn1] at e1 er
    rcases f2 with hn2 | ⟨hn2, hk2⟩ | ⟨hn2, hk2⟩
    · rw [hn2] at e2 er
      have L0 : (w.alloc (Obj.cells #[Value.string lo, Value.string hi] 26)).cell? ⟨w.heap.size, 0, none⟩ = some (.string lo) := by go_cell
      have H0 : (w.alloc (Obj.cells #[Value.string lo, Value.string hi] 26)).cell? ⟨w.heap.size, 1, none⟩ = some (.string hi) := by go_cell
      go_enter Tryz.func56, Tryz.ntmps56
      go_wp2
      go_ret
      exact ⟨by rw [er.out]; first | rfl | simp, (Ok.alloc (Ok.refl w) _)⟩
    · rw [hn2] at e2 er; rw [hk2] at hkh er
      have L0 : (w.alloc (Obj.cells #[Value.string lo, Value.string hi] 26)).cell? ⟨w.heap.size, 0, none⟩ = some (.string lo) := by go_cell
      have H0 : (w.alloc (Obj.cells #[Value.string lo, Value.string hi] 26)).cell? ⟨w.heap.size, 1, none⟩ = some (.string hi) := by go_cell
      go_enter Tryz.func56, Tryz.ntmps56
      go_wp2_with fail
      refine (hkh _).mono ?_
      rintro _ w8 ⟨rfl, o8⟩
      have L1 : w8.cell? ⟨w.heap.size, 0, none⟩ = some (.string lo) := Ok.cell o8 L0
      have H1 : w8.cell? ⟨w.heap.size, 1, none⟩ = some (.string hi) := Ok.cell o8 H0
      go_wp2
      go_ret
      exact ⟨by rw [er.out]; first | rfl | simp, Ok.call (Ok.alloc (Ok.refl w) _) o8⟩
    · rw [hn2] at e2 er; rw [hk2] at hkh er
      have L0 : (w.alloc (Obj.cells #[Value.string lo, Value.string hi] 26)).cell? ⟨w.heap.size, 0, none⟩ = some (.string lo) := by go_cell
      have H0 : (w.alloc (Obj.cells #[Value.string lo, Value.string hi] 26)).cell? ⟨w.heap.size, 1, none⟩ = some (.string hi) := by go_cell
      go_enter Tryz.func56, Tryz.ntmps56
      go_wp2_with fail
      refine (hkh _).mono ?_
      rintro _ w8 ⟨rfl, o8⟩
      go_wp2
      go_ret
      exact ⟨by rw [er.out]; first | rfl | simp, Ok.call (Ok.alloc (Ok.refl w) _) o8⟩
  · rw [hn1] at e1 er; rw [hk1] at hkl er
    rcases f2 with hn2 | ⟨hn2, hk2⟩ | ⟨hn2, hk2⟩
    · rw [hn2] at e2 er
      go_enter Tryz.func56, Tryz.ntmps56
      go_wp2_with fail
      refine (hkl _).mono ?_
      rintro _ w7 ⟨rfl, o7⟩
      have L0 : w7.cell? ⟨w.heap.size, 0, none⟩ = some (.string lo) := Ok.cell o7 (by go_cell)
      have H0 : w7.cell? ⟨w.heap.size, 1, none⟩ = some (.string hi) := Ok.cell o7 (by go_cell)
      go_wp2
      go_ret
      exact ⟨by rw [er.out]; first | rfl | simp, (Ok.call (Ok.alloc (Ok.refl w) _) o7)⟩
    · rw [hn2] at e2 er; rw [hk2] at hkh er
      go_enter Tryz.func56, Tryz.ntmps56
      go_wp2_with fail
      refine (hkl _).mono ?_
      rintro _ w7 ⟨rfl, o7⟩
      have L0 : w7.cell? ⟨w.heap.size, 0, none⟩ = some (.string lo) := Ok.cell o7 (by go_cell)
      have H0 : w7.cell? ⟨w.heap.size, 1, none⟩ = some (.string hi) := Ok.cell o7 (by go_cell)
      go_wp2_with fail
      refine (hkh _).mono ?_
      rintro _ w8 ⟨rfl, o8⟩
      have L1 : w8.cell? ⟨w.heap.size, 0, none⟩ = some (.string lo) := Ok.cell o8 L0
      have H1 : w8.cell? ⟨w.heap.size, 1, none⟩ = some (.string hi) := Ok.cell o8 H0
      go_wp2
      go_ret
      exact ⟨by rw [er.out]; first | rfl | simp, Ok.call (Ok.call (Ok.alloc (Ok.refl w) _) o7) o8⟩
    · rw [hn2] at e2 er; rw [hk2] at hkh er
      go_enter Tryz.func56, Tryz.ntmps56
      go_wp2_with fail
      refine (hkl _).mono ?_
      rintro _ w7 ⟨rfl, o7⟩
      have L0 : w7.cell? ⟨w.heap.size, 0, none⟩ = some (.string lo) := Ok.cell o7 (by go_cell)
      have H0 : w7.cell? ⟨w.heap.size, 1, none⟩ = some (.string hi) := Ok.cell o7 (by go_cell)
      go_wp2_with fail
      refine (hkh _).mono ?_
      rintro _ w8 ⟨rfl, o8⟩
      go_wp2
      go_ret
      exact ⟨by rw [er.out]; first | rfl | simp, Ok.call (Ok.call (Ok.alloc (Ok.refl w) _) o7) o8⟩
  · rw [hn1] at e1 er; rw [hk1] at hkl er
    go_enter Tryz.func56, Tryz.ntmps56
    go_wp2_with fail
    refine (hkl _).mono ?_
    rintro _ w7 ⟨rfl, o7⟩
    go_wp2
    go_ret
    exact ⟨by rw [er.out]; first | rfl | simp, Ok.call (Ok.alloc (Ok.refl w) _) o7⟩

/-- Not above, as the document's own answers ask it. -/
theorem le_of {a b : Str} : (Op.bytesLess a.toList b.toList || (a.toList == b.toList)) = !ltB b a := by
  cases h : ltB b a with
  | true =>
    have h1 : Op.bytesLess a.toList b.toList = false := by
      cases h1 : Op.bytesLess a.toList b.toList with
      | false => rfl
      | true => have := ltB_trans (a := a) (b := b) (c := a) h1 h; rw [ltB_irrefl] at this; cases this
    have h2 : (a.toList == b.toList) = false := by
      rw [beq_eq_false_iff_ne]
      intro e
      rw [str_ext e, ltB_irrefl] at h; cases h
    rw [h1, h2]; rfl
  | false =>
    cases h1 : Op.bytesLess a.toList b.toList with
    | true => rfl
    | false =>
      rw [ltB_total (a := a) (b := b) h1 h]
      simp

set_option maxRecDepth 100000 in
set_option maxHeartbeats 2000000 in
theorem rhas_w (s : Sp) (k : Str) (w : World) : Calls Tryz.prog 73 #[spV s, .string k] w (Ret w (.bool (hasB s k))) := by
  have hr := rright_w s
  have hk := rkey_w k
  obtain ⟨R, hR⟩ : ∃ R, hasB s k = R := ⟨_, rfl⟩
  rw [hR]
  have er : Hid (R = (rightB s && keyB k && !ltB k s.lo && (noB s.hi || ltB k s.hi))) := Lib.hid hR.symm
  clear hR
  obtain ⟨lo, hi⟩ := s
  have ele := le_of (a := lo) (b := k)
  have e2 := isNo hi
  have e3 : Op.bytesLess k.toList hi.toList = ltB k hi := rfl
  unfold spV at *
  cases h1 : rightB ⟨lo, hi⟩ with
  | false =>
    rw [h1] at hr er
    go_enter Tryz.func73, Tryz.ntmps73
    go_wp2_with fail
    refine (hr _).mono ?_
    rintro _ w1 ⟨rfl, o1⟩
    have L1 : w1.cell? ⟨w.heap.size, 0, none⟩ = some (.string lo) := Ok.cell o1 (by go_cell)
    have H1 : w1.cell? ⟨w.heap.size, 1, none⟩ = some (.string hi) := Ok.cell o1 (by go_cell)
    go_wp2
    go_ret
    exact ⟨by rw [er.out]; first | rfl | simp, Ok.call (Ok.alloc (Ok.refl w) _) o1⟩
  | true =>
    rw [h1] at hr er
    cases h2 : keyB k with
    | false =>
      rw [h2] at hk er
      go_enter Tryz.func73, Tryz.ntmps73
      go_wp2_with fail
      refine (hr _).mono ?_
      rintro _ w1 ⟨rfl, o1⟩
      have L1 : w1.cell? ⟨w.heap.size, 0, none⟩ = some (.string lo) := Ok.cell o1 (by go_cell)
      have H1 : w1.cell? ⟨w.heap.size, 1, none⟩ = some (.string hi) := Ok.cell o1 (by go_cell)
      go_wp2_with fail
      refine (hk _).mono ?_
      rintro _ w2 ⟨rfl, o2⟩
      have L2 := Ok.cell o2 L1
      have H2 := Ok.cell o2 H1
      go_wp2
      go_ret
      exact ⟨by rw [er.out]; first | rfl | simp, Ok.call (Ok.call (Ok.alloc (Ok.refl w) _) o1) o2⟩
    | true =>
      rw [h2] at hk er
      cases h3 : ltB k lo with
      | true =>
        rw [h3] at ele er
        go_enter Tryz.func73, Tryz.ntmps73
        go_wp2_with fail
        refine (hr _).mono ?_
        rintro _ w1 ⟨rfl, o1⟩
        have L1 : w1.cell? ⟨w.heap.size, 0, none⟩ = some (.string lo) := Ok.cell o1 (by go_cell)
        have H1 : w1.cell? ⟨w.heap.size, 1, none⟩ = some (.string hi) := Ok.cell o1 (by go_cell)
        go_wp2_with fail
        refine (hk _).mono ?_
        rintro _ w2 ⟨rfl, o2⟩
        have L2 := Ok.cell o2 L1
        have H2 := Ok.cell o2 H1
        go_wp2
        go_ret
        exact ⟨by rw [er.out]; first | rfl | simp, Ok.call (Ok.call (Ok.alloc (Ok.refl w) _) o1) o2⟩
      | false =>
        rw [h3] at ele er
        cases h4 : noB hi with
        | true =>
          rw [h4] at e2 er
          go_enter Tryz.func73, Tryz.ntmps73
          go_wp2_with fail
          refine (hr _).mono ?_
          rintro _ w1 ⟨rfl, o1⟩
          have L1 : w1.cell? ⟨w.heap.size, 0, none⟩ = some (.string lo) := Ok.cell o1 (by go_cell)
          have H1 : w1.cell? ⟨w.heap.size, 1, none⟩ = some (.string hi) := Ok.cell o1 (by go_cell)
          go_wp2_with fail
          refine (hk _).mono ?_
          rintro _ w2 ⟨rfl, o2⟩
          have L2 := Ok.cell o2 L1
          have H2 := Ok.cell o2 H1
          go_wp2
          go_ret
          exact ⟨by rw [er.out]; first | rfl | simp, Ok.call (Ok.call (Ok.alloc (Ok.refl w) _) o1) o2⟩
        | false =>
          rw [h4] at e2 er
          go_enter Tryz.func73, Tryz.ntmps73
          go_wp2_with fail
          refine (hr _).mono ?_
          rintro _ w1 ⟨rfl, o1⟩
          have L1 : w1.cell? ⟨w.heap.size, 0, none⟩ = some (.string lo) := Ok.cell o1 (by go_cell)
          have H1 : w1.cell? ⟨w.heap.size, 1, none⟩ = some (.string hi) := Ok.cell o1 (by go_cell)
          go_wp2_with fail
          refine (hk _).mono ?_
          rintro _ w2 ⟨rfl, o2⟩
          have L2 := Ok.cell o2 L1
          have H2 := Ok.cell o2 H1
          go_wp2
          go_ret
          exact ⟨by rw [er.out]; first | rfl | simp, Ok.call (Ok.call (Ok.alloc (Ok.refl w) _) o1) o2⟩

set_option maxRecDepth 100000 in
set_option maxHeartbeats 2000000 in
theorem rwithin_w (a b : Sp) (w : World) : Calls Tryz.prog 60 #[spV a, spV b] w (Ret w (.bool (withinB a b))) := by
  have hra := rright_w a
  have hrb := rright_w b
  obtain ⟨R, hR⟩ : ∃ R, withinB a b = R := ⟨_, rfl⟩
  rw [hR]
  have er : Hid (R = (rightB a && rightB b && !ltB a.lo b.lo && (noB b.hi || (!noB a.hi && !ltB b.hi a.hi)))) := Lib.hid hR.symm
  clear hR
  obtain ⟨al, ah⟩ := a
  obtain ⟨bl, bh⟩ := b
  have ele := le_of (a := bl) (b := al)
  have eh := le_of (a := ah) (b := bh)
  have e1 := isNo ah
  have e2 := isNo bh
  unfold spV at *
  cases h1 : rightB ⟨al, ah⟩ with
  | false =>
    rw [h1] at hra er
    go_enter Tryz.func60, Tryz.ntmps60
    go_wp2_with fail
    refine (hra _).mono ?_
    rintro _ w1 ⟨rfl, o1⟩
    have A0 : w1.cell? ⟨w.heap.size, 0, none⟩ = some (.string al) := Ok.cell o1 (by go_cell)
    have A1 : w1.cell? ⟨w.heap.size, 1, none⟩ = some (.string ah) := Ok.cell o1 (by go_cell)
    have B0 : w1.cell? ⟨w.heap.size + 1, 0, none⟩ = some (.string bl) := Ok.cell o1 (by go_cell)
    have B1 : w1.cell? ⟨w.heap.size + 1, 1, none⟩ = some (.string bh) := Ok.cell o1 (by go_cell)
    go_wp2
    go_ret
    exact ⟨by rw [er.out]; first | rfl | simp, Ok.call (Ok.alloc (Ok.alloc (Ok.refl w) _) _) o1⟩
  | true =>
    rw [h1] at hra er
    cases h2 : rightB ⟨bl, bh⟩ with
    | false =>
      rw [h2] at hrb er
      go_enter Tryz.func60, Tryz.ntmps60
      go_wp2_with fail
      refine (hra _).mono ?_
      rintro _ w1 ⟨rfl, o1⟩
      have A0 : w1.cell? ⟨w.heap.size, 0, none⟩ = some (.string al) := Ok.cell o1 (by go_cell)
      have A1 : w1.cell? ⟨w.heap.size, 1, none⟩ = some (.string ah) := Ok.cell o1 (by go_cell)
      have B0 : w1.cell? ⟨w.heap.size + 1, 0, none⟩ = some (.string bl) := Ok.cell o1 (by go_cell)
      have B1 : w1.cell? ⟨w.heap.size + 1, 1, none⟩ = some (.string bh) := Ok.cell o1 (by go_cell)
      go_wp2_with fail
      refine (hrb _).mono ?_
      rintro _ w2 ⟨rfl, o2⟩
      have A0 := Ok.cell o2 A0
      have A1 := Ok.cell o2 A1
      have B0 := Ok.cell o2 B0
      have B1 := Ok.cell o2 B1
      go_wp2
      go_ret
      exact ⟨by rw [er.out]; first | rfl | simp, Ok.call (Ok.call (Ok.alloc (Ok.alloc (Ok.refl w) _) _) o1) o2⟩
    | true =>
      rw [h2] at hrb er
      cases h3 : ltB al bl with
      | true =>
        rw [h3] at ele er
        go_enter Tryz.func60, Tryz.ntmps60
        go_wp2_with fail
        refine (hra _).mono ?_
        rintro _ w1 ⟨rfl, o1⟩
        have A0 : w1.cell? ⟨w.heap.size, 0, none⟩ = some (.string al) := Ok.cell o1 (by go_cell)
        have A1 : w1.cell? ⟨w.heap.size, 1, none⟩ = some (.string ah) := Ok.cell o1 (by go_cell)
        have B0 : w1.cell? ⟨w.heap.size + 1, 0, none⟩ = some (.string bl) := Ok.cell o1 (by go_cell)
        have B1 : w1.cell? ⟨w.heap.size + 1, 1, none⟩ = some (.string bh) := Ok.cell o1 (by go_cell)
        go_wp2_with fail
        refine (hrb _).mono ?_
        rintro _ w2 ⟨rfl, o2⟩
        have A0 := Ok.cell o2 A0
        have A1 := Ok.cell o2 A1
        have B0 := Ok.cell o2 B0
        have B1 := Ok.cell o2 B1
        go_wp2
        go_ret
        exact ⟨by rw [er.out]; first | rfl | simp, Ok.call (Ok.call (Ok.alloc (Ok.alloc (Ok.refl w) _) _) o1) o2⟩
      | false =>
        rw [h3] at ele er
        cases h4 : noB bh with
        | true =>
          rw [h4] at e2 er
          go_enter Tryz.func60, Tryz.ntmps60
          go_wp2_with fail
          refine (hra _).mono ?_
          rintro _ w1 ⟨rfl, o1⟩
          have A0 : w1.cell? ⟨w.heap.size, 0, none⟩ = some (.string al) := Ok.cell o1 (by go_cell)
          have A1 : w1.cell? ⟨w.heap.size, 1, none⟩ = some (.string ah) := Ok.cell o1 (by go_cell)
          have B0 : w1.cell? ⟨w.heap.size + 1, 0, none⟩ = some (.string bl) := Ok.cell o1 (by go_cell)
          have B1 : w1.cell? ⟨w.heap.size + 1, 1, none⟩ = some (.string bh) := Ok.cell o1 (by go_cell)
          go_wp2_with fail
          refine (hrb _).mono ?_
          rintro _ w2 ⟨rfl, o2⟩
          have A0 := Ok.cell o2 A0
          have A1 := Ok.cell o2 A1
          have B0 := Ok.cell o2 B0
          have B1 := Ok.cell o2 B1
          go_wp2
          go_ret
          exact ⟨by rw [er.out]; first | rfl | simp, Ok.call (Ok.call (Ok.alloc (Ok.alloc (Ok.refl w) _) _) o1) o2⟩
        | false =>
          rw [h4] at e2 er
          cases h5 : noB ah with
          | true =>
            rw [h5] at e1 er
            go_enter Tryz.func60, Tryz.ntmps60
            go_wp2_with fail
            refine (hra _).mono ?_
            rintro _ w1 ⟨rfl, o1⟩
            have A0 : w1.cell? ⟨w.heap.size, 0, none⟩ = some (.string al) := Ok.cell o1 (by go_cell)
            have A1 : w1.cell? ⟨w.heap.size, 1, none⟩ = some (.string ah) := Ok.cell o1 (by go_cell)
            have B0 : w1.cell? ⟨w.heap.size + 1, 0, none⟩ = some (.string bl) := Ok.cell o1 (by go_cell)
            have B1 : w1.cell? ⟨w.heap.size + 1, 1, none⟩ = some (.string bh) := Ok.cell o1 (by go_cell)
            go_wp2_with fail
            refine (hrb _).mono ?_
            rintro _ w2 ⟨rfl, o2⟩
            have A0 := Ok.cell o2 A0
            have A1 := Ok.cell o2 A1
            have B0 := Ok.cell o2 B0
            have B1 := Ok.cell o2 B1
            go_wp2
            go_ret
            exact ⟨by rw [er.out]; first | rfl | simp, Ok.call (Ok.call (Ok.alloc (Ok.alloc (Ok.refl w) _) _) o1) o2⟩
          | false =>
            rw [h5] at e1 er
            cases h6 : ltB bh ah with
            | true =>
              rw [h6] at eh er
              go_enter Tryz.func60, Tryz.ntmps60
              go_wp2_with fail
              refine (hra _).mono ?_
              rintro _ w1 ⟨rfl, o1⟩
              have A0 : w1.cell? ⟨w.heap.size, 0, none⟩ = some (.string al) := Ok.cell o1 (by go_cell)
              have A1 : w1.cell? ⟨w.heap.size, 1, none⟩ = some (.string ah) := Ok.cell o1 (by go_cell)
              have B0 : w1.cell? ⟨w.heap.size + 1, 0, none⟩ = some (.string bl) := Ok.cell o1 (by go_cell)
              have B1 : w1.cell? ⟨w.heap.size + 1, 1, none⟩ = some (.string bh) := Ok.cell o1 (by go_cell)
              go_wp2_with fail
              refine (hrb _).mono ?_
              rintro _ w2 ⟨rfl, o2⟩
              have A0 := Ok.cell o2 A0
              have A1 := Ok.cell o2 A1
              have B0 := Ok.cell o2 B0
              have B1 := Ok.cell o2 B1
              go_wp2
              go_ret
              exact ⟨by rw [er.out]; first | rfl | simp, Ok.call (Ok.call (Ok.alloc (Ok.alloc (Ok.refl w) _) _) o1) o2⟩
            | false =>
              rw [h6] at eh er
              go_enter Tryz.func60, Tryz.ntmps60
              go_wp2_with fail
              refine (hra _).mono ?_
              rintro _ w1 ⟨rfl, o1⟩
              have A0 : w1.cell? ⟨w.heap.size, 0, none⟩ = some (.string al) := Ok.cell o1 (by go_cell)
              have A1 : w1.cell? ⟨w.heap.size, 1, none⟩ = some (.string ah) := Ok.cell o1 (by go_cell)
              have B0 : w1.cell? ⟨w.heap.size + 1, 0, none⟩ = some (.string bl) := Ok.cell o1 (by go_cell)
              have B1 : w1.cell? ⟨w.heap.size + 1, 1, none⟩ = some (.string bh) := Ok.cell o1 (by go_cell)
              go_wp2_with fail
              refine (hrb _).mono ?_
              rintro _ w2 ⟨rfl, o2⟩
              have A0 := Ok.cell o2 A0
              have A1 := Ok.cell o2 A1
              have B0 := Ok.cell o2 B0
              have B1 := Ok.cell o2 B1
              go_wp2
              go_ret
              exact ⟨by rw [er.out]; first | rfl | simp, Ok.call (Ok.call (Ok.alloc (Ok.alloc (Ok.refl w) _) _) o1) o2⟩

end Go.Proofs.YtdabdkedgigjdaaGreat
