/- The document's own Meet: as the plain mathematics says. -/
import Derived.Test.YtneipmgkphdfkaaR
import Derived.Test.YtneipmgkphdfkaaV
import Derived.Lib.MinMaxS
namespace Go.Proofs.Ytneipmgkphdfkaa
open Go.RowKit

attribute [local go_sem ↓] Go.Lib.run_max_strs

theorem meetM_hi (ah bh : Str) : (if inB bh ah then bh else ah) = if (noB ah || (!noB bh && ltB bh ah)) = true then bh else ah := by
  unfold inB
  cases h1 : noB ah with
  | true => simp
  | false =>
    cases h2 : noB bh with
    | true => simp
    | false =>
      cases h3 : ltB bh ah with
      | true => simp [ltB_asymm h3]
      | false =>
        cases h4 : ltB ah bh with
        | true => simp
        | false => simp [ltB_total h4 h3]
theorem meetM_ref (a b : Sp) : meetM a b = ⟨Lib.maxS a.lo b.lo, if (noB a.hi || (!noB b.hi && ltB b.hi a.hi)) = true then b.hi else a.hi⟩ := by
  unfold meetM
  rw [meetM_hi, ltB_eq, Lib.maxS]
  congr 1
  simp

set_option maxRecDepth 100000 in
set_option maxHeartbeats 8000000 in
theorem rmeet_w (a b : Sp) (w : World) : Calls Try.prog 14 #[spV a, spV b] w (Ret w (meetV a b)) := by
  have hra := rright_w a
  have hrb := rright_w b
  obtain ⟨R, hR⟩ : ∃ R, meetV a b = R := ⟨_, rfl⟩
  rw [hR]
  have er : Hid (meetV a b = R) := Lib.hid hR
  clear hR
  have em := Lib.hid (meetM_ref a b)
  obtain ⟨al, ah⟩ := a
  obtain ⟨bl, bh⟩ := b
  simp only at em
  have e1 := isNo ah
  have e2 := isNo bh
  have hlt : Hid (Op.bytesLess bh.toList ah.toList = ltB bh ah) := Lib.hid rfl
  obtain ⟨lo, hlo⟩ : ∃ lo, Lib.maxS al bl = lo := ⟨_, rfl⟩
  rw [hlo] at em
  unfold spV at hra hrb ⊢
  cases n1 : noB ah with
  | true =>
    rw [n1] at e1
    have EM : Hid (meetM ⟨al, ah⟩ ⟨bl, bh⟩ = ⟨lo, bh⟩) := Lib.hid (by rw [em.out]; simp [n1])
    clear em n1 hlt
    go_enter Try.func14, Try.ntmps14
    go_wp2_with fail
    refine (hra _).mono ?_
    rintro _ w1 ⟨rfl, o1⟩
    have A0 : w1.cell? ⟨w.heap.size, 0, none⟩ = some (.string al) := Ok.cell o1 (by go_cell)
    have A1 : w1.cell? ⟨w.heap.size, 1, none⟩ = some (.string ah) := Ok.cell o1 (by go_cell)
    have B0 : w1.cell? ⟨w.heap.size + 1, 0, none⟩ = some (.string bl) := Ok.cell o1 (by go_cell)
    have B1 : w1.cell? ⟨w.heap.size + 1, 1, none⟩ = some (.string bh) := Ok.cell o1 (by go_cell)
    have R0 : w1.cell? ⟨w.heap.size + 1 + 1, 0, none⟩ = some (.string ⟨#[]⟩) := Ok.cell o1 (by go_cell)
    have R1 : w1.cell? ⟨w.heap.size + 1 + 1, 1, none⟩ = some (.string ⟨#[]⟩) := Ok.cell o1 (by go_cell)
    have F0 : w1.frozen? ⟨w.heap.size + 1 + 1, 0, none⟩ = false := by rw [Below.frozen o1 (by simp)]; go_cell
    have F1 : w1.frozen? ⟨w.heap.size + 1 + 1, 1, none⟩ = false := by rw [Below.frozen o1 (by simp)]; go_cell
    have M0 : w1.cell? ⟨w.heap.size + 1 + 1 + 1, 0, none⟩ = some (.string lo) := Ok.cell o1 (by go_cell)
    have M1 : w1.cell? ⟨w.heap.size + 1 + 1 + 1, 1, none⟩ = some (.string bh) := Ok.cell o1 (by go_cell)
    have ok1 : Ok w w1 := Ok.call (Ok.alloc (Ok.alloc (Ok.alloc (Ok.alloc (Ok.refl w) _) _) _) _) o1
    clear o1
    cases h1 : rightB ⟨al, ah⟩ with
    | false =>
      have h1 := h1
      have er2 : Hid (R = .tuple #[.agg #[.string ⟨#[]⟩, .string ⟨#[]⟩], .bool false]) := Lib.hid (by
        rw [← er.out]; simp [meetV, meetB, spV, allS, h1])
      go_wp2
      have st := store2 w1 (w.heap.size + 1 + 1) _ _ (.string ⟨#[]⟩) (.string ⟨#[]⟩) R0 R1
      (try simp only [Exit.inBlock, Exit.then])
      refine bodyPost_ret (by simp [results, Try.results14, go_sem, st.1, st.2]; try rfl) rfl ?_
      exact ⟨by rw [er2.out], Ok.set (Ok.set (ok1) (by simp; omega) _) (by simp; omega) _⟩
    | true =>
      go_wp2_with fail
      refine (hrb _).mono ?_
      rintro _ w2 ⟨rfl, o2⟩
      have B0 := Ok.cell o2 B0
      have B1 := Ok.cell o2 B1
      have F0 := (Below.frozen o2 (World.block_lt_of_cell? _ _ R0)).trans F0
      have F1 := (Below.frozen o2 (World.block_lt_of_cell? _ _ R1)).trans F1
      have R0 := Ok.cell o2 R0
      have R1 := Ok.cell o2 R1
      have M0 := Ok.cell o2 M0
      have M1 := Ok.cell o2 M1
      have ok2 := Ok.call ok1 o2
      clear o2 ok1
      cases h2 : rightB ⟨bl, bh⟩ with
      | false =>
        have er2 : Hid (R = .tuple #[.agg #[.string ⟨#[]⟩, .string ⟨#[]⟩], .bool false]) := Lib.hid (by
          rw [← er.out]; simp [meetV, meetB, spV, allS, h1, h2])
        go_wp2
        have st := store2 w2 (w.heap.size + 1 + 1) _ _ (.string ⟨#[]⟩) (.string ⟨#[]⟩) R0 R1
        (try simp only [Exit.inBlock, Exit.then])
        refine bodyPost_ret (by simp [results, Try.results14, go_sem, st.1, st.2]; try rfl) rfl ?_
        exact ⟨by rw [er2.out], Ok.set (Ok.set (ok2) (by simp; omega) _) (by simp; omega) _⟩
      | true =>
        have hrm := rright_w ⟨lo, bh⟩
        unfold spV at hrm
        go_wp2_with fail
        refine (hrm _).mono ?_
        rintro _ w3 ⟨rfl, o3⟩
        have F0 := (Below.frozen o3 (World.block_lt_of_cell? _ _ R0)).trans F0
        have F1 := (Below.frozen o3 (World.block_lt_of_cell? _ _ R1)).trans F1
        have R0 := Ok.cell o3 R0
        have R1 := Ok.cell o3 R1
        have M0 := Ok.cell o3 M0
        have M1 := Ok.cell o3 M1
        have ok3 := Ok.call ok2 o3
        clear o3 ok2
        cases h3 : rightB ⟨lo, bh⟩ with
        | false =>
          have er2 : Hid (R = .tuple #[.agg #[.string ⟨#[]⟩, .string ⟨#[]⟩], .bool false]) := Lib.hid (by
            rw [← er.out]; simp [meetV, meetB, spV, allS, h1, h2, EM.out, h3])
          go_wp2
          have st := store2 w3 (w.heap.size + 1 + 1) _ _ (.string ⟨#[]⟩) (.string ⟨#[]⟩) R0 R1
          (try simp only [Exit.inBlock, Exit.then])
          refine bodyPost_ret (by simp [results, Try.results14, go_sem, st.1, st.2]; try rfl) rfl ?_
          exact ⟨by rw [er2.out], Ok.set (Ok.set (ok3) (by simp; omega) _) (by simp; omega) _⟩
        | true =>
          have er2 : Hid (R = .tuple #[.agg #[.string lo, .string bh], .bool true]) := Lib.hid (by
            rw [← er.out]; simp [meetV, meetB, spV, h1, h2, EM.out, h3])
          go_wp2
          have st := store2 w3 (w.heap.size + 1 + 1) _ _ (.string lo) (.string bh) R0 R1
          (try simp only [Exit.inBlock, Exit.then])
          refine bodyPost_ret (by simp [results, Try.results14, go_sem, st.1, st.2]; try rfl) rfl ?_
          exact ⟨by rw [er2.out], Ok.set (Ok.set (ok3) (by simp; omega) _) (by simp; omega) _⟩
  | false =>
    rw [n1] at e1
    cases n2 : noB bh with
    | true =>
      rw [n2] at e2
      have EM : Hid (meetM ⟨al, ah⟩ ⟨bl, bh⟩ = ⟨lo, ah⟩) := Lib.hid (by rw [em.out]; simp [n1, n2])
      clear em n1 n2 hlt
      go_enter Try.func14, Try.ntmps14
      go_wp2_with fail
      refine (hra _).mono ?_
      rintro _ w1 ⟨rfl, o1⟩
      have A0 : w1.cell? ⟨w.heap.size, 0, none⟩ = some (.string al) := Ok.cell o1 (by go_cell)
      have A1 : w1.cell? ⟨w.heap.size, 1, none⟩ = some (.string ah) := Ok.cell o1 (by go_cell)
      have B0 : w1.cell? ⟨w.heap.size + 1, 0, none⟩ = some (.string bl) := Ok.cell o1 (by go_cell)
      have B1 : w1.cell? ⟨w.heap.size + 1, 1, none⟩ = some (.string bh) := Ok.cell o1 (by go_cell)
      have R0 : w1.cell? ⟨w.heap.size + 1 + 1, 0, none⟩ = some (.string ⟨#[]⟩) := Ok.cell o1 (by go_cell)
      have R1 : w1.cell? ⟨w.heap.size + 1 + 1, 1, none⟩ = some (.string ⟨#[]⟩) := Ok.cell o1 (by go_cell)
      have F0 : w1.frozen? ⟨w.heap.size + 1 + 1, 0, none⟩ = false := by rw [Below.frozen o1 (by simp)]; go_cell
      have F1 : w1.frozen? ⟨w.heap.size + 1 + 1, 1, none⟩ = false := by rw [Below.frozen o1 (by simp)]; go_cell
      have M0 : w1.cell? ⟨w.heap.size + 1 + 1 + 1, 0, none⟩ = some (.string lo) := Ok.cell o1 (by go_cell)
      have M1 : w1.cell? ⟨w.heap.size + 1 + 1 + 1, 1, none⟩ = some (.string ah) := Ok.cell o1 (by go_cell)
      have ok1 : Ok w w1 := Ok.call (Ok.alloc (Ok.alloc (Ok.alloc (Ok.alloc (Ok.refl w) _) _) _) _) o1
      clear o1
      cases h1 : rightB ⟨al, ah⟩ with
      | false =>
        have h1 := h1
        have er2 : Hid (R = .tuple #[.agg #[.string ⟨#[]⟩, .string ⟨#[]⟩], .bool false]) := Lib.hid (by
          rw [← er.out]; simp [meetV, meetB, spV, allS, h1])
        go_wp2
        have st := store2 w1 (w.heap.size + 1 + 1) _ _ (.string ⟨#[]⟩) (.string ⟨#[]⟩) R0 R1
        (try simp only [Exit.inBlock, Exit.then])
        refine bodyPost_ret (by simp [results, Try.results14, go_sem, st.1, st.2]; try rfl) rfl ?_
        exact ⟨by rw [er2.out], Ok.set (Ok.set (ok1) (by simp; omega) _) (by simp; omega) _⟩
      | true =>
        go_wp2_with fail
        refine (hrb _).mono ?_
        rintro _ w2 ⟨rfl, o2⟩
        have B0 := Ok.cell o2 B0
        have B1 := Ok.cell o2 B1
        have F0 := (Below.frozen o2 (World.block_lt_of_cell? _ _ R0)).trans F0
        have F1 := (Below.frozen o2 (World.block_lt_of_cell? _ _ R1)).trans F1
        have R0 := Ok.cell o2 R0
        have R1 := Ok.cell o2 R1
        have M0 := Ok.cell o2 M0
        have M1 := Ok.cell o2 M1
        have ok2 := Ok.call ok1 o2
        clear o2 ok1
        cases h2 : rightB ⟨bl, bh⟩ with
        | false =>
          have er2 : Hid (R = .tuple #[.agg #[.string ⟨#[]⟩, .string ⟨#[]⟩], .bool false]) := Lib.hid (by
            rw [← er.out]; simp [meetV, meetB, spV, allS, h1, h2])
          go_wp2
          have st := store2 w2 (w.heap.size + 1 + 1) _ _ (.string ⟨#[]⟩) (.string ⟨#[]⟩) R0 R1
          (try simp only [Exit.inBlock, Exit.then])
          refine bodyPost_ret (by simp [results, Try.results14, go_sem, st.1, st.2]; try rfl) rfl ?_
          exact ⟨by rw [er2.out], Ok.set (Ok.set (ok2) (by simp; omega) _) (by simp; omega) _⟩
        | true =>
          have hrm := rright_w ⟨lo, ah⟩
          unfold spV at hrm
          go_wp2_with fail
          refine (hrm _).mono ?_
          rintro _ w3 ⟨rfl, o3⟩
          have F0 := (Below.frozen o3 (World.block_lt_of_cell? _ _ R0)).trans F0
          have F1 := (Below.frozen o3 (World.block_lt_of_cell? _ _ R1)).trans F1
          have R0 := Ok.cell o3 R0
          have R1 := Ok.cell o3 R1
          have M0 := Ok.cell o3 M0
          have M1 := Ok.cell o3 M1
          have ok3 := Ok.call ok2 o3
          clear o3 ok2
          cases h3 : rightB ⟨lo, ah⟩ with
          | false =>
            have er2 : Hid (R = .tuple #[.agg #[.string ⟨#[]⟩, .string ⟨#[]⟩], .bool false]) := Lib.hid (by
              rw [← er.out]; simp [meetV, meetB, spV, allS, h1, h2, EM.out, h3])
            go_wp2
            have st := store2 w3 (w.heap.size + 1 + 1) _ _ (.string ⟨#[]⟩) (.string ⟨#[]⟩) R0 R1
            (try simp only [Exit.inBlock, Exit.then])
            refine bodyPost_ret (by simp [results, Try.results14, go_sem, st.1, st.2]; try rfl) rfl ?_
            exact ⟨by rw [er2.out], Ok.set (Ok.set (ok3) (by simp; omega) _) (by simp; omega) _⟩
          | true =>
            have er2 : Hid (R = .tuple #[.agg #[.string lo, .string ah], .bool true]) := Lib.hid (by
              rw [← er.out]; simp [meetV, meetB, spV, h1, h2, EM.out, h3])
            go_wp2
            have st := store2 w3 (w.heap.size + 1 + 1) _ _ (.string lo) (.string ah) R0 R1
            (try simp only [Exit.inBlock, Exit.then])
            refine bodyPost_ret (by simp [results, Try.results14, go_sem, st.1, st.2]; try rfl) rfl ?_
            exact ⟨by rw [er2.out], Ok.set (Ok.set (ok3) (by simp; omega) _) (by simp; omega) _⟩
    | false =>
      rw [n2] at e2
      have hlt := hlt.out
      cases n3 : ltB bh ah with
      | true =>
        rw [n3] at hlt
        have EM : Hid (meetM ⟨al, ah⟩ ⟨bl, bh⟩ = ⟨lo, bh⟩) := Lib.hid (by rw [em.out]; simp [n1, n2, n3])
        clear em n1 n2 n3
        go_enter Try.func14, Try.ntmps14
        go_wp2_with fail
        refine (hra _).mono ?_
        rintro _ w1 ⟨rfl, o1⟩
        have A0 : w1.cell? ⟨w.heap.size, 0, none⟩ = some (.string al) := Ok.cell o1 (by go_cell)
        have A1 : w1.cell? ⟨w.heap.size, 1, none⟩ = some (.string ah) := Ok.cell o1 (by go_cell)
        have B0 : w1.cell? ⟨w.heap.size + 1, 0, none⟩ = some (.string bl) := Ok.cell o1 (by go_cell)
        have B1 : w1.cell? ⟨w.heap.size + 1, 1, none⟩ = some (.string bh) := Ok.cell o1 (by go_cell)
        have R0 : w1.cell? ⟨w.heap.size + 1 + 1, 0, none⟩ = some (.string ⟨#[]⟩) := Ok.cell o1 (by go_cell)
        have R1 : w1.cell? ⟨w.heap.size + 1 + 1, 1, none⟩ = some (.string ⟨#[]⟩) := Ok.cell o1 (by go_cell)
        have F0 : w1.frozen? ⟨w.heap.size + 1 + 1, 0, none⟩ = false := by rw [Below.frozen o1 (by simp)]; go_cell
        have F1 : w1.frozen? ⟨w.heap.size + 1 + 1, 1, none⟩ = false := by rw [Below.frozen o1 (by simp)]; go_cell
        have M0 : w1.cell? ⟨w.heap.size + 1 + 1 + 1, 0, none⟩ = some (.string lo) := Ok.cell o1 (by go_cell)
        have M1 : w1.cell? ⟨w.heap.size + 1 + 1 + 1, 1, none⟩ = some (.string bh) := Ok.cell o1 (by go_cell)
        have ok1 : Ok w w1 := Ok.call (Ok.alloc (Ok.alloc (Ok.alloc (Ok.alloc (Ok.refl w) _) _) _) _) o1
        clear o1
        cases h1 : rightB ⟨al, ah⟩ with
        | false =>
          have h1 := h1
          have er2 : Hid (R = .tuple #[.agg #[.string ⟨#[]⟩, .string ⟨#[]⟩], .bool false]) := Lib.hid (by
            rw [← er.out]; simp [meetV, meetB, spV, allS, h1])
          go_wp2
          have st := store2 w1 (w.heap.size + 1 + 1) _ _ (.string ⟨#[]⟩) (.string ⟨#[]⟩) R0 R1
          (try simp only [Exit.inBlock, Exit.then])
          refine bodyPost_ret (by simp [results, Try.results14, go_sem, st.1, st.2]; try rfl) rfl ?_
          exact ⟨by rw [er2.out], Ok.set (Ok.set (ok1) (by simp; omega) _) (by simp; omega) _⟩
        | true =>
          go_wp2_with fail
          refine (hrb _).mono ?_
          rintro _ w2 ⟨rfl, o2⟩
          have B0 := Ok.cell o2 B0
          have B1 := Ok.cell o2 B1
          have F0 := (Below.frozen o2 (World.block_lt_of_cell? _ _ R0)).trans F0
          have F1 := (Below.frozen o2 (World.block_lt_of_cell? _ _ R1)).trans F1
          have R0 := Ok.cell o2 R0
          have R1 := Ok.cell o2 R1
          have M0 := Ok.cell o2 M0
          have M1 := Ok.cell o2 M1
          have ok2 := Ok.call ok1 o2
          clear o2 ok1
          cases h2 : rightB ⟨bl, bh⟩ with
          | false =>
            have er2 : Hid (R = .tuple #[.agg #[.string ⟨#[]⟩, .string ⟨#[]⟩], .bool false]) := Lib.hid (by
              rw [← er.out]; simp [meetV, meetB, spV, allS, h1, h2])
            go_wp2
            have st := store2 w2 (w.heap.size + 1 + 1) _ _ (.string ⟨#[]⟩) (.string ⟨#[]⟩) R0 R1
            (try simp only [Exit.inBlock, Exit.then])
            refine bodyPost_ret (by simp [results, Try.results14, go_sem, st.1, st.2]; try rfl) rfl ?_
            exact ⟨by rw [er2.out], Ok.set (Ok.set (ok2) (by simp; omega) _) (by simp; omega) _⟩
          | true =>
            have hrm := rright_w ⟨lo, bh⟩
            unfold spV at hrm
            go_wp2_with fail
            refine (hrm _).mono ?_
            rintro _ w3 ⟨rfl, o3⟩
            have F0 := (Below.frozen o3 (World.block_lt_of_cell? _ _ R0)).trans F0
            have F1 := (Below.frozen o3 (World.block_lt_of_cell? _ _ R1)).trans F1
            have R0 := Ok.cell o3 R0
            have R1 := Ok.cell o3 R1
            have M0 := Ok.cell o3 M0
            have M1 := Ok.cell o3 M1
            have ok3 := Ok.call ok2 o3
            clear o3 ok2
            cases h3 : rightB ⟨lo, bh⟩ with
            | false =>
              have er2 : Hid (R = .tuple #[.agg #[.string ⟨#[]⟩, .string ⟨#[]⟩], .bool false]) := Lib.hid (by
                rw [← er.out]; simp [meetV, meetB, spV, allS, h1, h2, EM.out, h3])
              go_wp2
              have st := store2 w3 (w.heap.size + 1 + 1) _ _ (.string ⟨#[]⟩) (.string ⟨#[]⟩) R0 R1
              (try simp only [Exit.inBlock, Exit.then])
              refine bodyPost_ret (by simp [results, Try.results14, go_sem, st.1, st.2]; try rfl) rfl ?_
              exact ⟨by rw [er2.out], Ok.set (Ok.set (ok3) (by simp; omega) _) (by simp; omega) _⟩
            | true =>
              have er2 : Hid (R = .tuple #[.agg #[.string lo, .string bh], .bool true]) := Lib.hid (by
                rw [← er.out]; simp [meetV, meetB, spV, h1, h2, EM.out, h3])
              go_wp2
              have st := store2 w3 (w.heap.size + 1 + 1) _ _ (.string lo) (.string bh) R0 R1
              (try simp only [Exit.inBlock, Exit.then])
              refine bodyPost_ret (by simp [results, Try.results14, go_sem, st.1, st.2]; try rfl) rfl ?_
              exact ⟨by rw [er2.out], Ok.set (Ok.set (ok3) (by simp; omega) _) (by simp; omega) _⟩
      | false =>
        rw [n3] at hlt
        have EM : Hid (meetM ⟨al, ah⟩ ⟨bl, bh⟩ = ⟨lo, ah⟩) := Lib.hid (by rw [em.out]; simp [n1, n2, n3])
        clear em n1 n2 n3
        go_enter Try.func14, Try.ntmps14
        go_wp2_with fail
        refine (hra _).mono ?_
        rintro _ w1 ⟨rfl, o1⟩
        have A0 : w1.cell? ⟨w.heap.size, 0, none⟩ = some (.string al) := Ok.cell o1 (by go_cell)
        have A1 : w1.cell? ⟨w.heap.size, 1, none⟩ = some (.string ah) := Ok.cell o1 (by go_cell)
        have B0 : w1.cell? ⟨w.heap.size + 1, 0, none⟩ = some (.string bl) := Ok.cell o1 (by go_cell)
        have B1 : w1.cell? ⟨w.heap.size + 1, 1, none⟩ = some (.string bh) := Ok.cell o1 (by go_cell)
        have R0 : w1.cell? ⟨w.heap.size + 1 + 1, 0, none⟩ = some (.string ⟨#[]⟩) := Ok.cell o1 (by go_cell)
        have R1 : w1.cell? ⟨w.heap.size + 1 + 1, 1, none⟩ = some (.string ⟨#[]⟩) := Ok.cell o1 (by go_cell)
        have F0 : w1.frozen? ⟨w.heap.size + 1 + 1, 0, none⟩ = false := by rw [Below.frozen o1 (by simp)]; go_cell
        have F1 : w1.frozen? ⟨w.heap.size + 1 + 1, 1, none⟩ = false := by rw [Below.frozen o1 (by simp)]; go_cell
        have M0 : w1.cell? ⟨w.heap.size + 1 + 1 + 1, 0, none⟩ = some (.string lo) := Ok.cell o1 (by go_cell)
        have M1 : w1.cell? ⟨w.heap.size + 1 + 1 + 1, 1, none⟩ = some (.string ah) := Ok.cell o1 (by go_cell)
        have ok1 : Ok w w1 := Ok.call (Ok.alloc (Ok.alloc (Ok.alloc (Ok.alloc (Ok.refl w) _) _) _) _) o1
        clear o1
        cases h1 : rightB ⟨al, ah⟩ with
        | false =>
          have h1 := h1
          have er2 : Hid (R = .tuple #[.agg #[.string ⟨#[]⟩, .string ⟨#[]⟩], .bool false]) := Lib.hid (by
            rw [← er.out]; simp [meetV, meetB, spV, allS, h1])
          go_wp2
          have st := store2 w1 (w.heap.size + 1 + 1) _ _ (.string ⟨#[]⟩) (.string ⟨#[]⟩) R0 R1
          (try simp only [Exit.inBlock, Exit.then])
          refine bodyPost_ret (by simp [results, Try.results14, go_sem, st.1, st.2]; try rfl) rfl ?_
          exact ⟨by rw [er2.out], Ok.set (Ok.set (ok1) (by simp; omega) _) (by simp; omega) _⟩
        | true =>
          go_wp2_with fail
          refine (hrb _).mono ?_
          rintro _ w2 ⟨rfl, o2⟩
          have B0 := Ok.cell o2 B0
          have B1 := Ok.cell o2 B1
          have F0 := (Below.frozen o2 (World.block_lt_of_cell? _ _ R0)).trans F0
          have F1 := (Below.frozen o2 (World.block_lt_of_cell? _ _ R1)).trans F1
          have R0 := Ok.cell o2 R0
          have R1 := Ok.cell o2 R1
          have M0 := Ok.cell o2 M0
          have M1 := Ok.cell o2 M1
          have ok2 := Ok.call ok1 o2
          clear o2 ok1
          cases h2 : rightB ⟨bl, bh⟩ with
          | false =>
            have er2 : Hid (R = .tuple #[.agg #[.string ⟨#[]⟩, .string ⟨#[]⟩], .bool false]) := Lib.hid (by
              rw [← er.out]; simp [meetV, meetB, spV, allS, h1, h2])
            go_wp2
            have st := store2 w2 (w.heap.size + 1 + 1) _ _ (.string ⟨#[]⟩) (.string ⟨#[]⟩) R0 R1
            (try simp only [Exit.inBlock, Exit.then])
            refine bodyPost_ret (by simp [results, Try.results14, go_sem, st.1, st.2]; try rfl) rfl ?_
            exact ⟨by rw [er2.out], Ok.set (Ok.set (ok2) (by simp; omega) _) (by simp; omega) _⟩
          | true =>
            have hrm := rright_w ⟨lo, ah⟩
            unfold spV at hrm
            go_wp2_with fail
            refine (hrm _).mono ?_
            rintro _ w3 ⟨rfl, o3⟩
            have F0 := (Below.frozen o3 (World.block_lt_of_cell? _ _ R0)).trans F0
            have F1 := (Below.frozen o3 (World.block_lt_of_cell? _ _ R1)).trans F1
            have R0 := Ok.cell o3 R0
            have R1 := Ok.cell o3 R1
            have M0 := Ok.cell o3 M0
            have M1 := Ok.cell o3 M1
            have ok3 := Ok.call ok2 o3
            clear o3 ok2
            cases h3 : rightB ⟨lo, ah⟩ with
            | false =>
              have er2 : Hid (R = .tuple #[.agg #[.string ⟨#[]⟩, .string ⟨#[]⟩], .bool false]) := Lib.hid (by
                rw [← er.out]; simp [meetV, meetB, spV, allS, h1, h2, EM.out, h3])
              go_wp2
              have st := store2 w3 (w.heap.size + 1 + 1) _ _ (.string ⟨#[]⟩) (.string ⟨#[]⟩) R0 R1
              (try simp only [Exit.inBlock, Exit.then])
              refine bodyPost_ret (by simp [results, Try.results14, go_sem, st.1, st.2]; try rfl) rfl ?_
              exact ⟨by rw [er2.out], Ok.set (Ok.set (ok3) (by simp; omega) _) (by simp; omega) _⟩
            | true =>
              have er2 : Hid (R = .tuple #[.agg #[.string lo, .string ah], .bool true]) := Lib.hid (by
                rw [← er.out]; simp [meetV, meetB, spV, h1, h2, EM.out, h3])
              go_wp2
              have st := store2 w3 (w.heap.size + 1 + 1) _ _ (.string lo) (.string ah) R0 R1
              (try simp only [Exit.inBlock, Exit.then])
              refine bodyPost_ret (by simp [results, Try.results14, go_sem, st.1, st.2]; try rfl) rfl ?_
              exact ⟨by rw [er2.out], Ok.set (Ok.set (ok3) (by simp; omega) _) (by simp; omega) _⟩

end Go.Proofs.Ytneipmgkphdfkaa
