/- The law SpanWithin, walked: for any spans and any key it returns true, and turns nothing that was there. -/
import Derived.Test.YtneipmgkphdfkaaK
import Derived.Deep.CutRange
import Derived.Deep.DeepCutAuto
namespace Go.Proofs.Ytneipmgkphdfkaa
open Go.RowKit

structure Held (p : Prop) : Prop where
  out : p

theorem hq_step {P : Program} {ops : Array Oper} {C : World → Prop} {Q : Act → Prop} {a : Act} {o : Oper} {rest : List Oper}
    (h : ∀ K : Act → Prop, (∀ a, Held (wpQuiet P ops C Q rest a) → K a) → if Region.wanted o (yielded ops a.tmps) then o.quiet P a C K else K (a.put o.dst undef)) : Held (wpQuiet P ops C Q (o :: rest) a) :=
  ⟨h (fun a => wpQuiet P ops C Q rest a) (fun _ h => h.out)⟩

set_option maxRecDepth 100000 in
set_option maxHeartbeats 8000000 in
theorem spanWithin_w (a b c : Sp) (key : Str) (w : World) : Calls Try.prog 7 #[spV a, spV b, spV c, .string key] w (Ret w (.bool true)) := by
  have hab := within_w a b
  have hbc := within_w b c
  have hac := within_w a c
  have hba := within_w b a
  have haa := within_w a a
  have hka := has_w a key
  have hkb := has_w b key
  have hra := right_w a
  have hm := meet_w a b
  have hms : Hid (∀ m, meetB a b = some m → (∀ w, Calls Try.prog 15 #[spV m, spV a] w (Ret w (.bool true))) ∧ (∀ w, Calls Try.prog 15 #[spV m, spV b] w (Ret w (.bool true)))) := Lib.hid fun m h => by
    obtain ⟨h1, h2⟩ := meet_within h
    have e1 := within_w m a
    have e2 := within_w m b
    rw [h1] at e1
    rw [h2] at e2
    exact ⟨e1, e2⟩
  have HW := Lib.hid (fun h => within_has (a := a) (b := b) (k := key) h)
  have HT := Lib.hid (fun h1 h2 => within_trans (a := a) (b := b) (c := c) h1 h2)
  have HAN := Lib.hid (fun h1 h2 => within_anti (a := a) (b := b) h1 h2)
  have HL : Hid (rightB a = true → ∀ w, Calls Try.prog 15 #[spV a, spV allS] w (Ret w (.bool true))) := Lib.hid fun h => by
    have e := within_w a allS
    rw [within_all a h] at e
    exact e
  rw [within_self] at haa
  obtain ⟨al, ah⟩ := a
  obtain ⟨bl, bh⟩ := b
  obtain ⟨cl, ch⟩ := c
  unfold spV at hab hbc hac hba haa hka hkb hra hm hms HL ⊢
  simp only [allS] at HL
  go_enter Try.func7, Try.ntmps7
  go_wp2_with fail
  refine (awake_w _).mono ?_
  rintro _ w1 ⟨rfl, o1⟩
  have A0 : w1.cell? ⟨w.heap.size, 0, none⟩ = some (.string al) := Ok.cell o1 (by go_cell)
  have A1 : w1.cell? ⟨w.heap.size, 1, none⟩ = some (.string ah) := Ok.cell o1 (by go_cell)
  have B0 : w1.cell? ⟨w.heap.size + 1, 0, none⟩ = some (.string bl) := Ok.cell o1 (by go_cell)
  have B1 : w1.cell? ⟨w.heap.size + 1, 1, none⟩ = some (.string bh) := Ok.cell o1 (by go_cell)
  have C0 : w1.cell? ⟨w.heap.size + 1 + 1, 0, none⟩ = some (.string cl) := Ok.cell o1 (by go_cell)
  have C1 : w1.cell? ⟨w.heap.size + 1 + 1, 1, none⟩ = some (.string ch) := Ok.cell o1 (by go_cell)
  have ok1 : Ok w w1 := Ok.call (Ok.alloc (Ok.alloc (Ok.alloc (Ok.refl w) _) _) _) o1
  clear o1
  have HS : Hid (Strs (w1.heap.size + 1) (w1.alloc (.cells #[.string al, .string ah, .string bl, .string bh, .string cl, .string ch, .string key] 9)) (.slice (some ⟨w1.heap.size, 0, none⟩) 7 7) [al, ah, bl, bh, cl, ch, key]) := Lib.hid (by
    refine .inr ⟨w1.heap.size, 0, 7, rfl, Nat.lt_succ_self _, fun j hj => ?_⟩
    have e : ∀ i, (w1.alloc (.cells #[.string al, .string ah, .string bl, .string bh, .string cl, .string ch, .string key] 9)).cell? ⟨w1.heap.size, i, none⟩ = #[Value.string al, .string ah, .string bl, .string bh, .string cl, .string ch, .string key][i]? := fun i => World.cell?_alloc_at _ _ _ _ rfl
    rw [Nat.zero_add, e]
    match j, hj with
    | 0, _ => rfl
    | 1, _ => rfl
    | 2, _ => rfl
    | 3, _ => rfl
    | 4, _ => rfl
    | 5, _ => rfl
    | 6, _ => rfl)
  go_wp2_with fail
  refine (few_w _ _ _ _ HS.out).mono ?_
  rintro _ w2 ⟨⟨r, rfl, -⟩, rfl⟩
  generalize hW2 : w1.alloc (.cells #[.string al, .string ah, .string bl, .string bh, .string cl, .string ch, .string key] 9) = w2
  have o2 : Ok w1 w2 := by subst hW2; exact Ok.alloc (Ok.refl _) _
  clear hW2 HS
  have A0 := Ok.cell o2 A0
  have A1 := Ok.cell o2 A1
  have B0 := Ok.cell o2 B0
  have B1 := Ok.cell o2 B1
  have C0 := Ok.cell o2 C0
  have C1 := Ok.cell o2 C1
  have ok2 := Ok.call ok1 o2
  clear o2 ok1
  cases r with
  | false =>
    go_wp2
    go_ret
    exact ⟨rfl, ok2⟩
  | true =>
    go_upto_region 5 with fail
    go_cut [63] from 29 to 63 (fun v wx => v = .bool false ∧ Ok w2 wx)
    case first =>
      cases h1 : withinB ⟨al, ah⟩ ⟨bl, bh⟩ with
      | false =>
        rw [h1] at hab
        go_wp2_with fail
        refine (hab _).mono ?_
        rintro _ w3 ⟨rfl, o3⟩
        go_wp2
        go_meet
        exact ⟨rfl, o3⟩
      | true =>
        rw [h1] at hab
        cases h2 : hasB ⟨al, ah⟩ key with
        | false =>
          rw [h2] at hka
          cases h3 : withinB ⟨bl, bh⟩ ⟨cl, ch⟩ with
          | false =>
            rw [h3] at hbc
            cases h4 : withinB ⟨bl, bh⟩ ⟨al, ah⟩ with
            | false =>
              rw [h4] at hba
              go_wp2_with fail
              refine (hab _).mono ?_
              rintro _ w3 ⟨rfl, o3⟩
              have A0 := Ok.cell o3 A0
              have A1 := Ok.cell o3 A1
              have B0 := Ok.cell o3 B0
              have B1 := Ok.cell o3 B1
              have C0 := Ok.cell o3 C0
              have C1 := Ok.cell o3 C1
              go_wp2_with fail
              refine (hka _).mono ?_
              rintro _ w4 ⟨rfl, o4⟩
              have A0 := Ok.cell o4 A0
              have A1 := Ok.cell o4 A1
              have B0 := Ok.cell o4 B0
              have B1 := Ok.cell o4 B1
              have C0 := Ok.cell o4 C0
              have C1 := Ok.cell o4 C1
              go_wp2_with fail
              refine (hbc _).mono ?_
              rintro _ w5 ⟨rfl, o5⟩
              have A0 := Ok.cell o5 A0
              have A1 := Ok.cell o5 A1
              have B0 := Ok.cell o5 B0
              have B1 := Ok.cell o5 B1
              have C0 := Ok.cell o5 C0
              have C1 := Ok.cell o5 C1
              go_wp2_with fail
              refine (hba _).mono ?_
              rintro _ w6 ⟨rfl, o6⟩
              have A0 := Ok.cell o6 A0
              have A1 := Ok.cell o6 A1
              have B0 := Ok.cell o6 B0
              have B1 := Ok.cell o6 B1
              have C0 := Ok.cell o6 C0
              have C1 := Ok.cell o6 C1
              go_wp2
              go_meet
              exact ⟨rfl, (Ok.call (Ok.call (Ok.call o3 o4) o5) o6)⟩
            | true =>
              rw [h4] at hba
              have heq := HAN.out h1 h4
              obtain ⟨e1, e2⟩ : al = bl ∧ ah = bh := by simpa using heq
              subst e1 e2
              clear heq
              go_wp2_with fail
              refine (hab _).mono ?_
              rintro _ w3 ⟨rfl, o3⟩
              have A0 := Ok.cell o3 A0
              have A1 := Ok.cell o3 A1
              have B0 := Ok.cell o3 B0
              have B1 := Ok.cell o3 B1
              have C0 := Ok.cell o3 C0
              have C1 := Ok.cell o3 C1
              go_wp2_with fail
              refine (hka _).mono ?_
              rintro _ w4 ⟨rfl, o4⟩
              have A0 := Ok.cell o4 A0
              have A1 := Ok.cell o4 A1
              have B0 := Ok.cell o4 B0
              have B1 := Ok.cell o4 B1
              have C0 := Ok.cell o4 C0
              have C1 := Ok.cell o4 C1
              go_wp2_with fail
              refine (hbc _).mono ?_
              rintro _ w5 ⟨rfl, o5⟩
              have A0 := Ok.cell o5 A0
              have A1 := Ok.cell o5 A1
              have B0 := Ok.cell o5 B0
              have B1 := Ok.cell o5 B1
              have C0 := Ok.cell o5 C0
              have C1 := Ok.cell o5 C1
              go_wp2_with fail
              refine (hba _).mono ?_
              rintro _ w6 ⟨rfl, o6⟩
              have A0 := Ok.cell o6 A0
              have A1 := Ok.cell o6 A1
              have B0 := Ok.cell o6 B0
              have B1 := Ok.cell o6 B1
              have C0 := Ok.cell o6 C0
              have C1 := Ok.cell o6 C1
              go_wp2
              go_meet
              exact ⟨rfl, (Ok.call (Ok.call (Ok.call o3 o4) o5) o6)⟩
          | true =>
            rw [h3] at hbc
            rw [HT.out h1 h3] at hac
            cases h4 : withinB ⟨bl, bh⟩ ⟨al, ah⟩ with
            | false =>
              rw [h4] at hba
              go_wp2_with fail
              refine (hab _).mono ?_
              rintro _ w3 ⟨rfl, o3⟩
              have A0 := Ok.cell o3 A0
              have A1 := Ok.cell o3 A1
              have B0 := Ok.cell o3 B0
              have B1 := Ok.cell o3 B1
              have C0 := Ok.cell o3 C0
              have C1 := Ok.cell o3 C1
              go_wp2_with fail
              refine (hka _).mono ?_
              rintro _ w4 ⟨rfl, o4⟩
              have A0 := Ok.cell o4 A0
              have A1 := Ok.cell o4 A1
              have B0 := Ok.cell o4 B0
              have B1 := Ok.cell o4 B1
              have C0 := Ok.cell o4 C0
              have C1 := Ok.cell o4 C1
              go_wp2_with fail
              refine (hbc _).mono ?_
              rintro _ w5 ⟨rfl, o5⟩
              have A0 := Ok.cell o5 A0
              have A1 := Ok.cell o5 A1
              have B0 := Ok.cell o5 B0
              have B1 := Ok.cell o5 B1
              have C0 := Ok.cell o5 C0
              have C1 := Ok.cell o5 C1
              go_wp2_with fail
              refine (hac _).mono ?_
              rintro _ w6 ⟨rfl, o6⟩
              have A0 := Ok.cell o6 A0
              have A1 := Ok.cell o6 A1
              have B0 := Ok.cell o6 B0
              have B1 := Ok.cell o6 B1
              have C0 := Ok.cell o6 C0
              have C1 := Ok.cell o6 C1
              go_wp2_with fail
              refine (hba _).mono ?_
              rintro _ w7 ⟨rfl, o7⟩
              have A0 := Ok.cell o7 A0
              have A1 := Ok.cell o7 A1
              have B0 := Ok.cell o7 B0
              have B1 := Ok.cell o7 B1
              have C0 := Ok.cell o7 C0
              have C1 := Ok.cell o7 C1
              go_wp2
              go_meet
              exact ⟨rfl, (Ok.call (Ok.call (Ok.call (Ok.call o3 o4) o5) o6) o7)⟩
            | true =>
              rw [h4] at hba
              have heq := HAN.out h1 h4
              obtain ⟨e1, e2⟩ : al = bl ∧ ah = bh := by simpa using heq
              subst e1 e2
              clear heq
              go_wp2_with fail
              refine (hab _).mono ?_
              rintro _ w3 ⟨rfl, o3⟩
              have A0 := Ok.cell o3 A0
              have A1 := Ok.cell o3 A1
              have B0 := Ok.cell o3 B0
              have B1 := Ok.cell o3 B1
              have C0 := Ok.cell o3 C0
              have C1 := Ok.cell o3 C1
              go_wp2_with fail
              refine (hka _).mono ?_
              rintro _ w4 ⟨rfl, o4⟩
              have A0 := Ok.cell o4 A0
              have A1 := Ok.cell o4 A1
              have B0 := Ok.cell o4 B0
              have B1 := Ok.cell o4 B1
              have C0 := Ok.cell o4 C0
              have C1 := Ok.cell o4 C1
              go_wp2_with fail
              refine (hbc _).mono ?_
              rintro _ w5 ⟨rfl, o5⟩
              have A0 := Ok.cell o5 A0
              have A1 := Ok.cell o5 A1
              have B0 := Ok.cell o5 B0
              have B1 := Ok.cell o5 B1
              have C0 := Ok.cell o5 C0
              have C1 := Ok.cell o5 C1
              go_wp2_with fail
              refine (hac _).mono ?_
              rintro _ w6 ⟨rfl, o6⟩
              have A0 := Ok.cell o6 A0
              have A1 := Ok.cell o6 A1
              have B0 := Ok.cell o6 B0
              have B1 := Ok.cell o6 B1
              have C0 := Ok.cell o6 C0
              have C1 := Ok.cell o6 C1
              go_wp2_with fail
              refine (hba _).mono ?_
              rintro _ w7 ⟨rfl, o7⟩
              have A0 := Ok.cell o7 A0
              have A1 := Ok.cell o7 A1
              have B0 := Ok.cell o7 B0
              have B1 := Ok.cell o7 B1
              have C0 := Ok.cell o7 C0
              have C1 := Ok.cell o7 C1
              go_wp2
              go_meet
              exact ⟨rfl, (Ok.call (Ok.call (Ok.call (Ok.call o3 o4) o5) o6) o7)⟩
        | true =>
          rw [h2] at hka
          rw [HW.out h1 h2] at hkb
          cases h3 : withinB ⟨bl, bh⟩ ⟨cl, ch⟩ with
          | false =>
            rw [h3] at hbc
            cases h4 : withinB ⟨bl, bh⟩ ⟨al, ah⟩ with
            | false =>
              rw [h4] at hba
              go_wp2_with fail
              refine (hab _).mono ?_
              rintro _ w3 ⟨rfl, o3⟩
              have A0 := Ok.cell o3 A0
              have A1 := Ok.cell o3 A1
              have B0 := Ok.cell o3 B0
              have B1 := Ok.cell o3 B1
              have C0 := Ok.cell o3 C0
              have C1 := Ok.cell o3 C1
              go_wp2_with fail
              refine (hka _).mono ?_
              rintro _ w4 ⟨rfl, o4⟩
              have A0 := Ok.cell o4 A0
              have A1 := Ok.cell o4 A1
              have B0 := Ok.cell o4 B0
              have B1 := Ok.cell o4 B1
              have C0 := Ok.cell o4 C0
              have C1 := Ok.cell o4 C1
              go_wp2_with fail
              refine (hkb _).mono ?_
              rintro _ w5 ⟨rfl, o5⟩
              have A0 := Ok.cell o5 A0
              have A1 := Ok.cell o5 A1
              have B0 := Ok.cell o5 B0
              have B1 := Ok.cell o5 B1
              have C0 := Ok.cell o5 C0
              have C1 := Ok.cell o5 C1
              go_wp2_with fail
              refine (hbc _).mono ?_
              rintro _ w6 ⟨rfl, o6⟩
              have A0 := Ok.cell o6 A0
              have A1 := Ok.cell o6 A1
              have B0 := Ok.cell o6 B0
              have B1 := Ok.cell o6 B1
              have C0 := Ok.cell o6 C0
              have C1 := Ok.cell o6 C1
              go_wp2_with fail
              refine (hba _).mono ?_
              rintro _ w7 ⟨rfl, o7⟩
              have A0 := Ok.cell o7 A0
              have A1 := Ok.cell o7 A1
              have B0 := Ok.cell o7 B0
              have B1 := Ok.cell o7 B1
              have C0 := Ok.cell o7 C0
              have C1 := Ok.cell o7 C1
              go_wp2
              go_meet
              exact ⟨rfl, (Ok.call (Ok.call (Ok.call (Ok.call o3 o4) o5) o6) o7)⟩
            | true =>
              rw [h4] at hba
              have heq := HAN.out h1 h4
              obtain ⟨e1, e2⟩ : al = bl ∧ ah = bh := by simpa using heq
              subst e1 e2
              clear heq
              go_wp2_with fail
              refine (hab _).mono ?_
              rintro _ w3 ⟨rfl, o3⟩
              have A0 := Ok.cell o3 A0
              have A1 := Ok.cell o3 A1
              have B0 := Ok.cell o3 B0
              have B1 := Ok.cell o3 B1
              have C0 := Ok.cell o3 C0
              have C1 := Ok.cell o3 C1
              go_wp2_with fail
              refine (hka _).mono ?_
              rintro _ w4 ⟨rfl, o4⟩
              have A0 := Ok.cell o4 A0
              have A1 := Ok.cell o4 A1
              have B0 := Ok.cell o4 B0
              have B1 := Ok.cell o4 B1
              have C0 := Ok.cell o4 C0
              have C1 := Ok.cell o4 C1
              go_wp2_with fail
              refine (hkb _).mono ?_
              rintro _ w5 ⟨rfl, o5⟩
              have A0 := Ok.cell o5 A0
              have A1 := Ok.cell o5 A1
              have B0 := Ok.cell o5 B0
              have B1 := Ok.cell o5 B1
              have C0 := Ok.cell o5 C0
              have C1 := Ok.cell o5 C1
              go_wp2_with fail
              refine (hbc _).mono ?_
              rintro _ w6 ⟨rfl, o6⟩
              have A0 := Ok.cell o6 A0
              have A1 := Ok.cell o6 A1
              have B0 := Ok.cell o6 B0
              have B1 := Ok.cell o6 B1
              have C0 := Ok.cell o6 C0
              have C1 := Ok.cell o6 C1
              go_wp2_with fail
              refine (hba _).mono ?_
              rintro _ w7 ⟨rfl, o7⟩
              have A0 := Ok.cell o7 A0
              have A1 := Ok.cell o7 A1
              have B0 := Ok.cell o7 B0
              have B1 := Ok.cell o7 B1
              have C0 := Ok.cell o7 C0
              have C1 := Ok.cell o7 C1
              go_wp2
              go_meet
              exact ⟨rfl, (Ok.call (Ok.call (Ok.call (Ok.call o3 o4) o5) o6) o7)⟩
          | true =>
            rw [h3] at hbc
            rw [HT.out h1 h3] at hac
            cases h4 : withinB ⟨bl, bh⟩ ⟨al, ah⟩ with
            | false =>
              rw [h4] at hba
              go_wp2_with fail
              refine (hab _).mono ?_
              rintro _ w3 ⟨rfl, o3⟩
              have A0 := Ok.cell o3 A0
              have A1 := Ok.cell o3 A1
              have B0 := Ok.cell o3 B0
              have B1 := Ok.cell o3 B1
              have C0 := Ok.cell o3 C0
              have C1 := Ok.cell o3 C1
              go_wp2_with fail
              refine (hka _).mono ?_
              rintro _ w4 ⟨rfl, o4⟩
              have A0 := Ok.cell o4 A0
              have A1 := Ok.cell o4 A1
              have B0 := Ok.cell o4 B0
              have B1 := Ok.cell o4 B1
              have C0 := Ok.cell o4 C0
              have C1 := Ok.cell o4 C1
              go_wp2_with fail
              refine (hkb _).mono ?_
              rintro _ w5 ⟨rfl, o5⟩
              have A0 := Ok.cell o5 A0
              have A1 := Ok.cell o5 A1
              have B0 := Ok.cell o5 B0
              have B1 := Ok.cell o5 B1
              have C0 := Ok.cell o5 C0
              have C1 := Ok.cell o5 C1
              go_wp2_with fail
              refine (hbc _).mono ?_
              rintro _ w6 ⟨rfl, o6⟩
              have A0 := Ok.cell o6 A0
              have A1 := Ok.cell o6 A1
              have B0 := Ok.cell o6 B0
              have B1 := Ok.cell o6 B1
              have C0 := Ok.cell o6 C0
              have C1 := Ok.cell o6 C1
              go_wp2_with fail
              refine (hac _).mono ?_
              rintro _ w7 ⟨rfl, o7⟩
              have A0 := Ok.cell o7 A0
              have A1 := Ok.cell o7 A1
              have B0 := Ok.cell o7 B0
              have B1 := Ok.cell o7 B1
              have C0 := Ok.cell o7 C0
              have C1 := Ok.cell o7 C1
              go_wp2_with fail
              refine (hba _).mono ?_
              rintro _ w8 ⟨rfl, o8⟩
              have A0 := Ok.cell o8 A0
              have A1 := Ok.cell o8 A1
              have B0 := Ok.cell o8 B0
              have B1 := Ok.cell o8 B1
              have C0 := Ok.cell o8 C0
              have C1 := Ok.cell o8 C1
              go_wp2
              go_meet
              exact ⟨rfl, (Ok.call (Ok.call (Ok.call (Ok.call (Ok.call o3 o4) o5) o6) o7) o8)⟩
            | true =>
              rw [h4] at hba
              have heq := HAN.out h1 h4
              obtain ⟨e1, e2⟩ : al = bl ∧ ah = bh := by simpa using heq
              subst e1 e2
              clear heq
              go_wp2_with fail
              refine (hab _).mono ?_
              rintro _ w3 ⟨rfl, o3⟩
              have A0 := Ok.cell o3 A0
              have A1 := Ok.cell o3 A1
              have B0 := Ok.cell o3 B0
              have B1 := Ok.cell o3 B1
              have C0 := Ok.cell o3 C0
              have C1 := Ok.cell o3 C1
              go_wp2_with fail
              refine (hka _).mono ?_
              rintro _ w4 ⟨rfl, o4⟩
              have A0 := Ok.cell o4 A0
              have A1 := Ok.cell o4 A1
              have B0 := Ok.cell o4 B0
              have B1 := Ok.cell o4 B1
              have C0 := Ok.cell o4 C0
              have C1 := Ok.cell o4 C1
              go_wp2_with fail
              refine (hkb _).mono ?_
              rintro _ w5 ⟨rfl, o5⟩
              have A0 := Ok.cell o5 A0
              have A1 := Ok.cell o5 A1
              have B0 := Ok.cell o5 B0
              have B1 := Ok.cell o5 B1
              have C0 := Ok.cell o5 C0
              have C1 := Ok.cell o5 C1
              go_wp2_with fail
              refine (hbc _).mono ?_
              rintro _ w6 ⟨rfl, o6⟩
              have A0 := Ok.cell o6 A0
              have A1 := Ok.cell o6 A1
              have B0 := Ok.cell o6 B0
              have B1 := Ok.cell o6 B1
              have C0 := Ok.cell o6 C0
              have C1 := Ok.cell o6 C1
              go_wp2_with fail
              refine (hac _).mono ?_
              rintro _ w7 ⟨rfl, o7⟩
              have A0 := Ok.cell o7 A0
              have A1 := Ok.cell o7 A1
              have B0 := Ok.cell o7 B0
              have B1 := Ok.cell o7 B1
              have C0 := Ok.cell o7 C0
              have C1 := Ok.cell o7 C1
              go_wp2_with fail
              refine (hba _).mono ?_
              rintro _ w8 ⟨rfl, o8⟩
              have A0 := Ok.cell o8 A0
              have A1 := Ok.cell o8 A1
              have B0 := Ok.cell o8 B0
              have B1 := Ok.cell o8 B1
              have C0 := Ok.cell o8 C0
              have C1 := Ok.cell o8 C1
              go_wp2
              go_meet
              exact ⟨rfl, (Ok.call (Ok.call (Ok.call (Ok.call (Ok.call o3 o4) o5) o6) o7) o8)⟩
    case rest =>
      obtain ⟨rfl, o3⟩ := hcut
      have A0 := Ok.cell o3 A0
      have A1 := Ok.cell o3 A1
      have B0 := Ok.cell o3 B0
      have B1 := Ok.cell o3 B1
      have ok3 := Ok.call ok2 o3
      clear o3 ok2
      go_wp2_with fail
      refine (hm _).mono ?_
      rintro _ w4 ⟨rfl, o4⟩
      have A0 := Ok.cell o4 A0
      have A1 := Ok.cell o4 A1
      have B0 := Ok.cell o4 B0
      have B1 := Ok.cell o4 B1
      have ok4 := Ok.call ok3 o4
      clear o4 ok3
      have HALL := Lib.hid all_w
      simp only [spV, allS] at HALL
      cases hme : meetB ⟨al, ah⟩ ⟨bl, bh⟩ with
      | none =>
        obtain ⟨ml, mh, ev⟩ : ∃ ml mh, meetV ⟨al, ah⟩ ⟨bl, bh⟩ = .tuple #[.agg #[.string ml, .string mh], .bool false] := ⟨⟨#[]⟩, ⟨#[]⟩, by simp [meetV, hme, spV, allS]⟩
        rw [ev]
        cases h5 : rightB ⟨al, ah⟩ with
        | false =>
          rw [h5] at haa hra
          go_upto_region 8 with fail
          generalize hW : w4.alloc (Obj.cells #[Value.string ml, Value.string mh] 23) = W
          have o5 : Ok w4 W := by subst hW; exact Ok.alloc (Ok.refl _) _
          have M0 : W.cell? ⟨w4.heap.size, 0, none⟩ = some (.string ml) := by subst hW; go_cell
          have M1 : W.cell? ⟨w4.heap.size, 1, none⟩ = some (.string mh) := by subst hW; go_cell
          clear hW
          have A0 := Ok.cell o5 A0
          have A1 := Ok.cell o5 A1
          have B0 := Ok.cell o5 B0
          have B1 := Ok.cell o5 B1
          have ok5 := Ok.call ok4 o5
          clear o5 ok4
          have kA0 := cell_regrown A0
          have kA1 := cell_regrown A1
          have kB0 := cell_regrown B0
          have kB1 := cell_regrown B1
          have kM0 := cell_regrown M0
          have kM1 := cell_regrown M1
          have q0 : ∀ d os, Calls Try.prog 15 #[.agg #[.string al, .string ah], .agg #[.string al, .string ah]] (Go.Sort.grow (redrawn W d) os) fun e w'' => e = .returned (.bool false) ∧ ∃ p : Regrown, w'' = Go.Sort.grow (redrawn W p.d) p.os := fun d os => Calls.regrown_of (haa _)
          have q1 : ∀ d os, Calls Try.prog 17 #[.agg #[.string al, .string ah]] (Go.Sort.grow (redrawn W d) os) fun e w'' => e = .returned (.bool false) ∧ ∃ p : Regrown, w'' = Go.Sort.grow (redrawn W p.d) p.os := fun d os => Calls.regrown_of (hra _)
          have q2 : ∀ d os, Calls Try.prog 30 #[] (Go.Sort.grow (redrawn W d) os) fun e w'' => e = .returned (.agg #[.string ⟨#[]⟩, .string ⟨#[]⟩]) ∧ ∃ p : Regrown, w'' = Go.Sort.grow (redrawn W p.d) p.os := fun d os => Calls.regrown_of (HALL.out _)
          refine wp_region_quiet_below (by kernel_rfl) (by kernel_rfl) ?_
          refine Held.out ?_
          repeat (
            refine hq_step (fun K hK => ?_)
            go_simp
            first
              | (refine hK _ ?_; clear hK K)
              | (apply Exists.intro
                 refine ⟨fun _ => ?_, hK _ ?_⟩
                 (first | (with_reducible exact q0 _ _) | (with_reducible exact q1 _ _) | (with_reducible exact q2 _ _))
                 clear hK K))
          refine Held.mk (wpQuiet_nil ?_)
          intro _ hw'
          obtain ⟨⟨dq, osq⟩, hw''⟩ := hw'
          subst hw''
          go_wp2
          go_ret
          exact ⟨rfl, Ok.call ok5 (below_regrown W dq osq)⟩
        | true =>
          rw [h5] at haa hra
          have hal := HL.out h5
          go_upto_region 8 with fail
          generalize hW : w4.alloc (Obj.cells #[Value.string ml, Value.string mh] 23) = W
          have o5 : Ok w4 W := by subst hW; exact Ok.alloc (Ok.refl _) _
          have M0 : W.cell? ⟨w4.heap.size, 0, none⟩ = some (.string ml) := by subst hW; go_cell
          have M1 : W.cell? ⟨w4.heap.size, 1, none⟩ = some (.string mh) := by subst hW; go_cell
          clear hW
          have A0 := Ok.cell o5 A0
          have A1 := Ok.cell o5 A1
          have B0 := Ok.cell o5 B0
          have B1 := Ok.cell o5 B1
          have ok5 := Ok.call ok4 o5
          clear o5 ok4
          have kA0 := cell_regrown A0
          have kA1 := cell_regrown A1
          have kB0 := cell_regrown B0
          have kB1 := cell_regrown B1
          have kM0 := cell_regrown M0
          have kM1 := cell_regrown M1
          have q0 : ∀ d os, Calls Try.prog 15 #[.agg #[.string al, .string ah], .agg #[.string al, .string ah]] (Go.Sort.grow (redrawn W d) os) fun e w'' => e = .returned (.bool true) ∧ ∃ p : Regrown, w'' = Go.Sort.grow (redrawn W p.d) p.os := fun d os => Calls.regrown_of (haa _)
          have q1 : ∀ d os, Calls Try.prog 17 #[.agg #[.string al, .string ah]] (Go.Sort.grow (redrawn W d) os) fun e w'' => e = .returned (.bool true) ∧ ∃ p : Regrown, w'' = Go.Sort.grow (redrawn W p.d) p.os := fun d os => Calls.regrown_of (hra _)
          have q2 : ∀ d os, Calls Try.prog 30 #[] (Go.Sort.grow (redrawn W d) os) fun e w'' => e = .returned (.agg #[.string ⟨#[]⟩, .string ⟨#[]⟩]) ∧ ∃ p : Regrown, w'' = Go.Sort.grow (redrawn W p.d) p.os := fun d os => Calls.regrown_of (HALL.out _)
          have q3 : ∀ d os, Calls Try.prog 15 #[.agg #[.string al, .string ah], .agg #[.string ⟨#[]⟩, .string ⟨#[]⟩]] (Go.Sort.grow (redrawn W d) os) fun e w'' => e = .returned (.bool true) ∧ ∃ p : Regrown, w'' = Go.Sort.grow (redrawn W p.d) p.os := fun d os => Calls.regrown_of (hal _)
          refine wp_region_quiet_below (by kernel_rfl) (by kernel_rfl) ?_
          refine Held.out ?_
          repeat (
            refine hq_step (fun K hK => ?_)
            go_simp
            first
              | (refine hK _ ?_; clear hK K)
              | (apply Exists.intro
                 refine ⟨fun _ => ?_, hK _ ?_⟩
                 (first | (with_reducible exact q0 _ _) | (with_reducible exact q1 _ _) | (with_reducible exact q2 _ _) | (with_reducible exact q3 _ _))
                 clear hK K))
          refine Held.mk (wpQuiet_nil ?_)
          intro _ hw'
          obtain ⟨⟨dq, osq⟩, hw''⟩ := hw'
          subst hw''
          go_wp2
          go_ret
          exact ⟨rfl, Ok.call ok5 (below_regrown W dq osq)⟩
      | some m =>
        obtain ⟨ml, mh⟩ := m
        have ev : meetV ⟨al, ah⟩ ⟨bl, bh⟩ = .tuple #[.agg #[.string ml, .string mh], .bool true] := by simp [meetV, hme, spV]
        rw [ev]
        obtain ⟨hma, hmb⟩ := hms.out _ hme
        cases h5 : rightB ⟨al, ah⟩ with
        | false =>
          rw [h5] at haa hra
          go_upto_region 8 with fail
          generalize hW : w4.alloc (Obj.cells #[Value.string ml, Value.string mh] 23) = W
          have o5 : Ok w4 W := by subst hW; exact Ok.alloc (Ok.refl _) _
          have M0 : W.cell? ⟨w4.heap.size, 0, none⟩ = some (.string ml) := by subst hW; go_cell
          have M1 : W.cell? ⟨w4.heap.size, 1, none⟩ = some (.string mh) := by subst hW; go_cell
          clear hW
          have A0 := Ok.cell o5 A0
          have A1 := Ok.cell o5 A1
          have B0 := Ok.cell o5 B0
          have B1 := Ok.cell o5 B1
          have ok5 := Ok.call ok4 o5
          clear o5 ok4
          have kA0 := cell_regrown A0
          have kA1 := cell_regrown A1
          have kB0 := cell_regrown B0
          have kB1 := cell_regrown B1
          have kM0 := cell_regrown M0
          have kM1 := cell_regrown M1
          have q0 : ∀ d os, Calls Try.prog 15 #[.agg #[.string al, .string ah], .agg #[.string al, .string ah]] (Go.Sort.grow (redrawn W d) os) fun e w'' => e = .returned (.bool false) ∧ ∃ p : Regrown, w'' = Go.Sort.grow (redrawn W p.d) p.os := fun d os => Calls.regrown_of (haa _)
          have q1 : ∀ d os, Calls Try.prog 17 #[.agg #[.string al, .string ah]] (Go.Sort.grow (redrawn W d) os) fun e w'' => e = .returned (.bool false) ∧ ∃ p : Regrown, w'' = Go.Sort.grow (redrawn W p.d) p.os := fun d os => Calls.regrown_of (hra _)
          have q2 : ∀ d os, Calls Try.prog 30 #[] (Go.Sort.grow (redrawn W d) os) fun e w'' => e = .returned (.agg #[.string ⟨#[]⟩, .string ⟨#[]⟩]) ∧ ∃ p : Regrown, w'' = Go.Sort.grow (redrawn W p.d) p.os := fun d os => Calls.regrown_of (HALL.out _)
          have q3 : ∀ d os, Calls Try.prog 15 #[.agg #[.string ml, .string mh], .agg #[.string al, .string ah]] (Go.Sort.grow (redrawn W d) os) fun e w'' => e = .returned (.bool true) ∧ ∃ p : Regrown, w'' = Go.Sort.grow (redrawn W p.d) p.os := fun d os => Calls.regrown_of (hma _)
          have q4 : ∀ d os, Calls Try.prog 15 #[.agg #[.string ml, .string mh], .agg #[.string bl, .string bh]] (Go.Sort.grow (redrawn W d) os) fun e w'' => e = .returned (.bool true) ∧ ∃ p : Regrown, w'' = Go.Sort.grow (redrawn W p.d) p.os := fun d os => Calls.regrown_of (hmb _)
          refine wp_region_quiet_below (by kernel_rfl) (by kernel_rfl) ?_
          refine Held.out ?_
          repeat (
            refine hq_step (fun K hK => ?_)
            go_simp
            first
              | (refine hK _ ?_; clear hK K)
              | (apply Exists.intro
                 refine ⟨fun _ => ?_, hK _ ?_⟩
                 (first | (with_reducible exact q0 _ _) | (with_reducible exact q1 _ _) | (with_reducible exact q2 _ _) | (with_reducible exact q3 _ _) | (with_reducible exact q4 _ _))
                 clear hK K))
          refine Held.mk (wpQuiet_nil ?_)
          intro _ hw'
          obtain ⟨⟨dq, osq⟩, hw''⟩ := hw'
          subst hw''
          go_wp2
          go_ret
          exact ⟨rfl, Ok.call ok5 (below_regrown W dq osq)⟩
        | true =>
          rw [h5] at haa hra
          have hal := HL.out h5
          go_upto_region 8 with fail
          generalize hW : w4.alloc (Obj.cells #[Value.string ml, Value.string mh] 23) = W
          have o5 : Ok w4 W := by subst hW; exact Ok.alloc (Ok.refl _) _
          have M0 : W.cell? ⟨w4.heap.size, 0, none⟩ = some (.string ml) := by subst hW; go_cell
          have M1 : W.cell? ⟨w4.heap.size, 1, none⟩ = some (.string mh) := by subst hW; go_cell
          clear hW
          have A0 := Ok.cell o5 A0
          have A1 := Ok.cell o5 A1
          have B0 := Ok.cell o5 B0
          have B1 := Ok.cell o5 B1
          have ok5 := Ok.call ok4 o5
          clear o5 ok4
          have kA0 := cell_regrown A0
          have kA1 := cell_regrown A1
          have kB0 := cell_regrown B0
          have kB1 := cell_regrown B1
          have kM0 := cell_regrown M0
          have kM1 := cell_regrown M1
          have q0 : ∀ d os, Calls Try.prog 15 #[.agg #[.string al, .string ah], .agg #[.string al, .string ah]] (Go.Sort.grow (redrawn W d) os) fun e w'' => e = .returned (.bool true) ∧ ∃ p : Regrown, w'' = Go.Sort.grow (redrawn W p.d) p.os := fun d os => Calls.regrown_of (haa _)
          have q1 : ∀ d os, Calls Try.prog 17 #[.agg #[.string al, .string ah]] (Go.Sort.grow (redrawn W d) os) fun e w'' => e = .returned (.bool true) ∧ ∃ p : Regrown, w'' = Go.Sort.grow (redrawn W p.d) p.os := fun d os => Calls.regrown_of (hra _)
          have q2 : ∀ d os, Calls Try.prog 30 #[] (Go.Sort.grow (redrawn W d) os) fun e w'' => e = .returned (.agg #[.string ⟨#[]⟩, .string ⟨#[]⟩]) ∧ ∃ p : Regrown, w'' = Go.Sort.grow (redrawn W p.d) p.os := fun d os => Calls.regrown_of (HALL.out _)
          have q3 : ∀ d os, Calls Try.prog 15 #[.agg #[.string ml, .string mh], .agg #[.string al, .string ah]] (Go.Sort.grow (redrawn W d) os) fun e w'' => e = .returned (.bool true) ∧ ∃ p : Regrown, w'' = Go.Sort.grow (redrawn W p.d) p.os := fun d os => Calls.regrown_of (hma _)
          have q4 : ∀ d os, Calls Try.prog 15 #[.agg #[.string ml, .string mh], .agg #[.string bl, .string bh]] (Go.Sort.grow (redrawn W d) os) fun e w'' => e = .returned (.bool true) ∧ ∃ p : Regrown, w'' = Go.Sort.grow (redrawn W p.d) p.os := fun d os => Calls.regrown_of (hmb _)
          have q5 : ∀ d os, Calls Try.prog 15 #[.agg #[.string al, .string ah], .agg #[.string ⟨#[]⟩, .string ⟨#[]⟩]] (Go.Sort.grow (redrawn W d) os) fun e w'' => e = .returned (.bool true) ∧ ∃ p : Regrown, w'' = Go.Sort.grow (redrawn W p.d) p.os := fun d os => Calls.regrown_of (hal _)
          refine wp_region_quiet_below (by kernel_rfl) (by kernel_rfl) ?_
          refine Held.out ?_
          repeat (
            refine hq_step (fun K hK => ?_)
            go_simp
            first
              | (refine hK _ ?_; clear hK K)
              | (apply Exists.intro
                 refine ⟨fun _ => ?_, hK _ ?_⟩
                 (first | (with_reducible exact q0 _ _) | (with_reducible exact q1 _ _) | (with_reducible exact q2 _ _) | (with_reducible exact q3 _ _) | (with_reducible exact q4 _ _) | (with_reducible exact q5 _ _))
                 clear hK K))
          refine Held.mk (wpQuiet_nil ?_)
          intro _ hw'
          obtain ⟨⟨dq, osq⟩, hw''⟩ := hw'
          subst hw''
          go_wp2
          go_ret
          exact ⟨rfl, Ok.call ok5 (below_regrown W dq osq)⟩

end Go.Proofs.Ytneipmgkphdfkaa
