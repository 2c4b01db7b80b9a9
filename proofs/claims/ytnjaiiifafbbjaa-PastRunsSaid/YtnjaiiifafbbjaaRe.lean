/- The document's bytes of numbers, and of a past. -/
import Derived.Test.YtnjaiiifafbbjaaRd
namespace Go.Proofs.Ytnjaiiifafbbjaa
open Go.RowKit

theorem info3 : (Try.prog.info? 3).map (fun i => (i.zero, i.size, i.bytes)) = some (some (.int .i64 0), 1, 8) := by kernel_rfl
/-- A row of numbers of the call's own. -/
def OwnI (w : World) (base : Nat) (A : Option Addr) (n c : Nat) (zs : List Int) : Prop := w.ownsRow base 3 1 (.slice A n c) zs.length (zs.map (Value.int .i64)) ∧ n = zs.length
theorem OwnI.nil (w : World) (base : Nat) : OwnI w base none 0 0 [] := ⟨World.ownsRow_nil _ _ _ _, rfl⟩
theorem OwnI.alloc {w : World} {B : Nat} {A : Option Addr} {n c : Nat} {zs : List Int} (h : OwnI w B A n c zs) (o : Obj) : OwnI (w.alloc o) B A n c zs := ⟨h.1.alloc o, h.2⟩
theorem OwnI.ok {w w' : World} {B : Nat} {A : Option Addr} {n c : Nat} {zs : List Int} (h : OwnI w B A n c zs) (k : Ok w w') : OwnI w' B A n c zs := by
  refine ⟨h.1.kept (row := none) ⟨k.os, k.tape, k.output, k.size, fun i hi _ => k.block i hi⟩ ?_, h.2⟩
  cases Value.ownBlock (.slice A n c) with
  | none => exact .inl rfl
  | some b => exact .inr (fun e => by cases e)
theorem OwnI.cell {w : World} {B : Nat} {A : Option Addr} {n c : Nat} {zs : List Int} (h : OwnI w B A n c zs) (j : Nat) (hj : j < zs.length) : ∃ b, A = some ⟨b, 0, none⟩ ∧ w.cell? ⟨b, j, none⟩ = some (.int .i64 (zs[j]?.getD 0)) := by
  obtain ⟨h1, rfl⟩ := h
  rcases h1.2 with ⟨e, h5⟩ | ⟨g, cap, cur, e, r⟩
  · omega
  · simp only [Value.slice.injEq] at e
    obtain ⟨rfl, -, rfl⟩ := e
    refine ⟨g, rfl, ?_⟩
    rw [World.ownsRow.cellAt h1 j (by omega)]
    simp [hj]
theorem wpList_appI {ops : Array Oper} {rest : List Oper} {o : Oper} {a : Act} {w : World} {Q : Exit → Act → World → Prop} (hgd : o.guard = none) (s x : Operand)
    (ho : o.op = .call { callee := .builtin .append, args := #[s, x], argTypes := #[42, 42] })
    (base : Nat) (A : Option Addr) (n c : Nat) (zs : List Int) (h : Nat) (z : Int) (hs : a.eval s = .slice A n c) (hx : a.eval x = .slice (some ⟨h, 0, none⟩) 1 1) (hown : OwnI w base A n c zs)
    (hc0 : w.cell? ⟨h, 0, none⟩ = some (.int .i64 z)) (hlen : zs.length ≤ 1000000) (hbase : base ≤ w.heap.size)
    (hk : ∀ A' c' w', OwnI w' base A' (n + 1) c' (zs ++ [z]) → Below base w w' → wpList Try.prog ops Q rest (a.put o.dst (.slice A' (n + 1) c')) w') : wpList Try.prog ops Q (o :: rest) a w := by
  obtain ⟨i0, hi, hz0, hz1, hz2⟩ := info_parts info3
  obtain ⟨hown, rfl⟩ := hown
  refine wpList_append_own _ hgd s x 42 ho base 3 i0 (.int .i64 0) 1 8 Try.underlying42 hi hz0 hz1 hz2 rfl (by decide) _ zs.length (zs.map (Value.int .i64)) hs hown ⟨h, 0, none⟩ 1 1 [.int .i64 z] hx rfl ?_ ?_ (by unfold maxLen; omega) (by omega) hbase ?_
  · intro j u hu
    match j, hu with
    | 0, hu =>
      obtain rfl : u = .int .i64 z := by simpa using hu.symm
      exact hc0
  · intro u hu
    obtain rfl : u = .int .i64 z := by simpa using hu
    rfl
  · intro v' w' h2 h3 _
    have hb : Below base w w' := (Below.refl base w).grown h3 hbase (fun k hk => (World.ownsRow.lt hown k hk).1)
    obtain ⟨A', c', rfl⟩ : ∃ A' c', v' = .slice A' (zs.length + 1) c' := by
      rcases h2.2 with ⟨_, h5⟩ | ⟨g', cap', cur, rfl, _⟩
      · omega
      · exact ⟨_, _, rfl⟩
    refine hk A' c' w' ⟨?_, by simp⟩ hb
    rw [List.map_append, List.length_append]; exact h2
theorem OwnN.ok {w w' : World} {B : Nat} {v : Value} {xs : List B8} (h : OwnN w B v xs) (k : Ok w w') : OwnN w' B v xs := by
  refine World.ownsRow.kept (row := none) h ⟨k.os, k.tape, k.output, k.size, fun i hi _ => k.block i hi⟩ ?_
  cases Value.ownBlock v with
  | none => exact .inl rfl
  | some b => exact .inr (fun e => by cases e)
theorem OwnN.nil (w : World) (base : Nat) : OwnN w base (.slice none 0 0) [] := World.ownsRow_nil _ _ _ _

/-- Bytes of the call's own, told with no error. -/
def WriteP (w : World) (xs : List B8) (e : Ending) (w' : World) : Prop := ∃ A c, e = .returned (.tuple #[.slice A xs.length c, .int .i64 0]) ∧ OwnN w' w.heap.size (.slice A xs.length c) xs ∧ Ok w w'
set_option maxRecDepth 100000 in
set_option maxHeartbeats 4000000 in
theorem rWrite_w (l : List Nat) (A : Option Addr) (n c : Nat) (hn : l.length = n) (hnm : n ≤ 1000) (W : World)
    (hcell : ∀ k, k < n → ∃ b o, A = some ⟨b, o, none⟩ ∧ W.cell? ⟨b, o + k, none⟩ = some (.int .i64 ((l.getD k 0 : Nat) : Int)) ∧ l.getD k 0 ≤ 4611686018427387903) :
    Calls Try.prog 112 #[.slice A n c, .slice none 0 0, .slice none 0 0, .slice none 0 0] W (WriteP W (encs l)) := by
  have HC := Lib.hid hcell
  have HN := Lib.hid hn
  clear hcell hn
  go_enter Try.func112, Try.ntmps112
  go_wp2_with fail
  go_loopw [10, 11, 12, 13] (fun o i _ _ wr => ∃ (k : Nat) (B : Option Addr) (L d : Nat), k ≤ n ∧ i = .int .i64 k ∧ o = .slice B L d ∧ L = (encs (l.take k)).length ∧ OwnN wr W.heap.size (.slice B L d) (encs (l.take k)) ∧ Ok W wr) (fun _ i _ _ _ => n - (intOf i).toNat)
  case atStart => exact ⟨0, none, 0, 0, Nat.zero_le _, rfl, rfl, by simp [encs], by simpa [encs] using OwnN.nil W _, Ok.refl _⟩
  case round =>
    obtain ⟨k, B, L, d, hk, rfl, rfl, hL, hown, hok⟩ := hrel
    have HL := Lib.hid hL
    have HOWN := Lib.hid hown
    have HOK := Lib.hid hok
    clear hL hown hok
    by_cases hlt : k < n
    · have d1 : decide ((k : Int) < (n : Int)) = true := decide_eq_true (by omega)
      obtain ⟨b, off, rfl, C0, hle⟩ := HC.out k hlt
      have C0 := Ok.cell HOK.out C0
      have HE := Lib.hid (encs_take l k (by rw [HN.out]; exact hlt))
      have HLN := Lib.hid (encs_take_len l k (by rw [HN.out]; omega))
      have hi0 : (0 : Int) ≤ (k : Int) := Int.natCast_nonneg _
      have hi1 : (k : Int) < (n : Int) := by omega
      generalize l.getD k 0 = m at *
      have HW := Lib.hid (rnumber_w m hle wr)
      have HEL := Lib.hid (enc_len m)
      generalize enc m = ys at *
      generalize encs (l.take k) = xs at *
      clear hle
      go_wp2_with fail
      refine HW.out.mono ?_
      rintro _ w2 ⟨A2, c2, rfl, hown2, hok2⟩
      have HB2 : Hid (BytesIn w2 (.slice A2 ys.length c2) ys) := Lib.hid (hown2.bytes (by have := HEL.out; omega))
      have HOW2 := Lib.hid (HOWN.out.ok hok2)
      have HOK2 := Lib.hid (Ok.trans HOK.out hok2)
      clear hown2 hok2
      obtain ⟨M, hM⟩ : ∃ M, ys.length = M := ⟨_, rfl⟩
      rw [hM] at HB2 HEL ⊢
      have HM := Lib.hid hM
      clear hM
      go_wp2_with (at_builtin; go_must (refine wpList_app rfl (.tmp 33) (.tmp 34) rfl W.heap.size (.slice B L d) xs ys (.slice A2 M c2) rfl rfl HOW2.out HB2.out (by have := HLN.out; have := HEL.out; have := HM.out; omega) HOK2.out.size ?_; intro A' c' w3 hown3 hbel3; have HOWN3 := Lib.hid hown3; have HOK3 : Hid (Ok W w3) := Lib.hid (Below.trans HOK2.out hbel3); clear hown3 hbel3; rw [← HL.out, HM.out]))
      refine ⟨⟨k + 1, A', L + M, c', hlt, by go_num, rfl, by rw [HE.out, List.length_append, HL.out, HM.out], by have h := HOWN3.out; rw [← HL.out, HM.out] at h; rw [HE.out]; exact h, HOK3.out⟩, ?_⟩
      simp [intOf]; omega
    · have d1 : decide ((k : Int) < (n : Int)) = false := decide_eq_false (by omega)
      have HFI : Hid (l.take k = l) := Lib.hid (List.take_of_length_le (by rw [HN.out]; omega))
      rw [HFI.out] at HL HOWN
      have HFIN : Hid (∀ e, e = .returned (.tuple #[.slice B L d, .int .i64 0]) → WriteP W (encs l) e wr) := Lib.hid fun e he => ⟨B, d, by rw [← HL.out]; exact he, by rw [← HL.out]; exact HOWN.out, HOK.out⟩
      clear HFI HOWN HL
      go_wp2_with fail
      go_loopw [10, 14] (fun o i wq => o = .slice B L d ∧ i = .int .i64 0 ∧ wq = wr) (fun _ _ _ => 0)
      case atStart => exact ⟨rfl, rfl, rfl⟩
      case round =>
        obtain ⟨rfl, rfl, rfl⟩ := hrel
        go_wp2_with fail
        go_loopw [10, 15] (fun o i wq => o = .slice B L d ∧ i = .int .i64 0 ∧ wq = wr) (fun _ _ _ => 0)
        case atStart => exact ⟨rfl, rfl, rfl⟩
        case round =>
          obtain ⟨rfl, rfl, rfl⟩ := hrel
          go_wp2_with fail
          go_loopw [10, 16] (fun o i wq => o = .slice B L d ∧ i = .int .i64 0 ∧ wq = wr) (fun _ _ _ => 0)
          case atStart => exact ⟨rfl, rfl, rfl⟩
          case round =>
            obtain ⟨rfl, rfl, rfl⟩ := hrel
            go_wp2_with fail
            go_ret2
            exact HFIN.out _ rfl
end Go.Proofs.Ytnjaiiifafbbjaa
