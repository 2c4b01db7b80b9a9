/- The document's bytes of a past. -/
import Derived.Test.YtnjaiiifafbbjaaRe
namespace Go.Proofs.Ytnjaiiifafbbjaa
open Go.RowKit

def prefI (f : Nat → Int) (j : Nat) : List Int := (List.range j).map f
theorem prefI_len (f : Nat → Int) (j : Nat) : (prefI f j).length = j := by simp [prefI]
theorem prefI_succ (f : Nat → Int) (j : Nat) : prefI f (j + 1) = prefI f j ++ [f j] := by simp [prefI, List.range_succ]
theorem prefI_get (f : Nat → Int) (j k : Nat) (h : k < j) : (prefI f j)[k]?.getD 0 = f k := by simp [prefI, h]

def BytesP (w : World) (xs : List B8) (e : Ending) (w' : World) : Prop := ∃ A c, e = .returned (.slice A xs.length c) ∧ BytesIn w' (.slice A xs.length c) xs ∧ Ok w w'
set_option maxRecDepth 100000 in
set_option maxHeartbeats 4000000 in
theorem rBytes_w (m : Nat) (f : Nat → Int) (hf : Fits f) (w : World) (h : RpAt w m f) :
    Calls Try.prog 58 #[.pointer (some ⟨m, 0, none⟩)] w (BytesP w (encs (numsL f))) := by
  have HP := Lib.hid h
  have hms := h.lt
  have HF := Lib.hid hf
  clear h hf
  go_enter Try.func58, Try.ntmps58
  go_wp2_with fail
  go_loopw [3, 4] (fun o i wr => ∃ (j : Nat) (A : Option Addr) (n c : Nat), j ≤ 8 ∧ i = .int .i64 ((j : Int) + 1) ∧ o = .slice A n c ∧ OwnI wr w.heap.size A n c (prefI f j) ∧ Ok w wr) (fun _ i _ => 9 - (intOf i).toNat)
  case atStart => exact ⟨0, none, 0, 0, by omega, rfl, rfl, OwnI.nil _ _, Ok.refl _⟩
  case round =>
    obtain ⟨j, A, n, c, hj, rfl, rfl, hown, hok⟩ := hrel
    have HOWN := Lib.hid hown
    have HOK := Lib.hid hok
    clear hown hok
    by_cases hlt : j < 8
    · have d1 : decide ((j : Int) + 1 ≤ 8) = true := decide_eq_true (by omega)
      have C0 := Ok.cell HOK.out (HP.out.num j hlt)
      have HS := Lib.hid (prefI_succ f j)
      generalize f j = v at *
      have h0 : (0 : Int) ≤ (j : Int) + 1 := by omega
      have h1 : (j : Int) + 1 < 9 := by omega
      have HOWA : Hid (OwnI (wr.alloc (.cells #[.int .i64 v] 3)) w.heap.size A n c (prefI f j)) := Lib.hid (HOWN.out.alloc _)
      have HCN : Hid ((wr.alloc (.cells #[.int .i64 v] 3)).cell? ⟨wr.heap.size, 0, none⟩ = some (.int .i64 v)) := Lib.hid (by go_cell)
      have HOKA : Hid (Ok w (wr.alloc (.cells #[.int .i64 v] 3))) := Lib.hid (Ok.alloc HOK.out _)
      have HPL : Hid ((prefI f j).length ≤ 1000000) := Lib.hid (by rw [prefI_len]; omega)
      go_wp2_with (at_builtin; go_must (refine wpList_appI rfl (.tmp 11) (.tmp 18) rfl w.heap.size A n c (prefI f j) wr.heap.size v rfl rfl HOWA.out HCN.out HPL.out HOKA.out.size ?_; intro A' c' w3 hown3 hbel3; have HOWN3 := Lib.hid hown3; have HOK3 : Hid (Ok w w3) := Lib.hid (Below.trans HOKA.out hbel3); clear hown3 hbel3))
      refine ⟨⟨j + 1, A', n + 1, c', by omega, by go_num, rfl, by rw [HS.out]; exact HOWN3.out, HOK3.out⟩, ?_⟩
      show 9 - ((j : Int) + 1 + 1).toNat < 9 - ((j : Int) + 1).toNat
      omega
    · have d1 : decide ((j : Int) + 1 ≤ 8) = false := decide_eq_false (by omega)
      obtain rfl : j = 8 := by omega
      have hn : n = 8 := by have := HOWN.out.2; rw [prefI_len] at this; exact this
      subst hn
      have HW := Lib.hid (rWrite_w (numsL f) A 8 c rfl (by omega) wr (fun k hk => by
        obtain ⟨b, e, hc⟩ := HOWN.out.cell k (by rw [prefI_len]; exact hk)
        obtain ⟨hf0, hf1⟩ := HF.out k hk
        rw [prefI_get f 8 k hk] at hc
        refine ⟨b, 0, e, ?_, ?_⟩
        · rw [Nat.zero_add, hc, numsL_get f k hk, Int.toNat_of_nonneg hf0]
        · rw [numsL_get f k hk]; omega))
      have HLEN : Hid ((encs (numsL f)).length ≤ 140737488350000) := Lib.hid (by
        have := encs_len (numsL f)
        have h8 : (numsL f).length = 8 := rfl
        omega)
      generalize encs (numsL f) = xs at *
      go_wp2_with fail
      refine HW.out.mono ?_
      rintro _ w2 ⟨A2, c2, rfl, hown2, hok2⟩
      have HB2 : Hid (BytesIn w2 (.slice A2 xs.length c2) xs) := Lib.hid (hown2.bytes (by have := HLEN.out; omega))
      have HOK2 := Lib.hid (Ok.trans HOK.out hok2)
      have HFIN : Hid (∀ e, e = .returned (.slice A2 xs.length c2) → BytesP w xs e w2) := Lib.hid fun e he => ⟨A2, c2, he, HB2.out, HOK2.out⟩
      clear hown2 hok2
      generalize xs.length = L at HFIN ⊢
      go_wp2_with fail
      go_ret
      exact HFIN.out _ rfl
end Go.Proofs.Ytnjaiiifafbbjaa
