/- Disks: move, Rename. -/
import Derived.Test.YtfchjdhjbepocaaMz
namespace Go.Proofs.Ytfchjdhjbepocaa
open Go Go.RowKit

/-- The first j of the pieces have been moved. -/
structure MvQ (a b : Str) (zs : List Pc) (A : Option Addr) (n c : Nat) (W wr : World) (j : Nat) : Prop where
  le : j ≤ n
  own : OwnQ wr A n c (mvP a b (zs.take j) ++ zs.drop j)
  kp : W.grownBy wr (Value.slice A n c).ownBlock
theorem mv_at (a b : Str) (zs : List Pc) (j : Nat) (hj : j < zs.length) : pcA (mvP a b (zs.take j) ++ zs.drop j) j = pcA zs j := by
  have hl : (mvP a b (zs.take j)).length = j := by rw [mvP_len, List.length_take]; omega
  unfold pcA
  rw [List.getD_eq_getElem?_getD, List.getElem?_append_right (by omega), hl, Nat.sub_self, List.getElem?_drop, Nat.add_zero, List.getD_eq_getElem?_getD]
theorem mv_take (a b : Str) (zs : List Pc) (j : Nat) (hj : j < zs.length) : mvP a b (zs.take (j + 1)) = mvP a b (zs.take j) ++ [if (pcA zs j).1 = a then (b, (pcA zs j).2) else pcA zs j] := by
  rw [take_one zs j hj]
  unfold mvP
  rw [List.map_append]
  rfl
theorem mv_skip (a b : Str) (zs : List Pc) (j : Nat) (hj : j < zs.length) (h : ¬ (pcA zs j).1 = a) : mvP a b (zs.take (j + 1)) ++ zs.drop (j + 1) = mvP a b (zs.take j) ++ zs.drop j := by
  rw [mv_take a b zs j hj, if_neg h, List.append_assoc, drop_pcA zs j hj]
  rfl
theorem mv_set (a b : Str) (zs : List Pc) (j : Nat) (hj : j < zs.length) (h : (pcA zs j).1 = a) : mvP a b (zs.take (j + 1)) ++ zs.drop (j + 1) = (mvP a b (zs.take j) ++ zs.drop j).set j (b, (pcA zs j).2) := by
  have hl : (mvP a b (zs.take j)).length = j := by rw [mvP_len, List.length_take]; omega
  rw [mv_take a b zs j hj, if_pos h, List.append_assoc, drop_pcA zs j hj, List.set_append_right _ _ (by omega), hl, Nat.sub_self]
  rfl
set_option maxRecDepth 100000 in
set_option maxHeartbeats 2000000 in
theorem move_f (p mb : Nat) (size : Int) (pv : Sl) (ps : List Pc) (a b : Str) (W : World) (hst : W.heap[p]? = some (.cells #[pv.v, .int .i64 size, .map (some mb)] 57 (0, 0))) (h : OwnPc W pv ps) (hl : ps.length ≤ 1000000) :
    Calls Try.prog 79 #[.pointer (some ⟨p, 0, none⟩), .string a, .string b] W (WaitP p mb size pv (mvP a b (settle ps b)) W) := by
  have hset := settle_f p mb size pv ps b W hst h hl
  have HPN : Hid (pv.v.ownBlock ≠ some p) := Lib.hid fun e => by
    obtain ⟨cur, hc⟩ := owns_ty h e
    have := ty_ne hc hst
    omega
  have HLZ : Hid ((settle ps b).length ≤ 1000000) := Lib.hid (Nat.le_trans (settle_len ps b) hl)
  clear hst h hl
  go_enter Try.func79, Try.ntmps79
  go_wp2_with fail
  refine hset.mono ?_
  clear hset
  rintro _ w1 ⟨pv', rfl, h1, h2, h3, h4⟩
  have H1 := Lib.hid h1
  have H3 := Lib.hid h3
  have H4 := Lib.hid h4
  have HQ := Lib.hid (OwnQ.of h2)
  have HPN2 : Hid (pv'.v.ownBlock ≠ some p) := Lib.hid fun e => by
    obtain ⟨cur, hc⟩ := owns_ty h2 e
    have := ty_ne hc h1
    omega
  have HLN : Hid (pv'.n ≤ 1000000) := Lib.hid (by rw [← (OwnQ.of h2).1]; exact HLZ.out)
  have c0 := (st_cell h1).1
  unfold Sl.v at c0
  clear h1 h2 h3 h4
  generalize settle ps b = zs at *
  have HS0 : Hid (MvQ a b zs pv'.A pv'.n pv'.c w1 w1 0) := Lib.hid ⟨Nat.zero_le _, HQ.out, ⟨rfl, rfl, rfl, Nat.le_refl _, fun _ _ _ => rfl⟩⟩
  go_wp2_with fail
  clear c0
  go_loopw [6, 15] (fun _ iv wr => ∃ j : Nat, iv = .int .i64 (j : Int) ∧ MvQ a b zs pv'.A pv'.n pv'.c w1 wr j) (fun _ iv _ => pv'.n - (intOf iv).toNat)
  case atStart => exact ⟨0, rfl, HS0.out⟩
  case round =>
    obtain ⟨j, rfl, hs⟩ := hrel
    have HS := Lib.hid hs
    clear hs HS0
    have hst1 : wr.heap[p]? = some (.cells #[pv'.v, .int .i64 size, .map (some mb)] 57 (0, 0)) := (HS.out.kp.block p (Array.getElem?_eq_some_iff.1 H1.out).1 (fun e => HPN2.out (by unfold Sl.v; exact e.symm))).trans H1.out
    have HST1 := Lib.hid hst1
    have c0 := (st_cell hst1).1
    unfold Sl.v at c0
    clear hst1
    by_cases hlt : j < pv'.n
    · have d1 : decide (j < pv'.n) = true := decide_eq_true hlt
      have hi0 : (0 : Int) ≤ (j : Int) := Int.natCast_nonneg _
      have hi1 : (j : Int) < (pv'.n : Int) := by omega
      have HZL : Hid (j < zs.length) := Lib.hid (by rw [HQ.out.1]; exact hlt)
      have HAT := Lib.hid (mv_at a b zs j HZL.out)
      obtain ⟨g, hgA, x0, x1⟩ := HS.out.own.at j hlt
      have f0 : wr.frozen? ⟨g, j * 2, none⟩ = false := by
        have := HS.out.own
        rw [hgA] at this
        exact this.froz _
      rw [HAT.out] at x0 x1
      have e1 : IntKind.i64.wrap ((j : Int) + 1) = (j : Int) + 1 := IntWalk.i64_in _ (by have := HLN.out; omega)
      have HE := Lib.hid (str_list (pcA zs j).1 a)
      have HMS : Hid (pv'.n - ((j : Int) + 1).toNat < pv'.n - (j : Int).toNat) := Lib.hid (by omega)
      by_cases he : (pcA zs j).1 = a
      · have HC : Hid (MvQ a b zs pv'.A pv'.n pv'.c w1 (wr.setCell ⟨g, j * 2, none⟩ (.string b)) (j + 1)) := Lib.hid (by
          have ho := HS.out.own
          rw [hgA] at ho ⊢
          have hk := HS.out.kp
          rw [hgA] at hk
          have h0 := ho.set0 j b
          rw [HAT.out] at h0
          exact ⟨hlt, by rw [mv_set a b zs j HZL.out he]; exact h0, grown_trans hk (grown_one _ _ _ _)⟩)
        have dd : decide ((pcA zs j).1 = a) = true := decide_eq_true he
        rw [dd] at HE
        clear dd he
        generalize (pcA zs j).1 = km at *
        generalize (pcA zs j).2 = vm at *
        have HSE := HE.out
        rw [hgA] at c0
        go_wp2_with fail
        exact ⟨⟨j + 1, by push_cast; rfl, HC.out⟩, HMS.out⟩
      · have HC : Hid (MvQ a b zs pv'.A pv'.n pv'.c w1 wr (j + 1)) := Lib.hid ⟨hlt, by rw [mv_skip a b zs j HZL.out he]; exact HS.out.own, HS.out.kp⟩
        have dd : decide ((pcA zs j).1 = a) = false := decide_eq_false he
        rw [dd] at HE
        clear dd he
        generalize (pcA zs j).1 = km at *
        generalize (pcA zs j).2 = vm at *
        have HSE := HE.out
        rw [hgA] at c0
        go_wp2_with fail
        exact ⟨⟨j + 1, by push_cast; rfl, HC.out⟩, HMS.out⟩
    · have d1 : decide (j < pv'.n) = false := decide_eq_false hlt
      obtain rfl : j = pv'.n := by have := HS.out.le; omega
      go_wp2_with fail
      go_end0
      have ho := HS.out.own
      rw [List.take_of_length_le (Nat.le_of_eq HQ.out.1), List.drop_eq_nil_of_le (Nat.le_of_eq HQ.out.1), List.append_nil] at ho
      refine ⟨pv', rfl, HST1.out, ho.pc, H3.out, ?_⟩
      refine H4.out.then (Kp.grown (S := fun b => pv'.v.ownBlock = some b) HS.out.kp (fun j e => .inl (by unfold Sl.v; exact e))) (fun q hq e => ?_)
      rcases H3.out q e with r | r
      · exact .inr r
      · omega
end Go.Proofs.Ytfchjdhjbepocaa
