/- Disks: Cut. -/
import Derived.Test.YtfchjdhjbepocaaMy
namespace Go.Proofs.Ytfchjdhjbepocaa
open Go Go.RowKit

def Dk.cutR (D : Dk) (nm : Str) (n : Int) : Dk × Int := if (D.fs.at? nm).isSome = true then if n < 0 ∨ ((D.file nm).length : Int) < n then (D, 2) else (D.cut nm n.toNat, 0) else (D, 6)
set_option maxRecDepth 100000 in
set_option maxHeartbeats 2000000 in
theorem cut_f (p : Nat) (D : Dk) (pv : Sl) (mb : Nat) (vs : Tb Sl) (nm : Str) (nn : Int) (W : World) (h : DkAt p D pv mb vs W) (hs : Small D) :
    Calls Try.prog 29 #[.pointer (some ⟨p, 0, none⟩), .string nm, .int .i64 nn] W (AppP p mb (Blk p pv mb vs) (D.cutR nm nn) W) := by
  have hno := none_f p mb W h.c2
  have c2 := h.c2
  obtain ⟨s, hs0, hs1, hs2, hs3, hs4, -⟩ := h.file nm
  have hg := run_get (t := 55) (k := 9) Try.underlying55 Try.underlying9 W (zero48 W) mb (mvs vs) h.mp nm true
  rw [hs1, hs2] at hg
  simp only [if_true] at hg
  unfold Sl.v at hg
  have HD := Lib.hid h
  have HSM := Lib.hid hs
  have HS0 := Lib.hid hs0
  have HOW := Lib.hid hs3
  have HSN := Lib.hid hs4
  have HFB : Hid ((D.file nm).length ≤ 100000000) := Lib.hid (Nat.le_trans (file_le_used nm) hs.us)
  obtain ⟨is, his⟩ : ∃ is, (D.fs.at? nm).isSome = is := ⟨_, rfl⟩
  rw [his] at hg
  have HIS := Lib.hid his
  clear h hs hs0 hs1 hs2 hs3 hs4 his
  go_enter Try.func29, Try.ntmps29
  go_wp2_with fail
  refine hno.mono ?_
  rintro _ w1 ⟨rfl, rfl⟩
  clear hno
  cases is with
  | false =>
    have HR : Hid (D.cutR nm nn = (D, 6)) := Lib.hid (if_neg (by rw [HIS.out]; decide))
    go_wp2_with fail
    go_ret
    unfold AppP
    rw [HR.out]
    exact ⟨rfl, pv, vs, HD.out, fun b e => .inl e, Kp.refl _ _⟩
  | true =>
  by_cases hbad : nn < 0 ∨ ((D.file nm).length : Int) < nn
  · have HR : Hid (D.cutR nm nn = (D, 2)) := Lib.hid (by unfold Dk.cutR; rw [if_pos HIS.out, if_pos hbad])
    by_cases hz : nn < 0
    · have d1 : decide (nn < 0) = true := decide_eq_true hz
      clear hbad hz
      go_wp2_with fail
      go_ret
      unfold AppP
      rw [HR.out]
      exact ⟨rfl, pv, vs, HD.out, fun b e => .inl e, Kp.refl _ _⟩
    · have d1 : decide (nn < 0) = false := decide_eq_false hz
      have d2 : decide (nn > (s.n : Int)) = true := decide_eq_true (by have := HSN.out; omega)
      have d3 : decide ((s.n : Int) < nn) = true := decide_eq_true (by have := HSN.out; omega)
      clear hbad hz
      go_wp2_with fail
      go_ret
      unfold AppP
      rw [HR.out]
      exact ⟨rfl, pv, vs, HD.out, fun b e => .inl e, Kp.refl _ _⟩
  · obtain ⟨n, rfl⟩ : ∃ n : Nat, nn = (n : Int) := ⟨nn.toNat, by omega⟩
    have HNL : Hid (n ≤ (D.file nm).length) := Lib.hid (by omega)
    have HR : Hid (D.cutR nm (n : Int) = (D.cut nm n, 0)) := Lib.hid (by unfold Dk.cutR; rw [if_pos HIS.out, if_neg hbad]; rfl)
    have d1 : decide ((n : Int) < 0) = false := decide_eq_false (by omega)
    have d2 : decide ((n : Int) > (s.n : Int)) = false := decide_eq_false (by have := HSN.out; have := HNL.out; omega)
    have d3 : decide ((s.n : Int) < (n : Int)) = false := decide_eq_false (by have := HSN.out; have := HNL.out; omega)
    have d4 : decide (s.n < n) = false := decide_eq_false (by have := HSN.out; have := HNL.out; omega)
    have e1 : IntKind.i64.wrap ((s.n : Int) - (n : Int)) = (((D.file nm).length - n : Nat) : Int) := by
      rw [IntWalk.i64_in _ (by have := HSN.out; have := HNL.out; have := HFB.out; omega)]
      have := HSN.out; have := HNL.out; omega
    have hsh := shorten_f p mb D.size pv D.ps nm ((D.file nm).length - n) W HD.out.st HD.out.ps HSM.out.ps (Nat.le_trans HD.out.inv.many_le HSM.out.us) (by have := HFB.out; omega)
    clear hbad
    go_wp2_with fail
    refine hsh.mono ?_
    clear hsh
    rintro _ w2 ⟨pv', rfl, h1, h2, h3, h4⟩
    have H1 := Lib.hid h1
    have H2 := Lib.hid h2
    have H3 := Lib.hid h3
    have H4 := Lib.hid h4
    clear h1 h2 h3 h4 d1 d2 d3 d4 e1 hg c2
    have HMV : Hid (MapV w2 mb (mvs vs)) := Lib.hid (HD.out.mp.block (H4.out.block mb HD.out.mp.lt (fun q => by rcases q with q | q; exact HD.out.p_mb q.symm; exact HD.out.mb_ps q)))
    have HC2 : Hid (w2.drew.cell? ⟨p, 2, none⟩ = some (.map (some mb))) := Lib.hid ((Ok.refl w2).drew.cell (by unfold World.cell?; simp only [H1.out]; rfl))
    have hn0 : (0 : Int) ≤ (n : Int) := Int.natCast_nonneg _
    have hn1 : (n : Int) ≤ (s.n : Int) := by have := HSN.out; have := HNL.out; omega
    have hcl2 : s.n ≤ s.c := by
      rcases HOW.out.2 with ⟨e, _⟩ | ⟨g, cap, cur, e, _, _, hnc, _⟩
      · simp only [Sl.v, Value.slice.injEq] at e; omega
      · simp only [Sl.v, Value.slice.injEq] at e; have := HSN.out; omega
    have hn2 : (n : Int) ≤ (s.c : Int) := by omega
    clear hcl2
    go_upto_region 9 with fail
    refine Until.begin (S := fun w => w.cell? ⟨p, 2, none⟩ = some (.map (some mb))) (j := 8) (by kernel_rfl) ?_ ?_
    · exact HC2.out
    intro hS
    have HD2 : Hid (Ok w2 w2.drew) := Lib.hid ((Ok.refl w2).drew)
    generalize w2.drew = V0 at *
    refine Until.take0 (i := 0) (oi := ⟨some 39, Op.move (Operand.tmp 0), _, _, _, _⟩) (v := ?v0) rfl (by kernel_rfl) (by kernel_rfl) (by kernel_rfl) (by kernel_rfl) (fun _ _ _ h => h) (Or.inl ⟨by rfl, ?hy0⟩) (fun _ => hS) ?rest0
    case hy0 => ((intro w hSw); clear hSw; go_simp; (try with_reducible rfl))
    try go_frame
    refine Until.take0 (i := 1) (oi := ⟨some 40, Op.nilCheck (Operand.tmp 39), _, _, _, _⟩) (v := ?v1) rfl (by kernel_rfl) (by kernel_rfl) (by kernel_rfl) (by kernel_rfl) (fun _ _ _ h => h) (Or.inl ⟨by rfl, ?hy1⟩) (fun _ => hS) ?rest1
    case hy1 => ((intro w hSw); clear hSw; go_simp; (try with_reducible rfl))
    try go_frame
    refine Until.take0 (i := 2) (oi := ⟨some 41, Op.fieldAddr 57 (Operand.tmp 40) 2, _, _, _, _⟩) (v := ?v2) rfl (by kernel_rfl) (by kernel_rfl) (by kernel_rfl) (by kernel_rfl) (fun _ _ _ h => h) (Or.inl ⟨by rfl, ?hy2⟩) (fun _ => hS) ?rest2
    case hy2 => ((intro w hSw); clear hSw; go_simp; (try with_reducible rfl))
    try go_frame
    refine Until.take (i := 3) (oi := ⟨some 42, Op.load 55 (Operand.tmp 41), _, _, _, _⟩) (v := ?v3) rfl (by kernel_rfl) (by kernel_rfl) (by kernel_rfl) (by kernel_rfl) (fun _ _ _ h => h) (Or.inl ⟨by rfl, ?hy3⟩) hS ?rest3
    case hy3 => ((intro w hSw; (try dsimp only at hSw)); skip; go_simp; (try with_reducible rfl))
    try go_frame
    refine Until.take0 (i := 4) (oi := ⟨some 43, Op.move (Operand.tmp 1), _, _, _, _⟩) (v := ?v4) rfl (by kernel_rfl) (by kernel_rfl) (by kernel_rfl) (by kernel_rfl) (fun _ _ _ h => h) (Or.inl ⟨by rfl, ?hy4⟩) (fun _ => hS) ?rest4
    case hy4 => ((intro w hSw); clear hSw; go_simp; (try with_reducible rfl))
    try go_frame
    refine Until.take0 (i := 5) (oi := ⟨some 44, Op.move (Operand.tmp 7), _, _, _, _⟩) (v := ?v5) rfl (by kernel_rfl) (by kernel_rfl) (by kernel_rfl) (by kernel_rfl) (fun _ _ _ h => h) (Or.inl ⟨by rfl, ?hy5⟩) (fun _ => hS) ?rest5
    case hy5 => ((intro w hSw); clear hSw; go_simp; (try with_reducible rfl))
    try go_frame
    refine Until.take0 (i := 6) (oi := ⟨some 45, Op.move (Operand.tmp 2), _, _, _, _⟩) (v := ?v6) rfl (by kernel_rfl) (by kernel_rfl) (by kernel_rfl) (by kernel_rfl) (fun _ _ _ h => h) (Or.inl ⟨by rfl, ?hy6⟩) (fun _ => hS) ?rest6
    case hy6 => ((intro w hSw); clear hSw; go_simp; (try with_reducible rfl))
    try go_frame
    refine Until.take0 (i := 7) (oi := ⟨some 46, Op.slice 48 (Operand.tmp 44) none (some (Operand.tmp 45)) none, _, _, _, _⟩) (v := ?v7) rfl (by kernel_rfl) (by kernel_rfl) (by kernel_rfl) (by kernel_rfl) (fun _ _ _ h => h) (Or.inl ⟨by rfl, ?hy7⟩) (fun _ => hS) ?rest7
    case hy7 => ((intro w hSw); clear hSw; go_simp; (try with_reducible rfl))
    try go_frame
    refine Until.one (i := 8) (o := ⟨none, .mapUpdate 55 (.tmp 42) (.tmp 43) (.tmp 46), _, _, _, _⟩) (by kernel_rfl) rfl (fun K hK => ?_)
    have HK := Lib.hid hK
    clear hK
    refine wp_map_put 55 (.tmp 42) (.tmp 43) (.tmp 46) rfl Try.underlying55 Try.underlying9 mb (mvs vs) rfl (HMV.out.block (HD2.out.block mb HMV.out.lt)) nm rfl ?_
    intro w5 hm5 hg5 hs5
    have HM5 : Hid (MapV w5 mb ((mvs vs).put nm (.slice s.A n s.c))) := Lib.hid hm5
    have HG5 := Lib.hid hg5
    clear hm5 hg5 hs5
    refine HK.out.out _ _ (fun h => absurd (h.symm.trans (by kernel_rfl : _ = true)) Bool.false_ne_true) (fun _ => ?_)
    clear HK K
    try go_frame
    refine Until.done (by kernel_rfl) ?_ _
    go_wp2_with fail
    go_ret
    have hkk : ∀ b, b ≠ p → b ≠ mb → pv.v.ownBlock ≠ some b → b < W.heap.size → w5.heap[b]? = W.heap[b]? := fun b h1 h2 h3 h4 => by
      rw [HG5.out.block b (Nat.lt_of_lt_of_le h4 (Nat.le_trans H4.out.size HD2.out.size)) (fun e => h2 (by simpa using e)), HD2.out.block b (Nat.lt_of_lt_of_le h4 H4.out.size), H4.out.block b h4 (fun q => by rcases q with q | q; exact h1 q; exact h3 q)]
    have hst5 : w5.heap[p]? = some (.cells #[pv'.v, .int .i64 D.size, .map (some mb)] 57 (0, 0)) := by
      have hl := (Array.getElem?_eq_some_iff.1 H1.out).1
      rw [HG5.out.block p (Nat.lt_of_lt_of_le hl HD2.out.size) (fun e => HD.out.p_mb (by simpa using e)), HD2.out.block p hl]
      exact H1.out
    have hps5 : OwnPc w5 pv' (stay zB (sh nm D.ps ((D.file nm).length - n)).1) := blk_eq (blk_eq H2.out fun g e => HD2.out.block g (owns_lt H2.out e)) fun g e => HG5.out.block g (Nat.lt_of_lt_of_le (owns_lt H2.out e) HD2.out.size) (fun q => by
      rcases H3.out g e with r | r
      · exact HD.out.mb_ps (by rw [r]; simpa using q)
      · have := HD.out.mp.lt; have : g = mb := (by simpa using q); omega)
    have how5 : OwnN w5 (.slice s.A n s.c) ((D.file nm).take n) := OwnN.take (n := s.n) (OwnN.kept HOW.out fun g e => by
      have := HD.out.sBlk HS0.out e
      exact hkk g this.2.2.1 this.2.2.2.1 this.2.2.2.2 this.2.1) n HNL.out
    unfold AppP
    rw [HR.out]
    have hfr : From W ((vs.at? nm).getD sl0).v (Sl.mk s.A n s.c).v := by
      rw [HS0.out]
      intro g e
      exact .inl (by revert e; unfold Sl.v; cases s.A <;> exact id)
    refine ⟨rfl, pv', vs.put nm ⟨s.A, n, s.c⟩, HD.out.putF nm ⟨s.A, n, s.c⟩ _ pv' _ how5 HM5.out hst5 hps5 hfr (fun q hq _ g e => ?_) (HD.out.inv.cut nm n HNL.out), fun b hb => blk_put H3.out hfr hb, ?_⟩
    · have := HD.out.file_ne hq e
      exact hkk g this.1 this.2.1 this.2.2 (HD.out.lt (.inr (.inr (.inr ⟨q, hq, e⟩))))
    · exact ((H4.out.mono (S' := Blk p pv mb vs) (fun j _ e => e.elim .inl (fun q => .inr (.inr (.inl q))))).then (Kp.of (S := Blk p pv mb vs) HD2.out) (fun _ _ e => e)).then (Kp.grown (S := Blk p pv mb vs) HG5.out (fun j e => .inl (.inr (.inl (by simpa using e.symm))))) (fun _ _ e => e)
end Go.Proofs.Ytfchjdhjbepocaa
