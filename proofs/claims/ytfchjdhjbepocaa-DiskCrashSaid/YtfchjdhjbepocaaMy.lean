/- Disks: shorten. -/
import Derived.Test.YtfchjdhjbepocaaMx
namespace Go.Proofs.Ytfchjdhjbepocaa
open Go Go.RowKit

theorem pcs_set1 (l : List Pc) (k : Nat) (b : Nat) : (pcs l).set (k * 2 + 1) (.int .i64 (b : Int)) = pcs (l.set k ((pcA l k).1, b)) := by
  induction l generalizing k with
  | nil => rfl
  | cons r l ih =>
    have e : pcs (r :: l) = .string r.1 :: .int .i64 (r.2 : Int) :: pcs l := rfl
    cases k with
    | zero => rw [e]; rfl
    | succ k =>
      have h2 := ih k
      rw [e, show (k + 1) * 2 + 1 = k * 2 + 1 + 1 + 1 from by omega, List.set_cons_succ, List.set_cons_succ, h2, List.set_cons_succ]
      rfl
theorem pcs_set0 (l : List Pc) (k : Nat) (a : Str) : (pcs l).set (k * 2) (.string a) = pcs (l.set k (a, (pcA l k).2)) := by
  induction l generalizing k with
  | nil => rfl
  | cons r l ih =>
    have e : pcs (r :: l) = .string r.1 :: .int .i64 (r.2 : Int) :: pcs l := rfl
    cases k with
    | zero => rw [e]; rfl
    | succ k =>
      have h2 := ih k
      rw [e, show (k + 1) * 2 = k * 2 + 1 + 1 from by omega, List.set_cons_succ, List.set_cons_succ, h2, List.set_cons_succ]
      rfl
theorem OwnQ.set1 {w : World} {g n c : Nat} {l : List Pc} (h : OwnQ w (some ⟨g, 0, none⟩) n c l) (k : Nat) (b : Nat) :
    OwnQ (w.setCell ⟨g, k * 2 + 1, none⟩ (.int .i64 (b : Int))) (some ⟨g, 0, none⟩) n c (l.set k ((pcA l k).1, b)) := by
  refine ⟨by rw [List.length_set]; exact h.1, ?_⟩
  rw [← pcs_set1]
  exact (World.ownsRow.stored h.2 _ _).1
theorem OwnQ.set0 {w : World} {g n c : Nat} {l : List Pc} (h : OwnQ w (some ⟨g, 0, none⟩) n c l) (k : Nat) (a : Str) :
    OwnQ (w.setCell ⟨g, k * 2, none⟩ (.string a)) (some ⟨g, 0, none⟩) n c (l.set k (a, (pcA l k).2)) := by
  refine ⟨by rw [List.length_set]; exact h.1, ?_⟩
  rw [← pcs_set0]
  exact (World.ownsRow.stored h.2 _ _).1
theorem grown_one (w : World) (g o : Nat) (v : Value) : w.grownBy (w.setCell ⟨g, o, none⟩ v) (some g) :=
  ⟨rfl, rfl, rfl, by simp, fun j hj hn => Below.heap_setCell _ ⟨g, o, none⟩ _ j (fun q => hn (by rw [q]))⟩
theorem drop_pcA (l : List Pc) (i : Nat) (h : i < l.length) : l.drop i = pcA l i :: l.drop (i + 1) := by
  rw [List.drop_eq_getElem_cons h]
  unfold pcA
  rw [List.getD_eq_getElem?_getD, List.getElem?_eq_getElem h]
  rfl
theorem pcA_le_many (l : List Pc) (i : Nat) (h : i < l.length) : (pcA l i).2 ≤ many l := by
  have h1 := drop_pcA l i h
  have h2 : many l = many (l.take i) + many (l.drop i) := by rw [← many_append, List.take_append_drop]
  rw [h1, many_cons] at h2
  omega
/-- From place j on the last bytes have been taken; m are left to take. -/
structure ShQ (k : Str) (ps : List Pc) (n0 : Nat) (A : Option Addr) (n c : Nat) (W wr : World) (j m : Nat) (ys : List Pc) : Prop where
  le : j ≤ n
  m2 : m = (sh k (ps.drop j) n0).2
  ys_ : ys = ps.take j ++ (sh k (ps.drop j) n0).1
  own : OwnQ wr A n c ys
  kp : W.grownBy wr (Value.slice A n c).ownBlock
theorem ShQ.mle {k : Str} {ps ys : List Pc} {n0 n c j m : Nat} {A : Option Addr} {W wr : World} (h : ShQ k ps n0 A n c W wr j m ys) : m ≤ n0 := by
  rw [h.m2, (sh_of k _ n0).2]; omega
theorem ShQ.at {k : Str} {ps ys : List Pc} {n0 n c i m : Nat} {A : Option Addr} {W wr : World} (h : ShQ k ps n0 A n c W wr (i + 1) m ys) (hn : ps.length = n) : pcA ys i = pcA ps i := by
  have := h.le
  rw [h.ys_]
  unfold pcA
  rw [List.getD_eq_getElem?_getD, List.getElem?_append_left (by rw [List.length_take]; omega), List.getElem?_take, if_pos (Nat.lt_succ_self _), List.getD_eq_getElem?_getD]
theorem ShQ.skip {k : Str} {ps ys : List Pc} {n0 n c i m : Nat} {A : Option Addr} {W wr : World} (h : ShQ k ps n0 A n c W wr (i + 1) m ys) (hn : ps.length = n) (he : ¬ (pcA ps i).1 = k) : ShQ k ps n0 A n c W wr i m ys := by
  have hi : i < ps.length := by have := h.le; omega
  have e : sh k (ps.drop i) n0 = (pcA ps i :: (sh k (ps.drop (i + 1)) n0).1, (sh k (ps.drop (i + 1)) n0).2) := by rw [drop_pcA ps i hi, sh_cons, if_neg he]
  refine ⟨by have := h.le; omega, by rw [e]; exact h.m2, ?_, h.own, h.kp⟩
  rw [e, h.ys_, take_one ps i hi, List.append_assoc]
  rfl
theorem ShQ.cut {k : Str} {ps ys : List Pc} {n0 n c i m g : Nat} {W wr : World} (h : ShQ k ps n0 (some ⟨g, 0, none⟩) n c W wr (i + 1) m ys) (hn : ps.length = n) (he : (pcA ps i).1 = k) (z : Nat) (hz : z = (pcA ps i).2 - min m (pcA ps i).2) :
    ShQ k ps n0 (some ⟨g, 0, none⟩) n c W (wr.setCell ⟨g, i * 2 + 1, none⟩ (.int .i64 (z : Int))) i (m - min m (pcA ps i).2) (ys.set i ((pcA ys i).1, z)) := by
  subst hz
  have hi : i < ps.length := by have := h.le; omega
  have e : sh k (ps.drop i) n0 = (((pcA ps i).1, (pcA ps i).2 - min m (pcA ps i).2) :: (sh k (ps.drop (i + 1)) n0).1, m - min m (pcA ps i).2) := by rw [drop_pcA ps i hi, sh_cons, if_pos he, h.m2]
  refine ⟨by have := h.le; omega, by rw [e], ?_, h.own.set1 i _, grown_trans h.kp (grown_one _ _ _ _)⟩
  rw [h.at hn, e, h.ys_, take_one ps i hi, List.append_assoc, List.set_append_right _ _ (by rw [List.length_take]; omega)]
  rw [show i - (ps.take i).length = 0 from by rw [List.length_take]; omega]
  rfl
theorem ShQ.done {k : Str} {ps ys : List Pc} {n0 n c j m : Nat} {A : Option Addr} {W wr : World} (h : ShQ k ps n0 A n c W wr j m ys) (hd : j = 0 ∨ m = 0) : ys = (sh k ps n0).1 := by
  have e := sh_app k (ps.take j) (ps.drop j) n0
  rw [List.take_append_drop] at e
  rw [e, ← h.m2, h.ys_]
  rcases hd with rfl | rfl
  · rfl
  · rw [sh_zero]
theorem ShQ.ok {k : Str} {ps ys : List Pc} {n0 n c j m : Nat} {A : Option Addr} {W wr w' : World} (h : ShQ k ps n0 A n c W wr j m ys) (o : Ok wr w') : ShQ k ps n0 A n c W w' j m ys :=
  { h with own := h.own.ok o, kp := grown_trans h.kp (grown_ok o) }
set_option maxRecDepth 100000 in
set_option maxHeartbeats 2000000 in
theorem shorten_f (p mb : Nat) (size : Int) (pv : Sl) (ps : List Pc) (k : Str) (n0 : Nat) (W : World) (hst : W.heap[p]? = some (.cells #[pv.v, .int .i64 size, .map (some mb)] 57 (0, 0))) (h : OwnPc W pv ps) (hl : ps.length ≤ 1000000) (hmn : many ps ≤ 100000000) (hn0 : n0 ≤ 100000000) :
    Calls Try.prog 78 #[.pointer (some ⟨p, 0, none⟩), .string k, .int .i64 (n0 : Int)] W (WaitP p mb size pv (stay zB (sh k ps n0).1) W) := by
  have hpn : pv.v.ownBlock ≠ some p := fun e => by
    obtain ⟨cur, hc⟩ := owns_ty h e
    have := ty_ne hc hst
    omega
  have HPN := Lib.hid hpn
  have HPC := Lib.hid (OwnQ.of h)
  have HLN : Hid (pv.n ≤ 1000000) := Lib.hid (by rw [← (OwnQ.of h).1]; exact hl)
  have HST := Lib.hid hst
  have HMN := Lib.hid hmn
  have HN0 := Lib.hid hn0
  have c0 := (st_cell HST.out).1
  unfold Sl.v at c0
  have e0 : IntKind.i64.wrap ((pv.n : Int) - 1) = (pv.n : Int) - 1 := IntWalk.i64_in _ (by have := HLN.out; omega)
  have HS0 : Hid (ShQ k ps n0 pv.A pv.n pv.c W W pv.n n0 ps) := Lib.hid ⟨Nat.le_refl _, by rw [List.drop_eq_nil_of_le (Nat.le_of_eq HPC.out.1)]; rfl, by rw [List.drop_eq_nil_of_le (Nat.le_of_eq HPC.out.1), List.take_of_length_le (Nat.le_of_eq HPC.out.1)]; exact (List.append_nil _).symm, HPC.out, ⟨rfl, rfl, rfl, Nat.le_refl _, fun _ _ _ => rfl⟩⟩
  clear h hl hst hpn hmn hn0
  go_enter Try.func78, Try.ntmps78
  go_wp2_with fail
  clear c0 e0
  go_loopw [2, 6, 7, 8] (fun nv iv _ _ wr => ∃ (j m : Nat) (x : Int) (ys : List Pc), x + 1 = (j : Int) ∧ nv = .int .i64 (m : Int) ∧ iv = .int .i64 x ∧ ShQ k ps n0 pv.A pv.n pv.c W wr j m ys) (fun _ iv _ _ _ => (intOf iv + 1).toNat)
  case atStart => exact ⟨pv.n, n0, _, ps, by omega, rfl, rfl, HS0.out⟩
  case round =>
    obtain ⟨j, m, x, ys, hx, rfl, rfl, hs⟩ := hrel
    have HS := Lib.hid hs
    have HX := Lib.hid hx
    clear hs hx HS0
    have hst1 : wr.heap[p]? = some (.cells #[pv.v, .int .i64 size, .map (some mb)] 57 (0, 0)) := (HS.out.kp.block p (Array.getElem?_eq_some_iff.1 HST.out).1 (fun e => HPN.out (by unfold Sl.v; exact e.symm))).trans HST.out
    have HST1 := Lib.hid hst1
    have c0 := (st_cell hst1).1
    unfold Sl.v at c0
    clear hst1
    by_cases hgo : 0 ≤ x ∧ 0 < m
    · obtain ⟨h0, h1⟩ := hgo
      obtain ⟨i, rfl⟩ : ∃ i : Nat, x = (i : Int) := ⟨x.toNat, by omega⟩
      obtain rfl : j = i + 1 := by have := HX.out; omega
      have d1 : decide ((i : Int) ≥ 0) = true := decide_eq_true h0
      have d2 : decide ((m : Int) > 0) = true := decide_eq_true (by omega)
      have d3 : decide ((0 : Int) ≤ (i : Int)) = true := decide_eq_true h0
      have d4 : decide (0 < m) = true := decide_eq_true h1
      have hlt : i < pv.n := HS.out.le
      have hi1 : (i : Int) < (pv.n : Int) := by omega
      have HAT := Lib.hid (HS.out.at HPC.out.1)
      obtain ⟨g, hgA, x0, x1⟩ := HS.out.own.at i hlt
      have f1 : wr.frozen? ⟨g, i * 2 + 1, none⟩ = false := by
        have := HS.out.own
        rw [hgA] at this
        exact this.froz _
      rw [HAT.out] at x0 x1
      have HVM := Lib.hid (pcA_le_many ps i (by rw [HPC.out.1]; exact hlt))
      have e1 : IntKind.i64.wrap ((i : Int) - 1) = (i : Int) - 1 := IntWalk.i64_in _ (by have := HLN.out; omega)
      have HE := Lib.hid (str_list (pcA ps i).1 k)
      have HMS : Hid (((i : Int) - 1 + 1).toNat < ((i : Int) + 1).toNat) := Lib.hid (by omega)
      by_cases he : (pcA ps i).1 = k
      · have HC := Lib.hid (fun z hz => (hgA ▸ HS.out : ShQ k ps n0 (some ⟨g, 0, none⟩) pv.n pv.c W wr (i + 1) m ys).cut HPC.out.1 he z hz)
        have dd : decide ((pcA ps i).1 = k) = true := decide_eq_true he
        rw [dd] at HE
        clear dd
        rw [HAT.out] at HC
        have hv : (if ((pcA ps i).2 : Int) < (m : Int) then ((pcA ps i).2 : Int) else (m : Int)) = ((min m (pcA ps i).2 : Nat) : Int) := by split <;> omega
        have hv2 : (if (pcA ps i).2 < m then ((pcA ps i).2 : Int) else (m : Int)) = ((min m (pcA ps i).2 : Nat) : Int) := by split <;> omega
        obtain ⟨gp, hgp⟩ : ∃ gp, min m (pcA ps i).2 = gp := ⟨_, rfl⟩
        rw [hgp] at HC hv hv2
        have e2 : IntKind.i64.wrap (((pcA ps i).2 : Int) - (gp : Int)) = (((pcA ps i).2 - gp : Nat) : Int) := by
          rw [IntWalk.i64_in _ (by have := HVM.out; have := HMN.out; omega)]; omega
        have e3 : IntKind.i64.wrap ((m : Int) - (gp : Int)) = ((m - gp : Nat) : Int) := by
          rw [IntWalk.i64_in _ (by have := HS.out.mle; have := HN0.out; omega)]; omega
        clear hgp he
        generalize (pcA ps i).1 = km at *
        generalize (pcA ps i).2 = vm at *
        have HSE := HE.out
        rw [hgA] at c0
        go_wp2_with fail
        refine ⟨⟨i, m - gp, (i : Int) - 1, ys.set i (km, vm - gp), by omega, rfl, rfl, ?_⟩, HMS.out⟩
        rw [hgA]
        exact HC.out _ rfl
      · have HC := Lib.hid (HS.out.skip HPC.out.1 he)
        have dd : decide ((pcA ps i).1 = k) = false := decide_eq_false he
        rw [dd] at HE
        clear dd he
        generalize (pcA ps i).1 = km at *
        generalize (pcA ps i).2 = vm at *
        have HSE := HE.out
        rw [hgA] at c0
        go_wp2_with fail
        exact ⟨⟨i, m, (i : Int) - 1, _, by omega, rfl, rfl, HC.out⟩, HMS.out⟩
    · have HD : Hid (ys = (sh k ps n0).1) := Lib.hid (HS.out.done (by have := HX.out; omega))
      have HOW := HS.out.own
      rw [HD.out] at HOW
      have HOQ := Lib.hid HOW
      clear HOW
      have hfin := delZ_f pv.A pv.n pv.c (sh k ps n0).1 wr HOQ.out HLN.out
      by_cases hx0 : 0 ≤ x
      · have d1 : decide ((x : Int) ≥ 0) = true := decide_eq_true hx0
        have d3 : decide ((0 : Int) ≤ x) = true := decide_eq_true hx0
        have d2 : decide ((m : Int) > 0) = false := decide_eq_false (by omega)
        have d4 : decide (0 < m) = false := decide_eq_false (by omega)
        go_wp2_with fail
        refine hfin.mono ?_
        clear hfin
        rintro _ w1 ⟨rfl, hq, hg⟩
        have HQ := Lib.hid hq
        have HG : Hid (W.grownBy w1 (Value.slice pv.A pv.n pv.c).ownBlock) := Lib.hid (grown_trans HS.out.kp hg)
        have hst1 := (HG.out.block p (Array.getElem?_eq_some_iff.1 HST.out).1 (fun e => HPN.out e.symm)).trans HST.out
        have HST2 := Lib.hid hst1
        have y0 := (st_cell hst1).1
        have f0 := (st_cell hst1).2
        unfold Sl.v at y0
        clear hq hg hst1 c0
        generalize stay zB (sh k ps n0).1 = zs at *
        go_wp2_with fail
        go_end0
        have HQP := HQ.out.pc
        refine ⟨⟨pv.A, zs.length, pv.c⟩, rfl, st_set HST2.out, ?_, ?_, ?_⟩
        · exact blk_eq HQP fun g e => Below.heap_setCell _ ⟨p, 0, none⟩ _ g (fun q => by
            obtain ⟨cur, hc⟩ := owns_ty HQP e
            have := HST2.out
            rw [q] at hc
            have := ty_ne hc this
            omega)
        · intro g e
          exact .inl (by revert e; unfold Sl.v; cases pv.A <;> exact id)
        · exact ((Kp.grown (S := fun b => b = p ∨ pv.v.ownBlock = some b) HG.out (fun j e => .inl (.inr (by unfold Sl.v; exact e))))).set (.inr (.inl rfl)) 0 _
      · have d1 : decide ((x : Int) ≥ 0) = false := decide_eq_false hx0
        have d3 : decide ((0 : Int) ≤ x) = false := decide_eq_false hx0
        go_wp2_with fail
        refine hfin.mono ?_
        clear hfin
        rintro _ w1 ⟨rfl, hq, hg⟩
        have HQ := Lib.hid hq
        have HG : Hid (W.grownBy w1 (Value.slice pv.A pv.n pv.c).ownBlock) := Lib.hid (grown_trans HS.out.kp hg)
        have hst1 := (HG.out.block p (Array.getElem?_eq_some_iff.1 HST.out).1 (fun e => HPN.out e.symm)).trans HST.out
        have HST2 := Lib.hid hst1
        have y0 := (st_cell hst1).1
        have f0 := (st_cell hst1).2
        unfold Sl.v at y0
        clear hq hg hst1 c0
        generalize stay zB (sh k ps n0).1 = zs at *
        go_wp2_with fail
        go_end0
        have HQP := HQ.out.pc
        refine ⟨⟨pv.A, zs.length, pv.c⟩, rfl, st_set HST2.out, ?_, ?_, ?_⟩
        · exact blk_eq HQP fun g e => Below.heap_setCell _ ⟨p, 0, none⟩ _ g (fun q => by
            obtain ⟨cur, hc⟩ := owns_ty HQP e
            have := HST2.out
            rw [q] at hc
            have := ty_ne hc this
            omega)
        · intro g e
          exact .inl (by revert e; unfold Sl.v; cases pv.A <;> exact id)
        · exact ((Kp.grown (S := fun b => b = p ∨ pv.v.ownBlock = some b) HG.out (fun j e => .inl (.inr (by unfold Sl.v; exact e))))).set (.inr (.inl rfl)) 0 _
end Go.Proofs.Ytfchjdhjbepocaa
