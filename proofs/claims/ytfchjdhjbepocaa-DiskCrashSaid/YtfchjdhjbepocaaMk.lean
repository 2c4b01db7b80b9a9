/- Disks: a piece that waits; pieces taken out. -/
import Derived.Test.YtfchjdhjbepocaaMj
namespace Go.Proofs.Ytfchjdhjbepocaa
open Go Go.RowKit

theorem wpList_appP {ops : Array Oper} {rest : List Oper} {o : Oper} {a : Act} {w : World} {Q : Exit → Act → World → Prop} (hgd : o.guard = none) (x y : Operand)
    (ho : o.op = .call { callee := .builtin .append, args := #[x, y], argTypes := #[52, 52] }) (s : Sl) (l : List Pc) (hs : a.eval x = s.v) (hown : OwnPc w s l) (ad : Addr) (m c : Nat) (ys : List Pc) (hm : m = ys.length) (hy : a.eval y = .slice (some ad) m c)
    (hc : ∀ j u, (pcs ys)[j]? = some u → w.cell? (ad.add j) = some u) (hl : l.length + ys.length ≤ 1000000)
    (h : ∀ (s' : Sl) (w' : World), OwnPc w' s' (l ++ ys) → w.grownBy w' s.v.ownBlock → From w s.v s'.v → wpList Try.prog ops Q rest (a.put o.dst (.slice s'.A s'.n s'.c)) w') : wpList Try.prog ops Q (o :: rest) a w := by
  refine wpList_plain hgd fun K hK => ?_
  obtain ⟨i0, hi, hz0, hz1, hz2⟩ := info_parts info105
  obtain ⟨s', w', hr, h1, h2, h3⟩ := run_appP (P := Try.prog) (t := 52) (ty := o.type) Try.underlying52 hi hz0 hz1 hz2 w s l hown ad m c ys hm hc hl
  unfold Oper.wp execOp
  simp only [ho, resolve, invoke, builtin, Sem.run_bind, Sem.run_pure, Result.andThen_ok, List.map_toArray, List.map_cons, List.map_nil, hs, hy, hr]
  exact hK _ _ (h s' w' h1 h2 h3)
theorem pc_one (w : World) (k : Str) (n : Nat) {g : Nat} (h : w.heap[g]? = some (.cells #[.string k, .int .i64 (n : Int)] 105 (0, 0))) : ∀ j u, (pcs [(k, n)])[j]? = some u → w.cell? ((⟨g, 0, none⟩ : Addr).add j) = some u := by
  intro j u hu
  rw [Addr.add_mid, Nat.zero_add]
  have e : pcs [(k, n)] = [.string k, .int .i64 (n : Int)] := rfl
  rw [e] at hu
  unfold World.cell?
  rw [h]
  simpa using hu
def addP (ps : List Pc) (k : Str) (n : Nat) : List Pc := if n = 0 then ps else ps ++ [(k, n)]
/-- What waits is another row, in the struct at p. -/
def WaitP (p mb : Nat) (size : Int) (pv : Sl) (ps' : List Pc) (W : World) (e : Ending) (w' : World) : Prop := ∃ pv' : Sl, e = .returned (.tuple #[]) ∧
  w'.heap[p]? = some (.cells #[pv'.v, .int .i64 size, .map (some mb)] 57 (0, 0)) ∧ OwnPc w' pv' ps' ∧ From W pv.v pv'.v ∧ Kp (fun b => b = p ∨ pv.v.ownBlock = some b) W w'
theorem st_cell {w : World} {p mb : Nat} {v : Value} {z : Int} (h : w.heap[p]? = some (.cells #[v, .int .i64 z, .map (some mb)] 57 (0, 0))) : w.cell? ⟨p, 0, none⟩ = some v ∧ w.frozen? ⟨p, 0, none⟩ = false := by
  constructor
  · unfold World.cell?; simp only [h]; rfl
  · simp [World.frozen?, h]
set_option maxRecDepth 100000 in
set_option maxHeartbeats 2000000 in
theorem wait_f (p mb : Nat) (size : Int) (pv : Sl) (ps : List Pc) (k : Str) (n : Nat) (W : World) (hst : W.heap[p]? = some (.cells #[pv.v, .int .i64 size, .map (some mb)] 57 (0, 0))) (h : OwnPc W pv ps) (hl : ps.length + 1 ≤ 1000000) :
    Calls Try.prog 74 #[.pointer (some ⟨p, 0, none⟩), .string k, .int .i64 (n : Int)] W (WaitP p mb size pv (addP ps k n) W) := by
  have c0 := (st_cell hst).1
  have HP := Lib.hid h
  have HST := Lib.hid hst
  have HL := Lib.hid hl
  have hpn : pv.v.ownBlock ≠ some p := fun e => by
    obtain ⟨cur, hc⟩ := owns_ty h e
    have := ty_ne hc hst
    omega
  have HPN := Lib.hid hpn
  clear h hl hst hpn
  unfold Sl.v at c0
  by_cases hn : n = 0
  · subst hn
    have HE : Hid (addP ps k 0 = ps) := Lib.hid rfl
    rw [HE.out]
    go_enter Try.func74, Try.ntmps74
    go_wp2_with fail
    go_end0
    exact ⟨pv, rfl, HST.out, HP.out, From.refl _ _, Kp.refl _ _⟩
  · have HE : Hid (addP ps k n = ps ++ [(k, n)]) := Lib.hid (if_neg hn)
    rw [HE.out]
    have hn1 : decide ((n : Int) > 0) = true := decide_eq_true (by omega)
    have hn2 : decide (n > 0) = true := decide_eq_true (by omega)
    have hn3 : decide (0 < n) = true := decide_eq_true (by omega)
    clear hn
    have HOA : Hid (Ok W (W.alloc (.cells #[.string k, .int .i64 (n : Int)] 105))) := Lib.hid ((Ok.refl W).alloc _)
    have HNB := Lib.hid (heap_alloc_new W (.cells #[.string k, .int .i64 (n : Int)] 105))
    go_enter Try.func74, Try.ntmps74
    go_wp2_with (at_builtin; go_must (refine wpList_appP rfl (.tmp 12) (.tmp 16) rfl pv ps rfl (blk_eq HP.out (fun g e => HOA.out.block g (owns_lt HP.out e))) ⟨W.heap.size, 0, none⟩ 1 1 [(k, n)] rfl rfl (pc_one _ k n HNB.out) HL.out ?_; intro s' w2 h1 h2 h3; have HS := Lib.hid h1; have HG := Lib.hid h2; have HFR := Lib.hid h3; have hst2 := (h2.block p (Nat.lt_of_lt_of_le (Array.getElem?_eq_some_iff.1 HST.out).1 HOA.out.size) (fun e => HPN.out e.symm)).trans (ok_blk HOA.out HST.out); have HST2 := Lib.hid hst2; have c2 := (st_cell hst2).1; have f2 := (st_cell hst2).2; clear h1 h2 h3 hst2))
    go_end0
    have HGO := HOA.out
    refine ⟨s', rfl, st_set HST2.out, ?_, ?_, ?_⟩
    · exact blk_eq HS.out fun g e => Below.heap_setCell _ ⟨p, 0, none⟩ _ g (fun q => by
        obtain ⟨cur, hc⟩ := owns_ty HS.out e
        have := HST2.out
        rw [q] at hc
        have := ty_ne hc this
        omega)
    · intro g e
      rcases HFR.out g e with q | q
      · exact .inl q
      · exact .inr (Nat.le_trans HGO.size q)
    · exact ((Kp.of HGO).then (Kp.grown (S := fun b => b = p ∨ pv.v.ownBlock = some b) HG.out (fun j e => .inl (.inr e))) (fun _ _ e => e)).set (.inr (.inl rfl)) 0 _
end Go.Proofs.Ytfchjdhjbepocaa
