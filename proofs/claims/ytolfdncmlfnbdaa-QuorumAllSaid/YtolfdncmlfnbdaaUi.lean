/- The nodes of a configuration: rising, each once. -/
import Derived.Test.YtolfdncmlfnbdaaUg
import Derived.Test.YtolfdncmlfnbdaaUh
import Derived.Test.YtolfdncmlfnbdaaShelfB
import Derived.Sort.OwnSortedInts
import Derived.Deep.AppendLies
import Derived.Outline
namespace Go.Proofs.Ytolfdncmlfnbdaa
open Go.RowKit Go.Sort

theorem add_offI (b off i : Nat) : (⟨b, off, none⟩ : Addr).add i = ⟨b, off + i, none⟩ := by unfold Addr.add; split <;> simp_all
theorem run_appZ (w : World) (ty base : Nat) (v : Value) (xs ys : List Int) (vx : Value) (hown : OwnZ w base v xs) (hy : InI w vx ys) (hlen : xs.length + ys.length ≤ 1000000) (hbase : base ≤ w.heap.size) :
    ∃ A c w', (Builtin.append_ #[22, 22] ty #[v, vx]).run Try.prog w = .ok (.slice A (xs.length + ys.length) c) w' ∧ OwnZ w' base (.slice A (xs.length + ys.length) c) (xs ++ ys) ∧ Below base w w' := by
  obtain ⟨i0, hi, hz0, hz1, hz2⟩ := info_parts info3z
  have form : ∀ v' w', w'.ownsRow base 3 1 v' (xs.length + ys.length) (xs.map zv ++ ys.map zv) → ∃ A c, v' = .slice A (xs.length + ys.length) c ∧ OwnZ w' base (.slice A (xs.length + ys.length) c) (xs ++ ys) := fun v' w' h2 => by
    have h2' : OwnZ w' base v' (xs ++ ys) := by unfold OwnZ; rw [List.map_append, List.length_append]; exact h2
    obtain ⟨A, c, rfl⟩ := h2'.form
    rw [List.length_append] at h2' ⊢
    exact ⟨A, c, rfl, h2'⟩
  have some_ : ∀ (ad : Addr) (len c : Nat), vx = .slice (some ad) len c → ys.length = len → (∀ j u, (ys.map zv)[j]? = some u → w.cell? (ad.add j) = some u) →
      ∃ A c w', (Builtin.append_ #[22, 22] ty #[v, vx]).run Try.prog w = .ok (.slice A (xs.length + ys.length) c) w' ∧ OwnZ w' base (.slice A (xs.length + ys.length) c) (xs ++ ys) ∧ Below base w w' := by
    rintro ad len c rfl rfl hn
    obtain ⟨v', w', hr, h2, h3, _, _⟩ := run_append_own_at (P := Try.prog) w base 22 ty 3 i0 (.int .i64 0) 1 8 Try.underlying22 hi hz0 hz1 hz2 rfl (by decide) v xs.length (xs.map zv) hown ad ys.length c (ys.map zv) (by simp) hn
      (fun u hu => by obtain ⟨y, _, rfl⟩ := List.mem_map.1 hu; rfl) (by unfold maxLen; omega) (by omega) hbase
    obtain ⟨A, c', rfl, hO⟩ := form v' w' h2
    exact ⟨A, c', w', hr, hO, (Below.refl base w).grown h3 hbase (fun k hk => (World.ownsRow.lt hown k hk).1)⟩
  rcases hy with ⟨rfl, A, c, rfl, hA⟩ | ⟨b, off, c, rfl, _, hm, hc⟩
  · cases A with
    | some ad => exact some_ ad 0 c rfl rfl (fun j u hu => by simp at hu)
    | none =>
      obtain rfl := hA rfl
      have hrun := run_append_owned_none (P := Try.prog) (w := w) base 22 ty 3 i0 1 Try.underlying22 hi v xs.length (xs.map zv) hown
      obtain ⟨A, c', rfl, hO⟩ := form v w (by have h2 : w.ownsRow base 3 1 v xs.length (xs.map zv) := hown; simpa using h2)
      exact ⟨A, c', w, hrun, hO, Below.refl _ _⟩
  · refine some_ _ _ c rfl rfl (fun j u hu => ?_)
    have hj : j < ys.length := by
      by_cases hl : j < ys.length
      · exact hl
      · rw [List.getElem?_eq_none (by simp; omega)] at hu; cases hu
    rw [add_offI, hc j hj, ← hu]
    simp [hj, zv]
/-- A list of numbers appended, at a step of a region that draws. -/
theorem step_appZ {ops : Array Oper} {o : Oper} {a : Act} {w : World} {K : Act → World → Prop} {Q : Exit → Act → World → Prop} {E : Prop} (hgd : o.guard = none) (s x : Operand)
    (ho : o.op = .call { callee := .builtin .append, args := #[s, x], argTypes := #[22, 22] })
    (base : Nat) (v : Value) (xs ys : List Int) (vx : Value) (hs : a.eval s = v) (hx : a.eval x = vx) (hown : OwnZ w base v xs) (hy : InI w vx ys) (hlen : xs.length + ys.length ≤ 1000000) (hbase : base ≤ w.heap.size)
    (hk : ∀ A N c w', OwnZ w' base (.slice A N c) (xs ++ ys) → Below base w w' → K (a.put o.dst (.slice A N c)) w') :
    if Region.wanted o (yielded ops a.tmps) = true then Oper.wp Try.prog o a w K Q else E := by
  have hw : Region.wanted o (yielded ops a.tmps) = true := by simp [Region.wanted, hgd]
  rw [if_pos hw]
  obtain ⟨A, c, w', hr, h2, h3⟩ := run_appZ w o.type base v xs ys vx hown hy hlen hbase
  unfold Oper.wp execOp
  simp only [ho, resolve, invoke, builtin, Sem.run_bind, Sem.run_pure, Result.andThen_ok, List.map_toArray, List.map_cons, List.map_nil, hs, hx, hr]
  exact hk A _ c w' h2 h3

def lenV : Value → Nat
  | .slice _ n _ => n
  | _ => 0
theorem wpList_appZg {ops : Array Oper} {rest : List Oper} {o : Oper} {a : Act} {w : World} {Q : Exit → Act → World → Prop} (hgd : o.guard = none) (s x : Operand)
    (ho : o.op = .call { callee := .builtin .append, args := #[s, x], argTypes := #[22, 22] })
    (base : Nat) (v : Value) (xs : List Int) (y : Int) (h : Nat) (hs : a.eval s = v) (hx : a.eval x = .slice (some ⟨h, 0, none⟩) 1 1) (hown : OwnZ w base v xs) (hc0 : w.cell? ⟨h, 0, none⟩ = some (.int .i64 y))
    (hlen : xs.length ≤ 1000000) (hbase : base ≤ w.heap.size)
    (hk : ∀ A c w', OwnZ w' base (.slice A (xs.length + 1) c) (xs ++ [y]) → w.grownBy w' v.ownBlock → wpList Try.prog ops Q rest (a.put o.dst (.slice A (xs.length + 1) c)) w') : wpList Try.prog ops Q (o :: rest) a w := by
  obtain ⟨i0, hi, hz0, hz1, hz2⟩ := info_parts info3z
  refine wpList_append_own _ hgd s x 22 ho base 3 i0 (.int .i64 0) 1 8 Try.underlying22 hi hz0 hz1 hz2 rfl (by decide) _ xs.length (xs.map zv) hs hown ⟨h, 0, none⟩ 1 1 [.int .i64 y] hx rfl ?_ ?_ (by unfold maxLen; omega) (by omega) hbase ?_
  · intro j u hu
    match j, hu with
    | 0, hu =>
      obtain rfl : u = .int .i64 y := by simpa using hu.symm
      exact hc0
  · intro u hu
    obtain rfl : u = .int .i64 y := by simpa using hu
    rfl
  · intro v' w' h2 h3 _
    have h2' : OwnZ w' base v' (xs ++ [y]) := by unfold OwnZ; rw [List.map_append, List.length_append]; exact h2
    obtain ⟨A, c, rfl⟩ := h2'.form
    rw [List.length_append] at h2' ⊢
    exact hk A c w' h2' h3
/-- How far the nodes have been taken out: out of l, onto out. -/
structure NS (c : Cfg) (l out : List Int) : Prop where
  up : Rises out
  mem : ∀ x, x ∈ allL c ↔ x ∈ out ∨ x ∈ l
  lt : ∀ x ∈ out, ∀ y ∈ l, x < y
  len : out.length + l.length ≤ 1000
theorem NS.step {c : Cfg} {l out : List Int} (h : NS c l out) (hp : 0 < l.length) : NS c (newsL [leastL (l.getD 0 0) l] l) (out ++ [leastL (l.getD 0 0) l]) ∧ (newsL [leastL (l.getD 0 0) l] l).length < l.length := by
  obtain ⟨h1, h2, h3⟩ := leastL_le (l.getD 0 0) l
  have hm : leastL (l.getD 0 0) l ∈ l := by
    rcases h3 with h3 | h3
    · rw [h3]; simp [hp]
    · exact h3
  obtain ⟨s1, s2, s3, s4⟩ := step_nodes h.up h.mem h.lt _ hm h2
  exact ⟨⟨s1, s2, s3, by have := h.len; rw [List.length_append, List.length_singleton]; omega⟩, s4⟩
def NodesP (W : World) (c : Cfg) (e : Ending) (w' : World) : Prop := ∃ A cc l, e = .returned (.slice A l.length cc) ∧ InI w' (.slice A l.length cc) l ∧ NodesOf c l ∧ Ok W w'
theorem OkS.tr {a b c : World} (h : Ok a b) (k : OkS b c) : Ok a c := h.trans k.out

def Sum3 (c : Cfg) : Prop := c.vs.length + c.os.length + c.ls.length ≤ 1000
set_option maxRecDepth 100000 in
set_option maxHeartbeats 8000000 in
theorem nodes06_w (v : Value) (c : Cfg) (W : World) (h : CfgIn W v c) (hs : Sum3 c) :
    Calls Try.prog 57 #[v] W (NodesP W c) := by
  obtain ⟨A0, c0, A1, c1, A2, c2, A3, c3, rfl, h1, h2, h3, h4⟩ := h.forms
  have H1 := Lib.hid h1
  have H2 := Lib.hid h2
  have H3 := Lib.hid h3
  have HSH := Lib.hid hs
  clear h h1 h2 h3 h4 hs
  have HAT0 := Lib.hid (At.new W (.slice A0 c.vs.length c0) (.slice A1 c.os.length c1) (.slice A2 c.ls.length c2) (.slice A3 c.ws.length c3) 71)
  have HOK0 : Hid (Ok W (W.alloc (.cells #[.slice A0 c.vs.length c0, .slice A1 c.os.length c1, .slice A2 c.ls.length c2, .slice A3 c.ws.length c3] 71))) := Lib.hid ((Ok.refl W).alloc _)
  have HALL : Hid (allL c = c.vs ++ c.os ++ c.ls) := Lib.hid (by rw [allL, List.append_assoc])
  generalize hn0 : c.vs.length = n0 at *
  generalize hn1 : c.os.length = n1 at *
  generalize hn2 : c.ls.length = n2 at *
  generalize c.ws.length = n3 at *
  have HN0 := Lib.hid hn0
  have HN1 := Lib.hid hn1
  have HN2 := Lib.hid hn2
  clear hn0 hn1 hn2
  go_enter Try.func57, Try.ntmps57
  have hat := HAT0.out
  go_wp2_with fail
  generalize (W.alloc (.cells #[.slice A0 n0 c0, .slice A1 n1 c1, .slice A2 n2 c2, .slice A3 n3 c3] 71)) = W1 at *
  have HAT := Lib.hid hat
  clear hat
  have HOW := Lib.hid (OwnZ.made W1.drew W1.drew.heap.size (Nat.le_refl _))
  have HE1 : Hid (Ok W1 (W1.drew.alloc (.cells #[] 3))) := Lib.hid (Ok.alloc (Ok.drew (Ok.refl W1)) _)
  go_region_held3 (fun w' => w'.cell? ⟨W.heap.size, 0, none⟩ = some (.slice A0 n0 c0) ∧ w'.cell? ⟨W.heap.size, 1, none⟩ = some (.slice A1 n1 c1) ∧ w'.cell? ⟨W.heap.size, 2, none⟩ = some (.slice A2 n2 c2) ∧ w'.cell? ⟨W.heap.size, 3, none⟩ = some (.slice A3 n3 c3) ∧ OkS W1 w')
    (exact S5 HAT.out (by (repeat (first | (with_reducible exact Ok.refl _) | (with_reducible assumption) | (with_reducible refine Ok.drew ?_) | (with_reducible refine Ok.alloc ?_ _) | (with_reducible refine Ok.trans ?_ (by assumption))))))
    (first
      | (refine step_appZ (by rfl) _ _ (by rfl) W1.drew.heap.size (.slice (some ⟨W1.drew.heap.size, 0, none⟩) 0 0) [] c.vs (.slice A0 n0 c0) (by rfl) (by rfl) HOW.out ((HOK0.out.trans HE1.out).ints H1.out) (by have h := HSH.out; unfold Sum3 at h; simp; omega) (by simp) ?_; intro B1 N1 k1 w1 hown1 hb1; have o1 : Ok W1 w1 := (Below.trans HE1.out hb1))
      | (refine step_appZ (by rfl) _ _ (by rfl) W1.drew.heap.size _ ([] ++ c.vs) c.os (.slice A1 n1 c1) (by rfl) (by rfl) hown1 ((HOK0.out.trans o1).ints H2.out) (by have h := HSH.out; unfold Sum3 at h; simp; omega) (Nat.le_trans (by simp) o1.size) ?_; intro B2 N2 k2 w2 hown2 hb2; have o2 : Ok W1 w2 := (Below.trans o1 hb2))
      | (refine step_appZ (by rfl) _ _ (by rfl) W1.drew.heap.size _ ([] ++ c.vs ++ c.os) c.ls (.slice A2 n2 c2) (by rfl) (by rfl) hown2 ((HOK0.out.trans o2).ints H3.out) (by have h := HSH.out; unfold Sum3 at h; simp; omega) (Nat.le_trans (by simp) o2.size) ?_; intro B3 N3 k3 w3 hown3 hb3; have o3 : Ok W1 w3 := (Below.trans o2 hb3)))
  go_wp2_with fail
  have HOK3 := Lib.hid o3
  have HLEN : Hid (N3 = (c.vs ++ c.os ++ c.ls).length) := Lib.hid (by
    obtain ⟨_, _, e⟩ := hown3.form
    simp only [Value.slice.injEq, List.nil_append] at e
    exact e.2.1)
  have HV3 : Hid (OwnZ w3 W1.heap.size (.slice B3 (c.vs ++ c.os ++ c.ls).length k3) (c.vs ++ c.os ++ c.ls)) := Lib.hid (by have h := HLEN.out; rw [← h]; exact hown3)
  clear hown1 hb1 o1 hown2 hb2 o2 hown3 hb3 o3 HOW HE1 HAT
  go_loopw [3, 4, 5, 6] (fun a o _ _ wr => ∃ (l out : List Int) (Aa Ao : Option Addr) (ka ko : Nat), a = .slice Aa l.length ka ∧ o = .slice Ao out.length ko ∧ (∃ M, (∀ g, (Value.slice Ao out.length ko).ownBlock = some g → g < M) ∧ OwnZ wr M (.slice Aa l.length ka) l) ∧ OwnZ wr W1.heap.size (.slice Ao out.length ko) out ∧ Ok W1 wr ∧ NS c l out) (fun a _ _ _ _ => lenV a)
  case atStart => exact ⟨c.vs ++ c.os ++ c.ls, [], B3, none, k3, 0, by rw [HLEN.out], rfl, ⟨_, fun g h => by simp [Value.ownBlock] at h, HV3.out⟩, OwnZ.nil _ _, HOK3.out,
    ⟨by simp [Rises], fun x => by rw [HALL.out]; simp, by simp, by have h := HSH.out; unfold Sum3 at h; simp; omega⟩⟩
  case round =>
    obtain ⟨l, out, Aa, Ao, ka, ko, rfl, rfl, ⟨M, hM, hin⟩, hown, hok, hns⟩ := hrel
    have HL := Lib.hid hin
    have HMM := Lib.hid hM
    have HO := Lib.hid hown
    have HK := Lib.hid hok
    have HNS := Lib.hid hns
    have hlm : l.length ≤ 1000 := by have := hns.len; omega
    have hom : out.length ≤ 1000 := by have := hns.len; omega
    have HI := Lib.hid (hin.ints (by omega))
    clear hM hin hown hok hns HV3 HOK3 HLEN
    by_cases hp : 0 < l.length
    · have HST := Lib.hid (HNS.out.step hp)
      have HTK : Hid (∀ k, k < l.length → leastL (l.getD 0 0) (l.take (k + 1)) = min (leastL (l.getD 0 0) (l.take k)) (l.getD k 0)) := Lib.hid (fun k hk => leastL_take _ _ _ hk)
      have HNL := Lib.hid (newsL_len [leastL (l.getD 0 0) l] l)
      obtain ⟨b, o, rfl, hc⟩ := (HI.out.at rfl 0 hp).2
      rw [Nat.add_zero] at hc
      have HC := Lib.hid hc
      generalize hn : l.length = n at *
      have HN := Lib.hid hn
      clear hn
      generalize hy0 : l.getD 0 0 = y0 at *
      clear hy0
      have d0 : decide (0 < n) = true := decide_eq_true hp
      have d1 : decide ((0 : Int) < (n : Int)) = true := decide_eq_true (by omega)
      go_wp2_with fail
      go_loopw [5, 6] (fun m i wr2 => ∃ k : Nat, k ≤ n ∧ i = .int .i64 k ∧ m = .int .i64 (leastL y0 (l.take k)) ∧ wr = wr2) (fun _ i _ => n - (intOf i).toNat)
      case atStart => exact ⟨0, Nat.zero_le _, rfl, rfl, rfl⟩
      case round =>
        obtain ⟨k, hk, rfl, rfl, rfl⟩ := hrel
        by_cases hlt : k < n
        · obtain ⟨b', o', he', hck⟩ := (HI.out.at rfl k hlt).2
          simp only [Option.some.injEq, Addr.mk.injEq, and_true] at he'
          obtain ⟨rfl, rfl⟩ := he'
          have HT := Lib.hid (HTK.out k hlt)
          generalize l.getD k 0 = z at *
          generalize leastL y0 (l.take k) = m0 at *
          have hi0 : (0 : Int) ≤ (k : Int) := Int.natCast_nonneg _
          have hi1 : (k : Int) < (n : Int) := by omega
          clear hc
          go_wp2_with fail
          go_roundw
          case rel => exact ⟨k + 1, by omega, by go_num, by rw [HT.out], trivial⟩
          case measure => simp [intOf]; omega
        · have hke : k = n := by omega
          subst hke
          rw [show l.take k = l from List.take_of_length_le (by rw [HN.out]; exact Nat.le_refl _)]
          generalize leastL y0 l = z at *
          have HNEW : Hid ((wr.alloc (.cells #[.int .i64 z] 3)).cell? ⟨wr.heap.size, 0, none⟩ = some (.int .i64 z)) := Lib.hid (box_cell _ _ _ _ _ rfl)
          have HOW := Lib.hid (HO.out.al (.cells #[.int .i64 z] 3))
          have HLA := Lib.hid (HL.out.al (.cells #[.int .i64 z] 3))
          have HKA : Hid (Ok W1 (wr.alloc (.cells #[.int .i64 z] 3))) := Lib.hid (HK.out.alloc _)
          clear hc d0 d1
          go_wp2_with (at_builtin; go_must (refine wpList_appZg rfl (.tmp 35) (.tmp 37) rfl W1.heap.size (.slice Ao out.length ko) out z wr.heap.size rfl rfl HOW.out HNEW.out (by omega) HKA.out.size ?_; intro A' c' w4 hown4 hgr4; have HOW4 := Lib.hid hown4; have HBL4 : Hid (Ok W1 w4) := Lib.hid (Below.trans HKA.out ((Below.refl _ _).grown hgr4 HKA.out.size (fun k hk => (World.ownsRow.lt HOW.out k hk).1))); have HLL4 : Hid (OwnZ w4 M (.slice (some ⟨b, o, none⟩) k ka) l) := Lib.hid (World.ownsRow.kept HLA.out hgr4 (.inr (fun e => by have h1 := (World.ownsRow.lt HLA.out b rfl).1; have h2 := HMM.out b (by rw [← e]; rfl); omega))); clear hown4 hgr4))
          have HX5 := Lib.hid (one_int w4 z)
          have HL5 := Lib.hid ((HLL4.out.al (.cells #[.int .i64 z] 3)).ints (by rw [HN.out]; omega))
          have HOW5 := Lib.hid (HOW4.out.al (.cells #[.int .i64 z] 3))
          have HK5 : Hid (Ok W1 (w4.alloc (.cells #[.int .i64 z] 3))) := Lib.hid (HBL4.out.alloc _)
          generalize (w4.alloc (.cells #[.int .i64 z] 3)) = w5 at *
          refine (less06_w _ _ l [z] w5 HL5.out HX5.out (by rw [HN.out]; omega)).mono ?_
          rintro e w6 ⟨⟨A6, c6, rfl, hown6⟩, hok6⟩
          have HMN : Hid (∀ g, (Value.slice A' (out.length + 1) c').ownBlock = some g → g < w5.heap.size) := Lib.hid fun g hg => (World.ownsRow.lt HOW5.out g hg).2
          have HS2 := Lib.hid HST.out.2
          have HS1 := Lib.hid HST.out.1
          have HOW6 := Lib.hid (HOW5.out.ok hok6)
          have HK6 : Hid (Ok W1 w6) := Lib.hid (HK5.out.trans hok6)
          have HL6 := Lib.hid hown6
          clear hown6 hok6 HST
          go_wp2_with fail
          go_roundw
          case rel => exact ⟨newsL [z] l, out ++ [z], A6, A', c6, c', rfl, by rw [List.length_append]; rfl, ⟨w5.heap.size, by rw [List.length_append]; exact HMN.out, HL6.out⟩, by rw [List.length_append]; exact HOW6.out, HK6.out, HS1.out⟩
          case measure => exact HS2.out
    · have hl0 : l = [] := List.eq_nil_of_length_eq_zero (by omega)
      subst hl0
      have HFIN : Hid (∀ e, e = .returned (.slice Ao out.length ko) → NodesP W c e wr) := Lib.hid fun e he => ⟨Ao, ko, out, he, HO.out.ints (by omega), ⟨HNS.out.up, fun x => by have := HNS.out.mem x; simpa using this.symm⟩, HOK0.out.trans HK.out⟩
      simp only [List.length_nil]
      go_wp2_with fail
      go_ret
      exact HFIN.out _ rfl
end Go.Proofs.Ytolfdncmlfnbdaa
