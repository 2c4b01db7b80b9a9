/- The contract of the document's own Turn. -/
import Derived.Test.YtdabdkedgigjdaaGreatSx
import Derived.Test.YtdabdkedgigjdaaGreatSv
import Derived.Test.YtdabdkedgigjdaaGreatSj
import Derived.Test.YtdabdkedgigjdaaGreatAC
import Derived.Deep.CutRange
import Derived.Outline
namespace Go.Proofs.YtdabdkedgigjdaaGreat
open Go.RowKit

theorem one_new (w : World) (t : Str) : StrsN (w.heap.size + 1) (w.alloc (.cells #[.string t] 9)) (.slice (some ⟨w.heap.size, 0, none⟩) 1 1) [t] := by
  refine .inr ⟨w.heap.size, 0, 1, rfl, Nat.lt_succ_self _, by simp, fun j hj => ?_⟩
  obtain rfl : j = 0 := by simpa using hj
  rw [show at0 [t] 0 = t from rfl]
  go_cell
theorem rturn_ways (ep : Int) (xs : List Sh) (i : Sp) (g : Int) :
    (sharesB ep xs = false ∧ rturnM ep xs i g = (2, [])) ∨
    (sharesB ep xs = true ∧ rightB i = false ∧ rturnM ep xs i g = (2, [])) ∨
    (sharesB ep xs = true ∧ rightB i = true ∧ ¬ (1 ≤ g ∧ g ≤ 4) ∧ rturnM ep xs i g = (2, [])) ∨
    (sharesB ep xs = true ∧ rightB i = true ∧ (1 ≤ g ∧ g ≤ 4) ∧ firstM ep xs (fun x => withinB i x.sp) = none ∧ rturnM ep xs i g = (6, [])) ∨
    ∃ x, sharesB ep xs = true ∧ rightB i = true ∧ (1 ≤ g ∧ g ≤ 4) ∧ firstM ep xs (fun x => withinB i x.sp) = some x ∧
      ((x.g = g ∧ rturnM ep xs i g = (7, [])) ∨
        (x.g ≠ g ∧ (ep = 1073741824 ∨ 40 < (xs.flatMap (stepM x i g (ep + 1))).length) ∧ rturnM ep xs i g = (8, [])) ∨
        (x.g ≠ g ∧ ep ≠ 1073741824 ∧ (xs.flatMap (stepM x i g (ep + 1))).length ≤ 40 ∧ rturnM ep xs i g = (0, xs.flatMap (stepM x i g (ep + 1))))) := by
  have hg : groupB g = true ↔ (1 ≤ g ∧ g ≤ 4) := by simp [groupB]
  cases h1 : sharesB ep xs with
  | false => exact .inl ⟨rfl, by simp [rturnM, h1]⟩
  | true =>
    cases h2 : rightB i with
    | false => exact .inr (.inl ⟨rfl, rfl, by simp [rturnM, h2]⟩)
    | true =>
      by_cases h3 : groupB g = true
      · right; right; right
        cases h4 : xs.find? (fun x => withinB i x.sp) with
        | none => exact .inl ⟨rfl, rfl, hg.1 h3, by simp [firstM, h1, h4], by simp [rturnM, h1, h2, h3, h4]⟩
        | some x =>
          refine .inr ⟨x, rfl, rfl, hg.1 h3, by simp [firstM, h1, h4], ?_⟩
          by_cases h6 : x.g = g
          · exact .inl ⟨h6, by simp [rturnM, h1, h2, h3, h4, h6]⟩
          · right
            by_cases h7 : ep = 1073741824 ∨ 40 < (xs.flatMap (stepM x i g (ep + 1))).length
            · exact .inl ⟨h6, h7, by simp only [rturnM, h1, h2, h3, h4, h6, h7, if_true, if_false, Bool.and_self]⟩
            · exact .inr ⟨h6, by omega, by omega, by simp only [rturnM, h1, h2, h3, h4, h6, h7, if_true, if_false, Bool.and_self]⟩
      · exact .inr (.inr (.inl ⟨rfl, rfl, fun h => h3 (hg.2 h), by simp [rturnM, h3]⟩))

theorem blo {B : Nat} {w w' : World} {a : Addr} {v : Value} (h : Below B w w') (hc : w.cell? a = some v) (hb : a.block < B) : w'.cell? a = some v := by
  rw [Below.cell h hb]; exact hc
theorem blof {B : Nat} {w w' : World} {a : Addr} {v : Bool} (h : Below B w w') (hc : w.frozen? a = v) (hb : a.block < B) : w'.frozen? a = v := by
  rw [Below.frozen h hb]; exact hc
theorem OwnSh.set2 {w : World} {B : Nat} {A : Option Addr} {n c : Nat} {xs : List Sh} (h : OwnSh w B A n c xs) {p : Addr} (hp : A.map (·.block) ≠ Option.some p.block) (v : Value) : OwnSh (w.setCell p v) B A n c xs := by
  refine ⟨⟨h.1.1, ?_⟩, h.2⟩
  rcases h.1.2 with e | ⟨g, cap, cur, e, hB, hg, r⟩
  · exact .inl e
  · refine .inr ⟨g, cap, cur, e, hB, ?_, r⟩
    simp only [Value.slice.injEq] at e
    rw [Below.heap_setCell _ _ _ _ (by intro e3; apply hp; rw [e.1, ← e3]; rfl)]
    exact hg
def AtsIn (W : World) (v : Value) (zs : List Str) (wx : World) : Prop := OwnT wx W.heap.size v zs ∧ (v = .slice none 0 0 ∨ zs ≠ []) ∧ Ok W wx
theorem OwnT.strsN {w : World} {base : Nat} {v : Value} {xs : List Str} (h : OwnT w base v xs) (hl : xs.length ≤ 60) (hv : v = .slice none 0 0 ∨ xs ≠ []) : StrsN w.heap.size w v xs := by
  have h0 := h
  rcases h.2 with ⟨rfl, h5⟩ | ⟨g, cap, cur, rfl, _, hg, _⟩
  · have := List.length_eq_zero_iff.1 h5
    exact .inl ⟨this, none, 0, rfl, fun _ => rfl⟩
  · refine .inr ⟨g, 0, cap, rfl, (Array.getElem?_eq_some_iff.1 hg).1, by omega, fun j hj => ?_⟩
    rw [Nat.zero_add, World.ownsRow.cellAt h0 j (by omega)]
    simp [at0, hj]
theorem step_len (x : Sh) (i : Sp) (g ep : Int) (y : Sh) : (stepM x i g ep y).length ≤ 3 := by
  unfold stepM
  split
  · rw [List.length_map]
    unfold rcutM
    split
    · have h1 := rfold_len (atsM i) [y.sp]
      have h2 : (atsM i).length ≤ 2 := by unfold atsM; split <;> split <;> simp
      simp only [List.length_cons, List.length_nil] at h1
      omega
    · simp
  · simp
theorem flat_len3 (x : Sh) (i : Sp) (g ep : Int) : ∀ l : List Sh, (l.flatMap (stepM x i g ep)).length ≤ 3 * l.length
  | [] => by simp
  | y :: l => by
    have h1 := flat_len3 x i g ep l
    have h2 := step_len x i g ep y
    rw [List.flatMap_cons, List.length_append, List.length_cons]
    omega
theorem flat_upto (f : Sh → List Sh) (xs : List Sh) (k : Nat) (h : k < xs.length) : (xs.take (k + 1)).flatMap f = (xs.take k).flatMap f ++ f (at2 xs k) := by
  rw [at2_get xs k h, List.take_succ_eq_append_getElem h, List.flatMap_append]
  simp

/-- Shares appended; and what else has turned. -/
theorem wpList_appSh2 {ops : Array Oper} {rest : List Oper} {o : Oper} {a : Act} {w : World} {Q : Exit → Act → World → Prop} (hgd : o.guard = none) (s x : Operand)
    (ho : o.op = .call { callee := .builtin .append, args := #[s, x], argTypes := #[22, 22] })
    (base : Nat) (A : Option Addr) (n c : Nat) (xs : List Sh) (hs : a.eval s = .slice A n c) (hown : OwnSh w base A n c xs)
    (ad : Addr) (m c2 : Nat) (ys : List Sh) (hx : a.eval x = .slice (some ad) m c2) (hm : ys.length = m) (hnews : ShIn w ad ys) (hlen : xs.length + m ≤ 100000) (hbase : base ≤ w.heap.size)
    (hk : ∀ A' n' c' w', OwnSh w' base A' n' c' (xs ++ ys) → Below base w w' → w.grownBy w' (A.map (·.block)) → (A'.map (·.block) = A.map (·.block) ∨ A'.map (·.block) = some w.heap.size) → wpList Tryz.prog ops Q rest (a.put o.dst (.slice A' n' c')) w') : wpList Tryz.prog ops Q (o :: rest) a w := by
  obtain ⟨i0, hi, hz0, hz1, hz2⟩ := info_parts info60
  obtain ⟨hown, rfl⟩ := hown
  have ob : ∀ (B : Option Addr) (p q : Nat), (Value.slice B p q).ownBlock = B.map (·.block) := fun B p q => by cases B <;> rfl
  refine wpList_append_own_at _ hgd s x 22 ho base 35 i0 (.agg #[.string ⟨#[]⟩, .string ⟨#[]⟩, .int .i64 0, .int .i64 0]) 4 48 Tryz.underlying22 hi hz0 hz1 hz2 rfl (by decide) _ xs.length (flat4 xs) hs hown ad m c2 (flat4 ys) hx (by rw [flat4_len, hm]) hnews (flat4_one ys) (by unfold maxLen; omega) (by omega) hbase ?_
  intro v' w' h2 h3 _ h5
  have hb : Below base w w' := (Below.refl base w).grown h3 hbase (fun k hk => (World.ownsRow.lt hown k hk).1)
  rw [← hm, ← flat4_append, ← List.length_append] at h2
  rw [ob] at h3 h5
  rcases h2.2 with ⟨rfl, h6⟩ | ⟨g', cap', cur, rfl, _⟩
  · exact hk none 0 0 w' ⟨h2, h6.symm⟩ hb h3 h5
  · exact hk _ _ _ w' ⟨h2, rfl⟩ hb h3 h5
/-- All that lay in W lies in w, but in block po, and in block O. -/
def Mov (W w : World) (po : Nat) (O : Option Nat) : Prop := W.heap.size ≤ w.heap.size ∧ ∀ k, k < W.heap.size → k ≠ po → O ≠ some k → w.heap[k]? = W.heap[k]?
theorem Mov.refl (W : World) (po : Nat) (O : Option Nat) : Mov W W po O := ⟨Nat.le_refl _, fun _ _ _ _ => rfl⟩
theorem Mov.ok {W w w' : World} {po : Nat} {O : Option Nat} (h : Mov W w po O) (k : Ok w w') : Mov W w' po O := ⟨Nat.le_trans h.1 k.size, fun j hj h1 h2 => (k.block j (Nat.lt_of_lt_of_le hj h.1)).trans (h.2 j hj h1 h2)⟩
theorem Mov.set {W w : World} {po : Nat} {O : Option Nat} (h : Mov W w po O) (o : Nat) (v : Value) : Mov W (w.setCell ⟨po, o, none⟩ v) po O :=
  ⟨by simpa [World.setCell] using h.1, fun j hj h1 h2 => by rw [Below.heap_setCell _ _ _ _ h1]; exact h.2 j hj h1 h2⟩
theorem Mov.set2 {W w : World} {po : Nat} {O : Option Nat} (h : Mov W w po O) {p : Nat} (hp : W.heap.size ≤ p) (o : Nat) (v : Value) : Mov W (w.setCell ⟨p, o, none⟩ v) po O :=
  ⟨by simpa [World.setCell] using h.1, fun j hj h1 h2 => by rw [Below.heap_setCell _ _ _ _ (by simp; omega)]; exact h.2 j hj h1 h2⟩
theorem Mov.grow {W w w' : World} {po : Nat} {O P : Option Nat} (h : Mov W w po O) (g : w.grownBy w' P) (hP : P = O ∨ ∃ b, P = some b ∧ W.heap.size ≤ b) : Mov W w' po O :=
  ⟨Nat.le_trans h.1 g.size, fun j hj h1 h2 => by
    rw [g.block j (Nat.lt_of_lt_of_le hj h.1) ?_]
    · exact h.2 j hj h1 h2
    · rcases hP with rfl | ⟨b, rfl, hb⟩
      · exact fun e => h2 e.symm
      · intro e; simp only [Option.some.injEq] at e; omega⟩
theorem Mov.cell {W w : World} {po : Nat} {O : Option Nat} (h : Mov W w po O) {b o : Nat} {v : Value} (hc : W.cell? ⟨b, o, none⟩ = some v) (h1 : b ≠ po) (h2 : O ≠ some b) : w.cell? ⟨b, o, none⟩ = some v := by
  rw [World.cell?_of_block (w := W) (h.2 b (World.block_lt_of_cell? _ _ hc) h1 h2)]; exact hc
/-- Where the new shares lie, while they are made: block po; the list of its own. -/
def OutAt (w5 W wr : World) (po : Nat) (ep : Int) (O : Option Nat) (acc : List Sh) : Prop := ∃ A n c, wr.cell? ⟨po, 0, none⟩ = some (.int .i64 ep) ∧ wr.cell? ⟨po, 1, none⟩ = some (.slice A n c) ∧ wr.frozen? ⟨po, 1, none⟩ = false ∧
  OwnSh wr w5.heap.size A n c acc ∧ Below po w5 wr ∧ Mov W wr po O ∧ (A.map (·.block) = O ∨ ∃ b, A.map (·.block) = some b ∧ W.heap.size ≤ b)
theorem OutAt.ok {w5 W w w' : World} {po : Nat} {ep : Int} {O : Option Nat} {acc : List Sh} (h : OutAt w5 W w po ep O acc) (hp : po ≤ w.heap.size) (k : Ok w w') : OutAt w5 W w' po ep O acc := by
  obtain ⟨A, n, c, h1, h2, h3, h4, h5, h6, h7⟩ := h
  exact ⟨A, n, c, Ok.cell k h1, Ok.cell k h2, (Below.frozen k (World.block_lt_of_cell? _ _ h2)).trans h3, h4.ok k, Below.trans h5 (k.mono hp), h6.ok k, h7⟩
/-- Behind an append and its store. -/
theorem OutAt.put {w5 W X w2 : World} {po : Nat} {ep : Int} {O : Option Nat} {A A2 : Option Addr} {n c n2 c2 : Nat} {acc2 : List Sh} (h1 : X.cell? ⟨po, 0, none⟩ = some (.int .i64 ep)) (h2 : X.cell? ⟨po, 1, none⟩ = some (.slice A n c)) (h3 : X.frozen? ⟨po, 1, none⟩ = false)
    (h5 : Below po w5 X) (h6 : Mov W X po O) (h7 : A.map (·.block) = O ∨ ∃ b, A.map (·.block) = some b ∧ W.heap.size ≤ b) (hp : po < w5.heap.size)
    (k1 : OwnSh w2 w5.heap.size A2 n2 c2 acc2) (k2 : Below w5.heap.size X w2) (k3 : X.grownBy w2 (A.map (·.block))) (k4 : A2.map (·.block) = A.map (·.block) ∨ A2.map (·.block) = some X.heap.size) :
    OutAt w5 W (w2.setCell ⟨po, 1, none⟩ (.slice A2 n2 c2)) po ep O acc2 := by
  have c0 := blo k2 h1 hp
  have c1 := blo k2 h2 hp
  refine ⟨A2, n2, c2, (World.cell?_setCell_other _ _ _ _ (by simp)).trans c0, World.cell?_setCell_same _ _ _ c1, by rw [World.frozen?_setCell]; exact blof k2 h3 hp, k1.set hp _, Below.setCell (Below.trans h5 (k2.mono (Nat.le_of_lt hp))) (Nat.le_refl _) _, (h6.grow k3 h7).set _ _, ?_⟩
  rcases k4 with e | e
  · rw [e]; exact h7
  · exact .inr ⟨_, e, h6.1⟩

set_option maxRecDepth 100000 in
set_option maxHeartbeats 40000000 in
theorem rturn_w (ep : Int) (A : Option Addr) (n c : Nat) (xs : List Sh) (i : Sp) (g : Int) (hn : xs.length = n) (hn6 : n ≤ 1000) (w : World) (hI : SharesAt w A xs) :
    Calls Tryz.prog 12 #[.agg #[.int .i64 ep, .slice A n c], spV i, .int .i64 g] w (TurnPost w ep (rturnM ep xs i g)) := by
  have HSR := Lib.hid (fun w' h => rsharesRight_w ep A n c xs hn hn6 w' h)
  have hri := rright_w i
  have HIN := Lib.hid (fun w' h => rin_w i ep A n c xs hn hn6 w' h)
  have HI := Lib.hid hI
  have HN := Lib.hid hn
  have hways := rturn_ways ep xs i g
  have hep : sharesB ep xs = true → 1 ≤ ep ∧ ep ≤ 1073741824 ∧ n ≤ 40 := fun h => by
    have := shares_parts h
    exact ⟨this.2.1, this.2.2.1, by rw [← hn]; exact this.1⟩
  obtain ⟨R, hR⟩ : ∃ R, rturnM ep xs i g = R := ⟨_, rfl⟩
  rw [hR] at hways ⊢
  clear hR hI hn
  generalize firstM ep xs (fun x => withinB i x.sp) = fm at HIN hways
  have HAT : Hid (atsM i = (if noB i.lo = true then [] else [i.lo]) ++ (if noB i.hi = true then [] else [i.hi])) := Lib.hid rfl
  have HSTEP := Lib.hid (fun x y => show stepM x i g (ep + 1) y = if eqSh y x = true then (rcutM y.sp (atsM i)).map (pieceM y i g (ep + 1)) else [y] from rfl)
  have HPC := Lib.hid (fun y s => show pieceM y i g (ep + 1) s = if eqS s i = true then ⟨s, g, ep + 1⟩ else ⟨s, y.g, y.e⟩ from rfl)
  have HFL := Lib.hid (fun x (k : Nat) (h : k < n) => flat_upto (stepM x i g (ep + 1)) xs k (by rw [HN.out]; exact h))
  have HF3 := Lib.hid (fun x (k : Nat) => flat_len3 x i g (ep + 1) (xs.take k))
  have HALL := Lib.hid (fun x => show ∀ k, n ≤ k → (xs.take k).flatMap (stepM x i g (ep + 1)) = xs.flatMap (stepM x i g (ep + 1)) from fun k hk => by rw [List.take_of_length_le (by rw [HN.out]; exact hk)])
  generalize atsM i = ats at HAT HSTEP
  obtain ⟨il, ih⟩ := i
  unfold spV at *
  simp only at HAT HPC hri HIN
  go_enter Tryz.func12, Tryz.ntmps12
  go_wp2_with fail
  generalize hW : ((w.alloc (.cells #[.int .i64 ep, .slice A n c] 24)).alloc (.cells #[.string il, .string ih] 26)).alloc (.cells #[.int .i64 0, .slice none 0 0] 24) = W
  have oW : Ok w W := by subst hW; exact Ok.alloc (Ok.alloc (Ok.alloc (Ok.refl w) _) _) _
  have B0 : W.cell? ⟨w.heap.size, 0, none⟩ = some (.int .i64 ep) := by subst hW; go_cell
  have B1 : W.cell? ⟨w.heap.size, 1, none⟩ = some (.slice A n c) := by subst hW; go_cell
  have I0 : W.cell? ⟨w.heap.size + 1, 0, none⟩ = some (.string il) := by subst hW; go_cell
  have I1 : W.cell? ⟨w.heap.size + 1, 1, none⟩ = some (.string ih) := by subst hW; go_cell
  have R0 : W.cell? ⟨w.heap.size + 1 + 1, 0, none⟩ = some (.int .i64 0) := by subst hW; go_cell
  have R1 : W.cell? ⟨w.heap.size + 1 + 1, 1, none⟩ = some (.slice none 0 0) := by subst hW; go_cell
  have F0 : W.frozen? ⟨w.heap.size + 1 + 1, 0, none⟩ = false := by subst hW; go_cell
  have F1 : W.frozen? ⟨w.heap.size + 1 + 1, 1, none⟩ = false := by subst hW; go_cell
  clear hW
  refine (HSR.out _ (HI.out.ok oW)).mono ?_
  rintro _ w1 ⟨rfl, o1⟩
  have F0 := (Below.frozen o1 (World.block_lt_of_cell? _ _ R0)).trans F0
  have F1 := (Below.frozen o1 (World.block_lt_of_cell? _ _ R1)).trans F1
  have B0 := Ok.cell o1 B0
  have B1 := Ok.cell o1 B1
  have I0 := Ok.cell o1 I0
  have I1 := Ok.cell o1 I1
  have R0 := Ok.cell o1 R0
  have R1 := Ok.cell o1 R1
  have ok1 : Ok w w1 := Ok.call oW o1
  clear o1 oW
  rcases hways with ⟨h1, rfl⟩ | ⟨h1, h2, rfl⟩ | ⟨h1, h2, h3, rfl⟩ | ⟨h1, h2, ⟨h3, h3'⟩, h4, rfl⟩ | ⟨x, h1, h2, ⟨h3, h3'⟩, h4, hrest⟩
  · rw [h1]
    go_wp2
    have st := store2 w1 (w.heap.size + 1 + 1) _ _ (.int .i64 0) (.slice none 0 0) R0 R1
    (try simp only [Exit.inBlock, Exit.then])
    refine bodyPost_ret (by simp [results, Tryz.results12, go_sem, st.1, st.2]; try rfl) rfl ?_
    exact TurnPost.err (by decide) rfl (Ok.set (Ok.set ok1 (by simp; omega) _) (by simp; omega) _)
  · rw [h1]
    rw [h2] at hri
    go_wp2_with fail
    refine (hri _).mono ?_
    rintro _ w2 ⟨rfl, o2⟩
    have F0 := (Below.frozen o2 (World.block_lt_of_cell? _ _ R0)).trans F0
    have F1 := (Below.frozen o2 (World.block_lt_of_cell? _ _ R1)).trans F1
    have B0 := Ok.cell o2 B0
    have B1 := Ok.cell o2 B1
    have I0 := Ok.cell o2 I0
    have I1 := Ok.cell o2 I1
    have R0 := Ok.cell o2 R0
    have R1 := Ok.cell o2 R1
    have ok2 : Ok w w2 := Ok.call ok1 o2
    clear o2 ok1
    go_wp2
    have st := store2 w2 (w.heap.size + 1 + 1) _ _ (.int .i64 0) (.slice none 0 0) R0 R1
    (try simp only [Exit.inBlock, Exit.then])
    refine bodyPost_ret (by simp [results, Tryz.results12, go_sem, st.1, st.2]; try rfl) rfl ?_
    exact TurnPost.err (by decide) rfl (Ok.set (Ok.set ok2 (by simp; omega) _) (by simp; omega) _)
  · rw [h1]
    rw [h2] at hri
    by_cases h5 : 1 ≤ g
    · have g1 : decide (g < 1) = false := decide_eq_false (by omega)
      have g2 : decide (4 < g) = true := decide_eq_true (by omega)
      go_wp2_with fail
      refine (hri _).mono ?_
      rintro _ w2 ⟨rfl, o2⟩
      have F0 := (Below.frozen o2 (World.block_lt_of_cell? _ _ R0)).trans F0
      have F1 := (Below.frozen o2 (World.block_lt_of_cell? _ _ R1)).trans F1
      have B0 := Ok.cell o2 B0
      have B1 := Ok.cell o2 B1
      have I0 := Ok.cell o2 I0
      have I1 := Ok.cell o2 I1
      have R0 := Ok.cell o2 R0
      have R1 := Ok.cell o2 R1
      have ok2 : Ok w w2 := Ok.call ok1 o2
      clear o2 ok1
      go_wp2
      have st := store2 w2 (w.heap.size + 1 + 1) _ _ (.int .i64 0) (.slice none 0 0) R0 R1
      (try simp only [Exit.inBlock, Exit.then])
      refine bodyPost_ret (by simp [results, Tryz.results12, go_sem, st.1, st.2]; try rfl) rfl ?_
      exact TurnPost.err (by decide) rfl (Ok.set (Ok.set ok2 (by simp; omega) _) (by simp; omega) _)
    · have g1 : decide (g < 1) = true := decide_eq_true (by omega)
      go_wp2_with fail
      refine (hri _).mono ?_
      rintro _ w2 ⟨rfl, o2⟩
      have F0 := (Below.frozen o2 (World.block_lt_of_cell? _ _ R0)).trans F0
      have F1 := (Below.frozen o2 (World.block_lt_of_cell? _ _ R1)).trans F1
      have B0 := Ok.cell o2 B0
      have B1 := Ok.cell o2 B1
      have I0 := Ok.cell o2 I0
      have I1 := Ok.cell o2 I1
      have R0 := Ok.cell o2 R0
      have R1 := Ok.cell o2 R1
      have ok2 : Ok w w2 := Ok.call ok1 o2
      clear o2 ok1
      go_wp2
      have st := store2 w2 (w.heap.size + 1 + 1) _ _ (.int .i64 0) (.slice none 0 0) R0 R1
      (try simp only [Exit.inBlock, Exit.then])
      refine bodyPost_ret (by simp [results, Tryz.results12, go_sem, st.1, st.2]; try rfl) rfl ?_
      exact TurnPost.err (by decide) rfl (Ok.set (Ok.set ok2 (by simp; omega) _) (by simp; omega) _)
  · rw [h1]
    rw [h2] at hri
    rw [h4] at HIN
    unfold shareV shV at HIN
    simp only [Option.getD_none, Option.isSome_none, sh0, allS] at HIN
    have g1 : decide (g < 1) = false := decide_eq_false (by omega)
    have g2 : decide (4 < g) = false := decide_eq_false (by omega)
    go_wp2_with fail
    refine (hri _).mono ?_
    rintro _ w2 ⟨rfl, o2⟩
    have F0 := (Below.frozen o2 (World.block_lt_of_cell? _ _ R0)).trans F0
    have F1 := (Below.frozen o2 (World.block_lt_of_cell? _ _ R1)).trans F1
    have B0 := Ok.cell o2 B0
    have B1 := Ok.cell o2 B1
    have I0 := Ok.cell o2 I0
    have I1 := Ok.cell o2 I1
    have R0 := Ok.cell o2 R0
    have R1 := Ok.cell o2 R1
    have ok2 : Ok w w2 := Ok.call ok1 o2
    clear o2 ok1
    go_wp2_with fail
    refine (HIN.out _ (HI.out.ok ok2)).mono ?_
    rintro _ w3 ⟨rfl, o3⟩
    have F0 := (Below.frozen o3 (World.block_lt_of_cell? _ _ R0)).trans F0
    have F1 := (Below.frozen o3 (World.block_lt_of_cell? _ _ R1)).trans F1
    have B0 := Ok.cell o3 B0
    have B1 := Ok.cell o3 B1
    have I0 := Ok.cell o3 I0
    have I1 := Ok.cell o3 I1
    have R0 := Ok.cell o3 R0
    have R1 := Ok.cell o3 R1
    have ok3 : Ok w w3 := Ok.call ok2 o3
    clear o3 ok2
    have b2 : w.heap.size + 1 + 1 < w3.heap.size := World.block_lt_of_cell? _ _ R0
    have nb : ¬ w.heap.size + 1 + 1 = w3.heap.size := by omega
    go_wp2
    have st := store2 _ (w.heap.size + 1 + 1) _ _ (.int .i64 0) (.slice none 0 0) R0 R1
    have s0 := Ok.cell (Ok.alloc (Ok.refl _) (.cells #[.string ⟨#[]⟩, .string ⟨#[]⟩, .int .i64 0, .int .i64 0] 35)) st.1
    have s1 := Ok.cell (Ok.alloc (Ok.refl _) (.cells #[.string ⟨#[]⟩, .string ⟨#[]⟩, .int .i64 0, .int .i64 0] 35)) st.2
    (try simp only [Exit.inBlock, Exit.then])
    refine bodyPost_ret (by simp [results, Tryz.results12, go_sem, s0, s1]; try rfl) rfl ?_
    exact TurnPost.err (by decide) rfl (Ok.alloc (Ok.set (Ok.set ok3 (by simp; omega) _) (by simp; omega) _) _)
  · rw [h1]
    rw [h2] at hri
    rw [h4] at HIN
    obtain ⟨hep1, hep2, hn40⟩ := hep h1
    clear hep
    have HSTEP := Lib.hid (HSTEP.out x)
    have HFL := Lib.hid (HFL.out x)
    have HF3 := Lib.hid (HF3.out x)
    have HALL := Lib.hid (HALL.out x)
    have hrest' := hrest
    generalize stepM x ⟨il, ih⟩ g (ep + 1) = f at HSTEP HFL HF3 HALL hrest hrest'
    obtain ⟨⟨xl, xh⟩, xg, xe⟩ := x
    unfold shareV shV at HIN
    simp only [Option.getD_some, Option.isSome_some] at HIN hrest
    have g1 : decide (g < 1) = false := decide_eq_false (by omega)
    have g2 : decide (4 < g) = false := decide_eq_false (by omega)
    go_wp2_with fail
    refine (hri _).mono ?_
    rintro _ w2 ⟨rfl, o2⟩
    have F0 := (Below.frozen o2 (World.block_lt_of_cell? _ _ R0)).trans F0
    have F1 := (Below.frozen o2 (World.block_lt_of_cell? _ _ R1)).trans F1
    have B0 := Ok.cell o2 B0
    have B1 := Ok.cell o2 B1
    have I0 := Ok.cell o2 I0
    have I1 := Ok.cell o2 I1
    have R0 := Ok.cell o2 R0
    have R1 := Ok.cell o2 R1
    have ok2 : Ok w w2 := Ok.call ok1 o2
    clear o2 ok1
    go_wp2_with fail
    refine (HIN.out _ (HI.out.ok ok2)).mono ?_
    rintro _ w3 ⟨rfl, o3⟩
    have F0 := (Below.frozen o3 (World.block_lt_of_cell? _ _ R0)).trans F0
    have F1 := (Below.frozen o3 (World.block_lt_of_cell? _ _ R1)).trans F1
    have B0 := Ok.cell o3 B0
    have B1 := Ok.cell o3 B1
    have I0 := Ok.cell o3 I0
    have I1 := Ok.cell o3 I1
    have R0 := Ok.cell o3 R0
    have R1 := Ok.cell o3 R1
    have ok3 : Ok w w3 := Ok.call ok2 o3
    clear o3 ok2
    clear h1 h2 h3 h3' h4 hrest'
    go_upto_region 6 with fail
    generalize hW4 : w3.alloc (.cells #[.string xl, .string xh, .int .i64 xg, .int .i64 xe] 35) = w4
    obtain ⟨px, hpx⟩ : ∃ p, w3.heap.size = p := ⟨_, rfl⟩
    have o4 : Ok w3 w4 := by subst hW4; exact Ok.alloc (Ok.refl _) _
    have X0 : w4.cell? ⟨px, 0, none⟩ = some (.string xl) := by subst hW4; subst hpx; go_cell
    have X1 : w4.cell? ⟨px, 1, none⟩ = some (.string xh) := by subst hW4; subst hpx; go_cell
    have X2 : w4.cell? ⟨px, 2, none⟩ = some (.int .i64 xg) := by subst hW4; subst hpx; go_cell
    have X3 : w4.cell? ⟨px, 3, none⟩ = some (.int .i64 xe) := by subst hW4; subst hpx; go_cell
    rw [hpx]
    clear hW4 hpx
    have F0 := (Below.frozen o4 (World.block_lt_of_cell? _ _ R0)).trans F0
    have F1 := (Below.frozen o4 (World.block_lt_of_cell? _ _ R1)).trans F1
    have B0 := Ok.cell o4 B0
    have B1 := Ok.cell o4 B1
    have I0 := Ok.cell o4 I0
    have I1 := Ok.cell o4 I1
    have R0 := Ok.cell o4 R0
    have R1 := Ok.cell o4 R1
    have ok4 : Ok w w4 := Ok.call ok3 o4
    clear o4 ok3
    have b2 : w.heap.size + 1 + 1 < w4.heap.size := World.block_lt_of_cell? _ _ R0
    have bx : px < w4.heap.size := World.block_lt_of_cell? _ _ X0
    rcases hrest with ⟨h5, rfl⟩ | hrest
    · have d6 : (xg == g) = true := beq_iff_eq.2 h5
      clear h5
      go_wp2
      have st := store2 w4 (w.heap.size + 1 + 1) _ _ (.int .i64 0) (.slice none 0 0) R0 R1
      (try simp only [Exit.inBlock, Exit.then])
      refine bodyPost_ret (by simp [results, Tryz.results12, go_sem, st.1, st.2]; try rfl) rfl ?_
      exact TurnPost.err (by decide) rfl (Ok.set (Ok.set ok4 (by simp; omega) _) (by simp; omega) _)
    · have h5 : xg ≠ g := by rcases hrest with h | h <;> exact h.1
      have d6 : (xg == g) = false := beq_eq_false_iff_ne.2 h5
      have HREST := Lib.hid hrest
      clear hrest h5
      have sw : IntKind.i64.wrap (ep + 1) = ep + 1 := by simp only [IntKind.wrap_i64]; omega
      go_upto_region 9 with fail
      generalize hW5 : w4.alloc (.cells #[.int .i64 (ep + 1), .slice none 0 0] 24) = w5
      obtain ⟨po, hpo⟩ : ∃ p, w4.heap.size = p := ⟨_, rfl⟩
      have o5 : Ok w4 w5 := by subst hW5; exact Ok.alloc (Ok.refl _) _
      have O0 : w5.cell? ⟨po, 0, none⟩ = some (.int .i64 (ep + 1)) := by subst hW5; subst hpo; go_cell
      have O1 : w5.cell? ⟨po, 1, none⟩ = some (.slice none 0 0) := by subst hW5; subst hpo; go_cell
      have FO : w5.frozen? ⟨po, 1, none⟩ = false := by subst hW5; subst hpo; go_cell
      have hbp : w.heap.size + 1 + 1 < po := by omega
      have hbx : px < po := by omega
      have hp5 : po < w5.heap.size := World.block_lt_of_cell? _ _ O0
      have hp5l : w5.heap.size ≤ po + 1 := by subst hW5; subst hpo; simp
      rw [hpo]
      clear hW5 hpo b2 bx
      have F0 := (Below.frozen o5 (World.block_lt_of_cell? _ _ R0)).trans F0
      have F1 := (Below.frozen o5 (World.block_lt_of_cell? _ _ R1)).trans F1
      have B0 := Ok.cell o5 B0
      have B1 := Ok.cell o5 B1
      have I0 := Ok.cell o5 I0
      have I1 := Ok.cell o5 I1
      have R0 := Ok.cell o5 R0
      have R1 := Ok.cell o5 R1
      have X0 := Ok.cell o5 X0
      have X1 := Ok.cell o5 X1
      have X2 := Ok.cell o5 X2
      have X3 := Ok.cell o5 X3
      have ok5 : Ok w w5 := Ok.call ok4 o5
      have HI5 := Lib.hid (And.intro I0 I1)
      clear o5 ok4
      have HIW := Lib.hid (HI.out.ok ok5)
      have HO0 : Hid (OutAt w5 w5 w5 po (ep + 1) none ((xs.take 0).flatMap f)) := Lib.hid ⟨none, 0, 0, O0, O1, FO, OwnSh.nil _ _, Below.refl _ _, Mov.refl _ _ _, .inl rfl⟩
      clear O0 O1 FO
      go_wp2_with fail
      go_loopw [11] (fun l wr => ∃ k : Nat, k ≤ n ∧ l = .int .i64 k ∧ OutAt w5 w5 wr po (ep + 1) none ((xs.take k).flatMap f)) (fun l _ => n - (intOf l).toNat)
      case atStart => exact ⟨0, Nat.zero_le _, rfl, HO0.out⟩
      case round =>
        obtain ⟨k, hk, rfl, A', n', c', O0, O1, FO, hown, hbe, hmv, h7⟩ := hrel
        have HMV := Lib.hid hmv
        have H7 := Lib.hid h7
        clear hmv h7
        have HOW := Lib.hid hown
        have HBE := Lib.hid hbe
        have hpr : po < wr.heap.size := World.block_lt_of_cell? _ _ O0
        have hs5 : w5.heap.size ≤ wr.heap.size := hbe.size
        have okr : Ok w wr := Below.trans ok5 (hbe.mono (by omega))
        have hsz := okr.size
        have B0 := blo hbe B0 (by simp; omega)
        have B1 := blo hbe B1 (by simp; omega)
        have I0 := blo hbe I0 (by simp; omega)
        have I1 := blo hbe I1 (by simp; omega)
        have R0 := blo hbe R0 (by simp; omega)
        have R1 := blo hbe R1 (by simp; omega)
        have F0 := blof hbe F0 (by simp; omega)
        have F1 := blof hbe F1 (by simp; omega)
        have X0 := blo hbe X0 hbx
        have X1 := blo hbe X1 hbx
        have X2 := blo hbe X2 hbx
        have X3 := blo hbe X3 hbx
        clear hown hbe HO0
        by_cases hlt : k < n
        · have d4 : decide ((k : Int) < (n : Int)) = true := decide_eq_true (by omega)
          obtain ⟨b, off, rfl, C0, C1, C2, C3⟩ := HI.out.ok okr k (by rw [HN.out]; exact hlt)
          have HFK := Lib.hid (HFL.out k hlt)
          have HLE : Hid (((xs.take k).flatMap f).length ≤ 120) := Lib.hid (by
            have h : ((xs.take k).flatMap f).length ≤ 3 * (xs.take k).length := HF3.out k
            rw [List.length_take, HN.out] at h
            omega)
          have HSY := Lib.hid (HSTEP.out (at2 xs k))
          have HPY := Lib.hid (HPC.out (at2 xs k))
          obtain ⟨⟨⟨yl, yh⟩, yg, ye⟩, hy⟩ : ∃ y, at2 xs k = y := ⟨_, rfl⟩
          rw [hy] at C0 C1 C2 C3 HFK HSY HPY
          simp only at C0 C1 C2 C3
          clear hy
          generalize (xs.take k).flatMap f = acc at HOW HFK HLE
          have hi0 : (0 : Int) ≤ (k : Int) := Int.natCast_nonneg _
          have hi1 : (k : Int) < (n : Int) := by omega
          go_upto_region 13 with fail
          obtain ⟨py, hpy⟩ : ∃ p, wr.heap.size = p := ⟨_, rfl⟩
          generalize hW6 : wr.alloc (.cells #[.string yl, .string yh, .int .i64 yg, .int .i64 ye] 35) = w6
          have o6 : Ok wr w6 := by subst hW6; exact Ok.alloc (Ok.refl _) _
          have Y0 : w6.cell? ⟨py, 0, none⟩ = some (.string yl) := by subst hW6; subst hpy; go_cell
          have Y1 : w6.cell? ⟨py, 1, none⟩ = some (.string yh) := by subst hW6; subst hpy; go_cell
          have Y2 : w6.cell? ⟨py, 2, none⟩ = some (.int .i64 yg) := by subst hW6; subst hpy; go_cell
          have Y3 : w6.cell? ⟨py, 3, none⟩ = some (.int .i64 ye) := by subst hW6; subst hpy; go_cell
          rw [hpy]
          clear hW6
          have HOW6 := Lib.hid (HOW.out.ok o6)
          have HMV6 := Lib.hid (HMV.out.ok o6)
          have HBE6 := Lib.hid (Below.trans HBE.out (o6.mono (Nat.le_of_lt hpr)))
          have hpy5 : w5.heap.size ≤ py := by omega
          have FO := (Below.frozen o6 (World.block_lt_of_cell? _ _ O1)).trans FO
          have O0 := Ok.cell o6 O0
          have O1 := Ok.cell o6 O1
          have F0 := (Below.frozen o6 (World.block_lt_of_cell? _ _ R0)).trans F0
          have F1 := (Below.frozen o6 (World.block_lt_of_cell? _ _ R1)).trans F1
          have B0 := Ok.cell o6 B0
          have B1 := Ok.cell o6 B1
          have I0 := Ok.cell o6 I0
          have I1 := Ok.cell o6 I1
          have R0 := Ok.cell o6 R0
          have R1 := Ok.cell o6 R1
          have X0 := Ok.cell o6 X0
          have X1 := Ok.cell o6 X1
          have X2 := Ok.cell o6 X2
          have X3 := Ok.cell o6 X3
          have ok6 := Ok.call okr o6
          have h6s : w5.heap.size ≤ w6.heap.size := HBE6.out.size
          have hg6 : ∀ b, A'.map (·.block) = some b → b < py := by
            intro b e
            have := (World.ownsRow.lt HOW.out.1 b (by cases A' <;> simp_all [Value.ownBlock])).2
            omega
          have HG6 := Lib.hid hg6
          clear hg6 o6 okr HOW HBE C0 C1 C2 C3 hpr hs5 hsz hpy
          cases e1 : (yl.toList == xl.toList) with
          | false =>
            have HFY : Hid (f ⟨⟨yl, yh⟩, yg, ye⟩ = [⟨⟨yl, yh⟩, yg, ye⟩]) := Lib.hid (by rw [HSY.out]; simp [eqSh, eqS, e1])
            have HFN := HFK.out
            rw [HFY.out] at HFN
            have HFN := Lib.hid HFN
            have o7 : Ok w6 (w6.alloc (.cells #[.string yl, .string yh, .int .i64 yg, .int .i64 ye] 35)) := Ok.alloc (Ok.refl _) _
            have HOWA := Lib.hid (HOW6.out.alloc (.cells #[.string yl, .string yh, .int .i64 yg, .int .i64 ye] 35))
            have HNEW := Lib.hid (one_sh w6 ⟨⟨yl, yh⟩, yg, ye⟩)
            have HLE1 : Hid (acc.length + 1 ≤ 100000) := Lib.hid (by have := HLE.out; omega)
            have HX0 := Lib.hid (Ok.cell o7 O0)
            have HX1 := Lib.hid (Ok.cell o7 O1)
            have HXF := Lib.hid ((Below.frozen o7 (World.block_lt_of_cell? _ _ O1)).trans FO)
            have HKP := Lib.hid (fun w2 (hb : Below w5.heap.size (w6.alloc (.cells #[.string yl, .string yh, .int .i64 yg, .int .i64 ye] 35)) w2) => And.intro (blo hb HX1.out hp5) (blof hb HXF.out hp5))
            have HBX := Lib.hid (Below.trans HBE6.out (o7.mono (by have := World.block_lt_of_cell? _ _ O1; simp only at this; omega)))
            have HMX := Lib.hid (HMV6.out.ok o7)
            clear o7
            go_wp2_with (at_builtin; go_must (refine wpList_appSh2 rfl (.tmp 68) (.tmp 70) rfl w5.heap.size A' n' c' _ rfl HOWA.out ⟨w6.heap.size, 0, none⟩ 1 1 [⟨⟨yl, yh⟩, yg, ye⟩] rfl rfl HNEW.out HLE1.out (by simp; omega) ?_; intro A2 n2 c2 w2 hown2 hb2 hg2 ha2; obtain ⟨O1b, FOb⟩ := HKP.out w2 hb2; have HOW2 := Lib.hid hown2; have HB2 := Lib.hid hb2; have HG2 := Lib.hid hg2; have HA2 := Lib.hid ha2; clear hown2 hb2 hg2 ha2))
            refine ⟨⟨k + 1, hlt, rfl, ?_⟩, ?_⟩
            · rw [HFN.out]
              exact OutAt.put HX0.out HX1.out HXF.out HBX.out HMX.out H7.out hp5 HOW2.out HB2.out HG2.out HA2.out
            · show n - ((k : Int) + 1).toNat < n - (k : Int).toNat
              omega
          | true =>
            cases e2 : (yh.toList == xh.toList) with
            | false =>
              have HFY : Hid (f ⟨⟨yl, yh⟩, yg, ye⟩ = [⟨⟨yl, yh⟩, yg, ye⟩]) := Lib.hid (by rw [HSY.out]; simp [eqSh, eqS, e2])
              have HFN := HFK.out
              rw [HFY.out] at HFN
              have HFN := Lib.hid HFN
              have o7 : Ok w6 (w6.alloc (.cells #[.string yl, .string yh, .int .i64 yg, .int .i64 ye] 35)) := Ok.alloc (Ok.refl _) _
              have HOWA := Lib.hid (HOW6.out.alloc (.cells #[.string yl, .string yh, .int .i64 yg, .int .i64 ye] 35))
              have HNEW := Lib.hid (one_sh w6 ⟨⟨yl, yh⟩, yg, ye⟩)
              have HLE1 : Hid (acc.length + 1 ≤ 100000) := Lib.hid (by have := HLE.out; omega)
              have HX0 := Lib.hid (Ok.cell o7 O0)
              have HX1 := Lib.hid (Ok.cell o7 O1)
              have HXF := Lib.hid ((Below.frozen o7 (World.block_lt_of_cell? _ _ O1)).trans FO)
              have HKP := Lib.hid (fun w2 (hb : Below w5.heap.size (w6.alloc (.cells #[.string yl, .string yh, .int .i64 yg, .int .i64 ye] 35)) w2) => And.intro (blo hb HX1.out hp5) (blof hb HXF.out hp5))
              have HBX := Lib.hid (Below.trans HBE6.out (o7.mono (by have := World.block_lt_of_cell? _ _ O1; simp only at this; omega)))
              have HMX := Lib.hid (HMV6.out.ok o7)
              clear o7
              go_wp2_with (at_builtin; go_must (refine wpList_appSh2 rfl (.tmp 68) (.tmp 70) rfl w5.heap.size A' n' c' _ rfl HOWA.out ⟨w6.heap.size, 0, none⟩ 1 1 [⟨⟨yl, yh⟩, yg, ye⟩] rfl rfl HNEW.out HLE1.out (by simp; omega) ?_; intro A2 n2 c2 w2 hown2 hb2 hg2 ha2; obtain ⟨O1b, FOb⟩ := HKP.out w2 hb2; have HOW2 := Lib.hid hown2; have HB2 := Lib.hid hb2; have HG2 := Lib.hid hg2; have HA2 := Lib.hid ha2; clear hown2 hb2 hg2 ha2))
              refine ⟨⟨k + 1, hlt, rfl, ?_⟩, ?_⟩
              · rw [HFN.out]
                exact OutAt.put HX0.out HX1.out HXF.out HBX.out HMX.out H7.out hp5 HOW2.out HB2.out HG2.out HA2.out
              · show n - ((k : Int) + 1).toNat < n - (k : Int).toNat
                omega
            | true =>
              cases e3 : (yg == xg) with
              | false =>
                have e3' := beq_eq_false_iff_ne.1 e3
                have HFY : Hid (f ⟨⟨yl, yh⟩, yg, ye⟩ = [⟨⟨yl, yh⟩, yg, ye⟩]) := Lib.hid (by rw [HSY.out]; simp [eqSh, eqS, e3'])
                have HFN := HFK.out
                rw [HFY.out] at HFN
                have HFN := Lib.hid HFN
                have o7 : Ok w6 (w6.alloc (.cells #[.string yl, .string yh, .int .i64 yg, .int .i64 ye] 35)) := Ok.alloc (Ok.refl _) _
                have HOWA := Lib.hid (HOW6.out.alloc (.cells #[.string yl, .string yh, .int .i64 yg, .int .i64 ye] 35))
                have HNEW := Lib.hid (one_sh w6 ⟨⟨yl, yh⟩, yg, ye⟩)
                have HLE1 : Hid (acc.length + 1 ≤ 100000) := Lib.hid (by have := HLE.out; omega)
                have HX0 := Lib.hid (Ok.cell o7 O0)
                have HX1 := Lib.hid (Ok.cell o7 O1)
                have HXF := Lib.hid ((Below.frozen o7 (World.block_lt_of_cell? _ _ O1)).trans FO)
                have HKP := Lib.hid (fun w2 (hb : Below w5.heap.size (w6.alloc (.cells #[.string yl, .string yh, .int .i64 yg, .int .i64 ye] 35)) w2) => And.intro (blo hb HX1.out hp5) (blof hb HXF.out hp5))
                have HBX := Lib.hid (Below.trans HBE6.out (o7.mono (by have := World.block_lt_of_cell? _ _ O1; simp only at this; omega)))
                have HMX := Lib.hid (HMV6.out.ok o7)
                clear o7
                go_wp2_with (at_builtin; go_must (refine wpList_appSh2 rfl (.tmp 68) (.tmp 70) rfl w5.heap.size A' n' c' _ rfl HOWA.out ⟨w6.heap.size, 0, none⟩ 1 1 [⟨⟨yl, yh⟩, yg, ye⟩] rfl rfl HNEW.out HLE1.out (by simp; omega) ?_; intro A2 n2 c2 w2 hown2 hb2 hg2 ha2; obtain ⟨O1b, FOb⟩ := HKP.out w2 hb2; have HOW2 := Lib.hid hown2; have HB2 := Lib.hid hb2; have HG2 := Lib.hid hg2; have HA2 := Lib.hid ha2; clear hown2 hb2 hg2 ha2))
                refine ⟨⟨k + 1, hlt, rfl, ?_⟩, ?_⟩
                · rw [HFN.out]
                  exact OutAt.put HX0.out HX1.out HXF.out HBX.out HMX.out H7.out hp5 HOW2.out HB2.out HG2.out HA2.out
                · show n - ((k : Int) + 1).toNat < n - (k : Int).toNat
                  omega
              | true =>
                cases e4 : (ye == xe) with
                | false =>
                  have e4' := beq_eq_false_iff_ne.1 e4
                  have HFY : Hid (f ⟨⟨yl, yh⟩, yg, ye⟩ = [⟨⟨yl, yh⟩, yg, ye⟩]) := Lib.hid (by rw [HSY.out]; simp [eqSh, eqS, e4'])
                  have HFN := HFK.out
                  rw [HFY.out] at HFN
                  have HFN := Lib.hid HFN
                  have o7 : Ok w6 (w6.alloc (.cells #[.string yl, .string yh, .int .i64 yg, .int .i64 ye] 35)) := Ok.alloc (Ok.refl _) _
                  have HOWA := Lib.hid (HOW6.out.alloc (.cells #[.string yl, .string yh, .int .i64 yg, .int .i64 ye] 35))
                  have HNEW := Lib.hid (one_sh w6 ⟨⟨yl, yh⟩, yg, ye⟩)
                  have HLE1 : Hid (acc.length + 1 ≤ 100000) := Lib.hid (by have := HLE.out; omega)
                  have HX0 := Lib.hid (Ok.cell o7 O0)
                  have HX1 := Lib.hid (Ok.cell o7 O1)
                  have HXF := Lib.hid ((Below.frozen o7 (World.block_lt_of_cell? _ _ O1)).trans FO)
                  have HKP := Lib.hid (fun w2 (hb : Below w5.heap.size (w6.alloc (.cells #[.string yl, .string yh, .int .i64 yg, .int .i64 ye] 35)) w2) => And.intro (blo hb HX1.out hp5) (blof hb HXF.out hp5))
                  have HBX := Lib.hid (Below.trans HBE6.out (o7.mono (by have := World.block_lt_of_cell? _ _ O1; simp only at this; omega)))
                  have HMX := Lib.hid (HMV6.out.ok o7)
                  clear o7
                  go_wp2_with (at_builtin; go_must (refine wpList_appSh2 rfl (.tmp 68) (.tmp 70) rfl w5.heap.size A' n' c' _ rfl HOWA.out ⟨w6.heap.size, 0, none⟩ 1 1 [⟨⟨yl, yh⟩, yg, ye⟩] rfl rfl HNEW.out HLE1.out (by simp; omega) ?_; intro A2 n2 c2 w2 hown2 hb2 hg2 ha2; obtain ⟨O1b, FOb⟩ := HKP.out w2 hb2; have HOW2 := Lib.hid hown2; have HB2 := Lib.hid hb2; have HG2 := Lib.hid hg2; have HA2 := Lib.hid ha2; clear hown2 hb2 hg2 ha2))
                  refine ⟨⟨k + 1, hlt, rfl, ?_⟩, ?_⟩
                  · rw [HFN.out]
                    exact OutAt.put HX0.out HX1.out HXF.out HBX.out HMX.out H7.out hp5 HOW2.out HB2.out HG2.out HA2.out
                  · show n - ((k : Int) + 1).toNat < n - (k : Int).toNat
                    omega
                | true =>
                  have e3' := beq_iff_eq.1 e3
                  have e4' := beq_iff_eq.1 e4
                  have HFY : Hid (f ⟨⟨yl, yh⟩, yg, ye⟩ = (rcutM ⟨yl, yh⟩ ats).map (pieceM ⟨⟨yl, yh⟩, yg, ye⟩ ⟨il, ih⟩ g (ep + 1))) := Lib.hid (by rw [HSY.out]; simp [eqSh, eqS, e1, e2, e3', e4'])
                  have HFN := HFK.out
                  rw [HFY.out] at HFN
                  have HFN := Lib.hid HFN
                  clear HFY HFK HSY HSTEP
                  generalize pieceM ⟨⟨yl, yh⟩, yg, ye⟩ ⟨il, ih⟩ g (ep + 1) = pf at HFN HPY
                  clear e3 e4
                  go_upto_if 75 with fail
                  clear e1 e2 e3' e4'
                  have HNIL : Hid (OwnT w6 w6.heap.size (.slice none 0 0) []) := Lib.hid (World.ownsRow_nil _ _ _ _)
                  go_cut [13] from 52 to 124 (fun v wx => AtsIn w6 v (if noB il = true then [] else [il]) wx)
                  case first =>
                    have q := isNo il
                    cases hq : (ByteArray.toList il).isEmpty with
                    | true =>
                      rw [hq] at q
                      have HE : Hid ((if noB il = true then ([] : List Str) else [il]) = []) := Lib.hid (by rw [← q]; rfl)
                      clear q hq
                      go_wp2
                      go_meet
                      exact ⟨by rw [HE.out]; exact HNIL.out, .inl rfl, Ok.refl _⟩
                    | false =>
                      rw [hq] at q
                      have HE : Hid ((if noB il = true then ([] : List Str) else [il]) = [il]) := Lib.hid (by rw [← q]; rfl)
                      clear q hq
                      have HNL := Lib.hid (HNIL.out.alloc (.cells #[.string il] 9))
                      have HN1 := Lib.hid (one_new w6 il)
                      go_wp2_with (at_builtin; go_must (refine wpList_appT rfl (.tmp 76) (.tmp 79) rfl w6.heap.size _ [] [il] _ (w6.heap.size + 1) rfl rfl HNL.out HN1.out (by simp) (by simp) ?_; intro A7 n7 c7 w7 hown7 hb7; have HOW7 := Lib.hid hown7; have HB7 : Hid (Ok w6 w7) := Lib.hid (Below.trans (Ok.alloc (Ok.refl w6) (.cells #[.string il] 9)) hb7); clear hown7 hb7))
                      go_meet
                      exact ⟨by rw [HE.out]; exact HOW7.out, .inr (by rw [HE.out]; simp), HB7.out⟩
                  case rest =>
                    obtain ⟨hT7, hv7, o7⟩ := hcut
                    have HT7 := Lib.hid hT7
                    have HV7 := Lib.hid hv7
                    have HO7 := Lib.hid o7
                    have I1 := Ok.cell o7 I1
                    have hs7 := o7.size
                    have HLA : Hid ((if noB il = true then ([] : List Str) else [il]).length ≤ 100) := Lib.hid (by split <;> simp)
                    obtain ⟨v7, rfl⟩ : ∃ v, v = wc := ⟨_, rfl⟩
                    clear hT7 hv7 o7 HNIL
                    go_upto_if 83 with fail
                    go_cut [13] from 52 to 124 (fun v wx => AtsIn w6 v ats wx)
                    case first =>
                      have q := isNo ih
                      cases hq : (ByteArray.toList ih).isEmpty with
                      | true =>
                        rw [hq] at q
                        have HE : Hid (ats = (if noB il = true then ([] : List Str) else [il])) := Lib.hid (by rw [HAT.out, ← q]; simp)
                        clear q hq
                        go_wp2
                        go_meet
                        exact ⟨by rw [HE.out]; exact HT7.out, by rw [HE.out]; exact HV7.out, HO7.out⟩
                      | false =>
                        rw [hq] at q
                        have HE : Hid (ats = (if noB il = true then ([] : List Str) else [il]) ++ [ih]) := Lib.hid (by rw [HAT.out, ← q]; simp)
                        clear q hq
                        have HNL := Lib.hid (HT7.out.alloc (.cells #[.string ih] 9))
                        have HN1 := Lib.hid (one_new v7 ih)
                        go_wp2_with (at_builtin; go_must (refine wpList_appT rfl (.tmp 84) (.tmp 87) rfl w6.heap.size _ _ [ih] _ (v7.heap.size + 1) rfl rfl HNL.out HN1.out HLA.out (by simp; omega) ?_; intro A8 n8 c8 w8 hown8 hb8; have HOW8 := Lib.hid hown8; have HB8 : Hid (Ok w6 w8) := Lib.hid (Below.trans (Ok.alloc HO7.out (.cells #[.string ih] 9)) hb8); clear hown8 hb8))
                        go_meet
                        exact ⟨by rw [HE.out]; exact HOW8.out, .inr (by rw [HE.out]; simp), HB8.out⟩
                    case rest =>
                      obtain ⟨hT8, hv8, o8⟩ := hcut
                      have hal : ats.length ≤ 60 := by rw [HAT.out]; split <;> split <;> simp
                      have HST := Lib.hid (hT8.strsN hal hv8)
                      have HRC := Lib.hid (fun v w' h => rcut_w ⟨yl, yh⟩ v ats w' hal h)
                      have hlr : (rcutM ⟨yl, yh⟩ ats).length ≤ 61 := by
                        unfold rcutM
                        split
                        · have h1 := rfold_len ats [⟨yl, yh⟩]
                          simp only [List.length_cons, List.length_nil] at h1
                          omega
                        · simp
                      generalize rcutM ⟨yl, yh⟩ ats = ps at HFN HRC hlr
                      have HLR := Lib.hid hlr
                      unfold spV at HRC
                      simp only at HRC
                      have Y0 := Ok.cell o8 Y0
                      have Y1 := Ok.cell o8 Y1
                      have Y2 := Ok.cell o8 Y2
                      have Y3 := Ok.cell o8 Y3
                      have FO := (Below.frozen o8 (World.block_lt_of_cell? _ _ O1)).trans FO
                      have O0 := Ok.cell o8 O0
                      have O1 := Ok.cell o8 O1
                      have HOW8 := Lib.hid (HOW6.out.ok o8)
                      have hp6 : po < w6.heap.size := by omega
                      have HBE8 := Lib.hid (Below.trans HBE6.out (o8.mono (Nat.le_of_lt hp6)))
                      have HPY8 : Hid (py < wc.heap.size) := Lib.hid (World.block_lt_of_cell? _ _ Y0)
                      clear hT8 hv8 o8 hal hlr HT7 HV7 HO7 I1 hs7 HLA HAT
                      go_wp2_with fail
                      refine (HRC.out _ _ HST.out).mono ?_
                      rintro _ w9 ⟨AL, cL, rfl, hownL, o9⟩
                      have Y2 := Ok.cell o9 Y2
                      have Y3 := Ok.cell o9 Y3
                      have FO := (Below.frozen o9 (World.block_lt_of_cell? _ _ O1)).trans FO
                      have hp8 : po < wc.heap.size := World.block_lt_of_cell? _ _ O1
                      have O0 := Ok.cell o9 O0
                      have O1 := Ok.cell o9 O1
                      have HO9 : Hid (OutAt w5 w9 w9 po (ep + 1) (A'.map (·.block)) (acc ++ (ps.take 0).map pf)) := Lib.hid ⟨A', n', c', O0, O1, FO, by simpa using HOW8.out.ok o9, Below.trans HBE8.out (o9.mono (Nat.le_of_lt hp8)), Mov.refl _ _ _, .inl rfl⟩
                      have HL : Hid (∀ j, j < ps.length → ∃ gl, AL = some ⟨gl, 0, none⟩ ∧ py < gl ∧ w9.cell? ⟨gl, j * 2, none⟩ = some (.string (at1 ps j).lo) ∧ w9.cell? ⟨gl, j * 2 + 1, none⟩ = some (.string (at1 ps j).hi)) := Lib.hid fun j hj => by
                        obtain ⟨b, o, e, c0, c1⟩ := hownL.at j hj
                        obtain ⟨h1, _⟩ := hownL
                        rcases h1.2 with ⟨_, h5⟩ | ⟨g1, cap, cur, e2, hb, _⟩
                        · omega
                        · simp only [Value.slice.injEq] at e2
                          rw [e2.1] at e
                          simp only [Option.some.injEq, Addr.mk.injEq, and_true] at e
                          obtain ⟨rfl, rfl⟩ := e
                          rw [Nat.zero_add] at c0 c1
                          exact ⟨g1, e2.1, by have := HPY8.out; omega, c0, c1⟩
                      clear hownL o9 HST HRC HOW8 HBE8 HOW6 HBE6 HMV6 O0 O1 FO Y0 Y1 B0 B1 I0 R0 R1 F0 F1 X0 X1 X2 X3 HMV H7
                      obtain ⟨np, hnp⟩ : ∃ np, ps.length = np := ⟨_, rfl⟩
                      rw [hnp] at HL HLR ⊢
                      have HNP := Lib.hid hnp
                      clear hnp
                      have hnp61 : np ≤ 61 := HLR.out
                      go_wp2_with fail
                      go_loopw [15] (fun l wx => ∃ q : Nat, q ≤ np ∧ l = .int .i64 q ∧ OutAt w5 w9 wx po (ep + 1) (A'.map (·.block)) (acc ++ (ps.take q).map pf)) (fun l _ => np - (intOf l).toNat)
                      case atStart => exact ⟨0, Nat.zero_le _, rfl, HO9.out⟩
                      case round =>
                        obtain ⟨q, hq, rfl, A2, n2, c2, O0, O1, FO, hown, hbe, hmv, h7⟩ := hrel
                        by_cases hqn : q < np
                        · have d5 : decide ((q : Int) < (np : Int)) = true := decide_eq_true (by omega)
                          obtain ⟨gl, rfl, hgl, L0, L1⟩ := HL.out q hqn
                          have hga : A'.map (·.block) ≠ some py := fun e => by have := HG6.out py e; omega
                          have hgb : A'.map (·.block) ≠ some gl := fun e => by have := HG6.out gl e; omega
                          have Y2 := hmv.cell Y2 (by omega) hga
                          have Y3 := hmv.cell Y3 (by omega) hga
                          have L0 := hmv.cell L0 (by omega) hgb
                          have L1 := hmv.cell L1 (by omega) hgb
                          obtain ⟨I0, I1⟩ := HI5.out
                          have I0 := blo hbe I0 (by simp; omega)
                          have I1 := blo hbe I1 (by simp; omega)
                          have HTK : Hid ((ps.take (q + 1)).map pf = (ps.take q).map pf ++ [pf (at1 ps q)]) := Lib.hid (by
                            rw [take_at1 ps q (by rw [HNP.out]; exact hqn), List.map_append]; rfl)
                          have HLQ : Hid ((acc ++ (ps.take q).map pf).length + 1 ≤ 100000) := Lib.hid (by rw [List.length_append, List.length_map, List.length_take]; have := HLE.out; omega)
                          have HPQ := Lib.hid (HPY.out (at1 ps q))
                          generalize (ps.take q).map pf = acq at hown HLQ HTK
                          generalize at1 ps q = z at L0 L1 HTK HPQ
                          obtain ⟨zl, zh⟩ := z
                          simp only at L0 L1 HPQ
                          have HOWN := Lib.hid hown
                          have HBE := Lib.hid hbe
                          have HMV := Lib.hid hmv
                          have H7 := Lib.hid h7
                          clear hown hbe hmv h7 hga hgb
                          have hi0 : (0 : Int) ≤ (q : Int) := Int.natCast_nonneg _
                          have hi1 : (q : Int) < (np : Int) := by omega
                          go_wp2_with fail
                          go_region_held3 (fun w' => w'.cell? ⟨gl, q * 2, none⟩ = some (.string zl) ∧ w'.cell? ⟨gl, q * 2 + 1, none⟩ = some (.string zh) ∧ w'.cell? ⟨py, 2, none⟩ = some (.int .i64 yg) ∧ w'.cell? ⟨py, 3, none⟩ = some (.int .i64 ye)) (go_keep) (fail)
                          go_wp2_with fail
                          generalize hWz : (wr.alloc (.cells #[.string zl, .string zh, .int .i64 yg, .int .i64 ye] 35)).drew = wz
                          obtain ⟨pz, hpz⟩ : ∃ p, wr.heap.size = p := ⟨_, rfl⟩
                          have oz : Ok wr wz := by subst hWz; exact Ok.drew (Ok.alloc (Ok.refl _) _)
                          have Z0 : wz.cell? ⟨pz, 0, none⟩ = some (.string zl) := by subst hWz; subst hpz; go_cell
                          have Z1 : wz.cell? ⟨pz, 1, none⟩ = some (.string zh) := by subst hWz; subst hpz; go_cell
                          have Z2 : wz.cell? ⟨pz, 2, none⟩ = some (.int .i64 yg) := by subst hWz; subst hpz; go_cell
                          have Z3 : wz.cell? ⟨pz, 3, none⟩ = some (.int .i64 ye) := by subst hWz; subst hpz; go_cell
                          have FZ2 : wz.frozen? ⟨pz, 2, none⟩ = false := by subst hWz; subst hpz; go_cell
                          have FZ3 : wz.frozen? ⟨pz, 3, none⟩ = false := by subst hWz; subst hpz; go_cell
                          have hpow : po < wr.heap.size := World.block_lt_of_cell? _ _ O0
                          have hpoz : po ≠ pz := by omega
                          have hpoz' : po < pz := by omega
                          have hpz9 : w9.heap.size ≤ pz := by have := HMV.out.1; omega
                          have hga2 : A2.map (·.block) ≠ some pz := fun e => by
                            have := (World.ownsRow.lt HOWN.out.1 pz (by cases A2 <;> simp_all [Value.ownBlock])).2
                            omega
                          have HGA2 := Lib.hid hga2
                          clear hga2
                          rw [hpz]
                          clear hWz hpz
                          have FO := (Below.frozen oz (World.block_lt_of_cell? _ _ O1)).trans FO
                          have O0 := Ok.cell oz O0
                          have O1 := Ok.cell oz O1
                          have L0 := Ok.cell oz L0
                          have L1 := Ok.cell oz L1
                          have I0 := Ok.cell oz I0
                          have I1 := Ok.cell oz I1
                          have HOWZ := Lib.hid (HOWN.out.ok oz)
                          have HBEZ := Lib.hid (Below.trans HBE.out (oz.mono (Nat.le_of_lt hpow)))
                          have HMVZ := Lib.hid (HMV.out.ok oz)
                          clear oz HOWN HBE HMV Y2 Y3
                          cases e5 : (zl.toList == il.toList) with
                          | true =>
                            cases e6 : (zh.toList == ih.toList) with
                            | true =>
                              have HPZ : Hid (pf ⟨zl, zh⟩ = ⟨⟨zl, zh⟩, g, ep + 1⟩) := Lib.hid (by rw [HPQ.out]; simp [eqS, e5, e6])
                              have kL0 := cell_regrown L0
                              have kL1 := cell_regrown L1
                              have kI0 := cell_regrown I0
                              have kI1 := cell_regrown I1
                              refine wp_region_quiet_below (by kernel_rfl) (by kernel_rfl) ?_
                              refine HeldU.out ?_
                              repeat (
                                refine hqU_step (fun K hK => ?_)
                                go_simp
                                refine hK _ ?_
                                clear hK K)
                              refine HeldU.mk (wpQuiet_nil ?_)
                              intro _ hw'
                              obtain ⟨⟨dq, osq⟩, hw''⟩ := hw'
                              subst hw''
                              have oq : Ok wz (Go.Sort.grow (redrawn wz dq) osq) := below_regrown wz dq osq
                              generalize Go.Sort.grow (redrawn wz dq) osq = wq at oq ⊢
                              clear kL0 kL1 kI0 kI1
                              have hpow : po < wz.heap.size := World.block_lt_of_cell? _ _ O0
                              have FO := (Below.frozen oq (World.block_lt_of_cell? _ _ O1)).trans FO
                              have FZ2 := (Below.frozen oq (World.block_lt_of_cell? _ _ Z2)).trans FZ2
                              have FZ3 := (Below.frozen oq (World.block_lt_of_cell? _ _ Z3)).trans FZ3
                              have Z0 := Ok.cell oq Z0
                              have Z1 := Ok.cell oq Z1
                              have Z2 := Ok.cell oq Z2
                              have Z3 := Ok.cell oq Z3
                              have O0 := Ok.cell oq O0
                              have O1 := Ok.cell oq O1
                              have L0 := Ok.cell oq L0
                              have L1 := Ok.cell oq L1
                              have I0 := Ok.cell oq I0
                              have I1 := Ok.cell oq I1
                              have HOWQ := Lib.hid (HOWZ.out.ok oq)
                              have HBEQ := Lib.hid (Below.trans HBEZ.out (oq.mono (Nat.le_of_lt hpow)))
                              have HMVQ := Lib.hid (HMVZ.out.ok oq)
                              clear oq HOWZ HBEZ HMVZ L0 L1 I0 I1
                              go_upto_region 28 with fail
                              generalize hws : (wq.setCell ⟨pz, 2, none⟩ (.int .i64 g)).setCell ⟨pz, 3, none⟩ (.int .i64 (ep + 1)) = ws
                              have S0 : ∀ o v, wq.cell? ⟨po, o, none⟩ = some v → ws.cell? ⟨po, o, none⟩ = some v := by
                                intro o v h; subst hws
                                exact (World.cell?_setCell_other _ _ _ _ (by first | (simp; done) | (simp; omega))).trans ((World.cell?_setCell_other _ _ _ _ (by first | (simp; done) | (simp; omega))).trans h)
                              have O0 := S0 _ _ O0
                              have O1 := S0 _ _ O1
                              have FO : ws.frozen? ⟨po, 1, none⟩ = false := by subst hws; simp only [World.frozen?_setCell]; exact FO
                              have HOWS : Hid (OwnSh ws w5.heap.size A2 n2 c2 (acc ++ acq)) := Lib.hid (by subst hws; exact (HOWQ.out.set2 HGA2.out _).set2 HGA2.out _)
                              have HBES : Hid (Below po w5 ws) := Lib.hid (by subst hws; exact Below.setCell (Below.setCell HBEQ.out (Nat.le_of_lt hpoz') _) (Nat.le_of_lt hpoz') _)
                              have HMVS : Hid (Mov w9 ws po (A'.map (·.block))) := Lib.hid (by subst hws; exact (HMVQ.out.set2 hpz9 _ _).set2 hpz9 _ _)
                              have Z0 : ws.cell? ⟨pz, 0, none⟩ = some (.string zl) := by subst hws; exact (World.cell?_setCell_other _ _ _ _ (by simp)).trans ((World.cell?_setCell_other _ _ _ _ (by simp)).trans Z0)
                              have Z1 : ws.cell? ⟨pz, 1, none⟩ = some (.string zh) := by subst hws; exact (World.cell?_setCell_other _ _ _ _ (by simp)).trans ((World.cell?_setCell_other _ _ _ _ (by simp)).trans Z1)
                              have Z3 : ws.cell? ⟨pz, 3, none⟩ = some (.int .i64 (ep + 1)) := by subst hws; exact World.cell?_setCell_same _ _ _ ((World.cell?_setCell_other _ _ _ _ (by simp)).trans Z3)
                              have Z2 : ws.cell? ⟨pz, 2, none⟩ = some (.int .i64 g) := by subst hws; exact (World.cell?_setCell_other _ _ _ _ (by simp)).trans (World.cell?_setCell_same _ _ _ Z2)
                              clear hws S0 HOWQ HBEQ HMVQ FZ2 FZ3
                              have o7 : Ok ws (ws.alloc (.cells #[.string zl, .string zh, .int .i64 g, .int .i64 (ep + 1)] 35)) := Ok.alloc (Ok.refl _) _
                              have HOWA := Lib.hid (HOWS.out.alloc (.cells #[.string zl, .string zh, .int .i64 g, .int .i64 (ep + 1)] 35))
                              have HNEW := Lib.hid (one_sh ws ⟨⟨zl, zh⟩, g, (ep + 1)⟩)
                              have HX0 := Lib.hid (Ok.cell o7 O0)
                              have HX1 := Lib.hid (Ok.cell o7 O1)
                              have HXF := Lib.hid ((Below.frozen o7 (World.block_lt_of_cell? _ _ O1)).trans FO)
                              have hpos : po < ws.heap.size := World.block_lt_of_cell? _ _ O1
                              have HKP := Lib.hid (fun w2 (hb : Below w5.heap.size (ws.alloc (.cells #[.string zl, .string zh, .int .i64 g, .int .i64 (ep + 1)] 35)) w2) => And.intro (blo hb HX1.out hp5) (blof hb HXF.out hp5))
                              have HBX := Lib.hid (Below.trans HBES.out (o7.mono (Nat.le_of_lt hpos)))
                              have HMX := Lib.hid (HMVS.out.ok o7)
                              have hs5s : w5.heap.size ≤ ws.heap.size := HBES.out.size
                              clear o7
                              go_wp2_with (at_builtin; go_must (refine wpList_appSh2 rfl (.tmp 120) (.tmp 122) rfl w5.heap.size A2 n2 c2 _ rfl HOWA.out ⟨ws.heap.size, 0, none⟩ 1 1 [⟨⟨zl, zh⟩, g, (ep + 1)⟩] rfl rfl HNEW.out HLQ.out (by simp; omega) ?_; intro A3 n3 c3 w10 hown3 hb3 hg3 ha3; obtain ⟨O1b, FOb⟩ := HKP.out w10 hb3; have HOW3 := Lib.hid hown3; have HB3 := Lib.hid hb3; have HG3 := Lib.hid hg3; have HA3 := Lib.hid ha3; clear hown3 hb3 hg3 ha3))
                              refine ⟨⟨q + 1, hqn, rfl, ?_⟩, ?_⟩
                              · rw [HTK.out, HPZ.out, ← List.append_assoc]
                                exact OutAt.put HX0.out HX1.out HXF.out HBX.out HMX.out H7.out hp5 HOW3.out HB3.out HG3.out HA3.out
                              · show np - ((q : Int) + 1).toNat < np - (q : Int).toNat
                                omega
                            | false =>
                              have HPZ : Hid (pf ⟨zl, zh⟩ = ⟨⟨zl, zh⟩, yg, ye⟩) := Lib.hid (by rw [HPQ.out]; simp [eqS, e5, e6])
                              have kL0 := cell_regrown L0
                              have kL1 := cell_regrown L1
                              have kI0 := cell_regrown I0
                              have kI1 := cell_regrown I1
                              refine wp_region_quiet_below (by kernel_rfl) (by kernel_rfl) ?_
                              refine HeldU.out ?_
                              repeat (
                                refine hqU_step (fun K hK => ?_)
                                go_simp
                                refine hK _ ?_
                                clear hK K)
                              refine HeldU.mk (wpQuiet_nil ?_)
                              intro _ hw'
                              obtain ⟨⟨dq, osq⟩, hw''⟩ := hw'
                              subst hw''
                              have oq : Ok wz (Go.Sort.grow (redrawn wz dq) osq) := below_regrown wz dq osq
                              generalize Go.Sort.grow (redrawn wz dq) osq = wq at oq ⊢
                              clear kL0 kL1 kI0 kI1
                              have hpow : po < wz.heap.size := World.block_lt_of_cell? _ _ O0
                              have FO := (Below.frozen oq (World.block_lt_of_cell? _ _ O1)).trans FO
                              have FZ2 := (Below.frozen oq (World.block_lt_of_cell? _ _ Z2)).trans FZ2
                              have FZ3 := (Below.frozen oq (World.block_lt_of_cell? _ _ Z3)).trans FZ3
                              have Z0 := Ok.cell oq Z0
                              have Z1 := Ok.cell oq Z1
                              have Z2 := Ok.cell oq Z2
                              have Z3 := Ok.cell oq Z3
                              have O0 := Ok.cell oq O0
                              have O1 := Ok.cell oq O1
                              have L0 := Ok.cell oq L0
                              have L1 := Ok.cell oq L1
                              have I0 := Ok.cell oq I0
                              have I1 := Ok.cell oq I1
                              have HOWQ := Lib.hid (HOWZ.out.ok oq)
                              have HBEQ := Lib.hid (Below.trans HBEZ.out (oq.mono (Nat.le_of_lt hpow)))
                              have HMVQ := Lib.hid (HMVZ.out.ok oq)
                              clear oq HOWZ HBEZ HMVZ L0 L1 I0 I1
                              go_upto_region 28 with fail
                              obtain ⟨ws, hws⟩ : ∃ ws, ws = wq := ⟨_, rfl⟩
                              rw [← hws] at HOWQ HBEQ HMVQ O0 O1 FO Z0 Z1 Z2 Z3 ⊢
                              have HOWS := HOWQ
                              have HBES := HBEQ
                              have HMVS := HMVQ
                              clear HOWQ HBEQ HMVQ hws
                              have o7 : Ok ws (ws.alloc (.cells #[.string zl, .string zh, .int .i64 yg, .int .i64 ye] 35)) := Ok.alloc (Ok.refl _) _
                              have HOWA := Lib.hid (HOWS.out.alloc (.cells #[.string zl, .string zh, .int .i64 yg, .int .i64 ye] 35))
                              have HNEW := Lib.hid (one_sh ws ⟨⟨zl, zh⟩, yg, ye⟩)
                              have HX0 := Lib.hid (Ok.cell o7 O0)
                              have HX1 := Lib.hid (Ok.cell o7 O1)
                              have HXF := Lib.hid ((Below.frozen o7 (World.block_lt_of_cell? _ _ O1)).trans FO)
                              have hpos : po < ws.heap.size := World.block_lt_of_cell? _ _ O1
                              have HKP := Lib.hid (fun w2 (hb : Below w5.heap.size (ws.alloc (.cells #[.string zl, .string zh, .int .i64 yg, .int .i64 ye] 35)) w2) => And.intro (blo hb HX1.out hp5) (blof hb HXF.out hp5))
                              have HBX := Lib.hid (Below.trans HBES.out (o7.mono (Nat.le_of_lt hpos)))
                              have HMX := Lib.hid (HMVS.out.ok o7)
                              have hs5s : w5.heap.size ≤ ws.heap.size := HBES.out.size
                              clear o7
                              go_wp2_with (at_builtin; go_must (refine wpList_appSh2 rfl (.tmp 120) (.tmp 122) rfl w5.heap.size A2 n2 c2 _ rfl HOWA.out ⟨ws.heap.size, 0, none⟩ 1 1 [⟨⟨zl, zh⟩, yg, ye⟩] rfl rfl HNEW.out HLQ.out (by simp; omega) ?_; intro A3 n3 c3 w10 hown3 hb3 hg3 ha3; obtain ⟨O1b, FOb⟩ := HKP.out w10 hb3; have HOW3 := Lib.hid hown3; have HB3 := Lib.hid hb3; have HG3 := Lib.hid hg3; have HA3 := Lib.hid ha3; clear hown3 hb3 hg3 ha3))
                              refine ⟨⟨q + 1, hqn, rfl, ?_⟩, ?_⟩
                              · rw [HTK.out, HPZ.out, ← List.append_assoc]
                                exact OutAt.put HX0.out HX1.out HXF.out HBX.out HMX.out H7.out hp5 HOW3.out HB3.out HG3.out HA3.out
                              · show np - ((q : Int) + 1).toNat < np - (q : Int).toNat
                                omega
                          | false =>
                            have HPZ : Hid (pf ⟨zl, zh⟩ = ⟨⟨zl, zh⟩, yg, ye⟩) := Lib.hid (by rw [HPQ.out]; simp [eqS, e5])
                            have kL0 := cell_regrown L0
                            have kL1 := cell_regrown L1
                            have kI0 := cell_regrown I0
                            have kI1 := cell_regrown I1
                            refine wp_region_quiet_below (by kernel_rfl) (by kernel_rfl) ?_
                            refine HeldU.out ?_
                            repeat (
                              refine hqU_step (fun K hK => ?_)
                              go_simp
                              refine hK _ ?_
                              clear hK K)
                            refine HeldU.mk (wpQuiet_nil ?_)
                            intro _ hw'
                            obtain ⟨⟨dq, osq⟩, hw''⟩ := hw'
                            subst hw''
                            have oq : Ok wz (Go.Sort.grow (redrawn wz dq) osq) := below_regrown wz dq osq
                            generalize Go.Sort.grow (redrawn wz dq) osq = wq at oq ⊢
                            clear kL0 kL1 kI0 kI1
                            have hpow : po < wz.heap.size := World.block_lt_of_cell? _ _ O0
                            have FO := (Below.frozen oq (World.block_lt_of_cell? _ _ O1)).trans FO
                            have FZ2 := (Below.frozen oq (World.block_lt_of_cell? _ _ Z2)).trans FZ2
                            have FZ3 := (Below.frozen oq (World.block_lt_of_cell? _ _ Z3)).trans FZ3
                            have Z0 := Ok.cell oq Z0
                            have Z1 := Ok.cell oq Z1
                            have Z2 := Ok.cell oq Z2
                            have Z3 := Ok.cell oq Z3
                            have O0 := Ok.cell oq O0
                            have O1 := Ok.cell oq O1
                            have L0 := Ok.cell oq L0
                            have L1 := Ok.cell oq L1
                            have I0 := Ok.cell oq I0
                            have I1 := Ok.cell oq I1
                            have HOWQ := Lib.hid (HOWZ.out.ok oq)
                            have HBEQ := Lib.hid (Below.trans HBEZ.out (oq.mono (Nat.le_of_lt hpow)))
                            have HMVQ := Lib.hid (HMVZ.out.ok oq)
                            clear oq HOWZ HBEZ HMVZ L0 L1 I0 I1
                            go_upto_region 28 with fail
                            obtain ⟨ws, hws⟩ : ∃ ws, ws = wq := ⟨_, rfl⟩
                            rw [← hws] at HOWQ HBEQ HMVQ O0 O1 FO Z0 Z1 Z2 Z3 ⊢
                            have HOWS := HOWQ
                            have HBES := HBEQ
                            have HMVS := HMVQ
                            clear HOWQ HBEQ HMVQ hws
                            have o7 : Ok ws (ws.alloc (.cells #[.string zl, .string zh, .int .i64 yg, .int .i64 ye] 35)) := Ok.alloc (Ok.refl _) _
                            have HOWA := Lib.hid (HOWS.out.alloc (.cells #[.string zl, .string zh, .int .i64 yg, .int .i64 ye] 35))
                            have HNEW := Lib.hid (one_sh ws ⟨⟨zl, zh⟩, yg, ye⟩)
                            have HX0 := Lib.hid (Ok.cell o7 O0)
                            have HX1 := Lib.hid (Ok.cell o7 O1)
                            have HXF := Lib.hid ((Below.frozen o7 (World.block_lt_of_cell? _ _ O1)).trans FO)
                            have hpos : po < ws.heap.size := World.block_lt_of_cell? _ _ O1
                            have HKP := Lib.hid (fun w2 (hb : Below w5.heap.size (ws.alloc (.cells #[.string zl, .string zh, .int .i64 yg, .int .i64 ye] 35)) w2) => And.intro (blo hb HX1.out hp5) (blof hb HXF.out hp5))
                            have HBX := Lib.hid (Below.trans HBES.out (o7.mono (Nat.le_of_lt hpos)))
                            have HMX := Lib.hid (HMVS.out.ok o7)
                            have hs5s : w5.heap.size ≤ ws.heap.size := HBES.out.size
                            clear o7
                            go_wp2_with (at_builtin; go_must (refine wpList_appSh2 rfl (.tmp 120) (.tmp 122) rfl w5.heap.size A2 n2 c2 _ rfl HOWA.out ⟨ws.heap.size, 0, none⟩ 1 1 [⟨⟨zl, zh⟩, yg, ye⟩] rfl rfl HNEW.out HLQ.out (by simp; omega) ?_; intro A3 n3 c3 w10 hown3 hb3 hg3 ha3; obtain ⟨O1b, FOb⟩ := HKP.out w10 hb3; have HOW3 := Lib.hid hown3; have HB3 := Lib.hid hb3; have HG3 := Lib.hid hg3; have HA3 := Lib.hid ha3; clear hown3 hb3 hg3 ha3))
                            refine ⟨⟨q + 1, hqn, rfl, ?_⟩, ?_⟩
                            · rw [HTK.out, HPZ.out, ← List.append_assoc]
                              exact OutAt.put HX0.out HX1.out HXF.out HBX.out HMX.out H7.out hp5 HOW3.out HB3.out HG3.out HA3.out
                            · show np - ((q : Int) + 1).toNat < np - (q : Int).toNat
                              omega
                        · have d5 : decide ((q : Int) < (np : Int)) = false := decide_eq_false (by omega)
                          have HTA : Hid ((ps.take q).map pf = ps.map pf) := Lib.hid (by rw [List.take_of_length_le (by rw [HNP.out]; omega)])
                          rw [HTA.out] at hown
                          go_wp2
                          refine ⟨⟨k + 1, hlt, rfl, ?_⟩, ?_⟩
                          · rw [HFN.out]
                            refine ⟨A2, n2, c2, O0, O1, FO, hown, hbe, ⟨by have := hbe.size; omega, fun j hj h1 _ => hbe.block j (by omega)⟩, ?_⟩
                            cases A2 with
                            | none => exact .inl rfl
                            | some a2 => exact .inr ⟨a2.block, rfl, (World.ownsRow.lt hown.1 a2.block rfl).1⟩
                          · show n - ((k : Int) + 1).toNat < n - (k : Int).toNat
                            omega
        · have d4 : decide ((k : Int) < (n : Int)) = false := decide_eq_false (by omega)
          have hall := HALL.out k (by omega)
          rw [hall] at HOW
          have hnl : n' = (xs.flatMap f).length := HOW.out.2
          generalize xs.flatMap f = L at HOW HREST hnl
          clear hall
          have HNL := Lib.hid hnl
          have h6a : 40 < L.length → 40 < n' := fun h => by omega
          have h6b : L.length ≤ 40 → n' ≤ 40 := fun h => by omega
          have H6A := Lib.hid h6a
          have H6B := Lib.hid h6b
          clear hnl h6a h6b
          rcases HREST.out with ⟨_, h6, hR⟩ | ⟨_, h6, h8, hR⟩
          · have HR := Lib.hid hR
            clear hR
            by_cases h9 : ep = 1073741824
            · have d9 : (ep == 1073741824) = true := beq_iff_eq.2 h9
              have d9' : decide (ep = 1073741824) = true := decide_eq_true h9
              clear h9 h6
              go_wp2
              have st := store2 wr (w.heap.size + 1 + 1) _ _ (.int .i64 0) (.slice none 0 0) R0 R1
              (try simp only [Exit.inBlock, Exit.then])
              refine bodyPost_ret (by simp [results, Tryz.results12, go_sem, st.1, st.2]; try rfl) rfl ?_
              rw [HR.out]
              exact TurnPost.err (by decide) rfl (Ok.set (Ok.set okr (by simp; omega) _) (by simp; omega) _)
            · have d9 : (ep == 1073741824) = false := beq_eq_false_iff_ne.2 h9
              have d9' : decide (ep = 1073741824) = false := decide_eq_false h9
              have d8 : decide ((40 : Int) < (n' : Int)) = true := decide_eq_true (by rcases h6 with h | h; exact absurd h h9; have := H6A.out h; omega)
              clear h9 h6
              go_wp2
              have st := store2 wr (w.heap.size + 1 + 1) _ _ (.int .i64 0) (.slice none 0 0) R0 R1
              (try simp only [Exit.inBlock, Exit.then])
              refine bodyPost_ret (by simp [results, Tryz.results12, go_sem, st.1, st.2]; try rfl) rfl ?_
              rw [HR.out]
              exact TurnPost.err (by decide) rfl (Ok.set (Ok.set okr (by simp; omega) _) (by simp; omega) _)
          · have HR := Lib.hid hR
            clear hR
            have d9 : (ep == 1073741824) = false := beq_eq_false_iff_ne.2 h6
            have d9' : decide (ep = 1073741824) = false := decide_eq_false h6
            have d8 : decide ((40 : Int) < (n' : Int)) = false := decide_eq_false (by have := H6B.out h8; omega)
            clear h6 h8
            go_wp2
            have st := store2 wr (w.heap.size + 1 + 1) _ _ (.int .i64 (ep + 1)) (.slice A' n' c') R0 R1
            (try simp only [Exit.inBlock, Exit.then])
            refine bodyPost_ret (by simp [results, Tryz.results12, go_sem, st.1, st.2]; try rfl) rfl ?_
            rw [HR.out]
            have h1 := ((HOW.out.set (p := ⟨w.heap.size + 1 + 1, 0, none⟩) (by simp; omega) (.int .i64 (ep + 1))).set (p := ⟨w.heap.size + 1 + 1, 1, none⟩) (by simp; omega) (.slice A' n' c')).base (B' := w.heap.size) (by omega)
            have hnl := HNL.out
            subst hnl
            exact ⟨A', c', by first | rfl | simp, h1, Ok.set (Ok.set okr (by simp; omega) _) (by simp; omega) _⟩
end Go.Proofs.YtdabdkedgigjdaaGreat
