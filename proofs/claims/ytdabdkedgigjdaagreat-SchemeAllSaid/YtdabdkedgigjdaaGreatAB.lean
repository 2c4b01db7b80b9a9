/- The document's own Cut: one cut behind the other. -/
import Derived.Test.YtdabdkedgigjdaaGreatV
import Derived.Test.YtdabdkedgigjdaaGreatU
import Derived.Test.YtdabdkedgigjdaaGreatO
import Derived.Deep.RegionHeld3
import Derived.Deep.AppendLies
namespace Go.Proofs.YtdabdkedgigjdaaGreat
open Go.RowKit

theorem insM_len (k : Str) : ∀ ps : List Sp, (insM k ps).length ≤ ps.length + 1 := by
  intro ps
  induction ps with
  | nil => simp [insM]
  | cons x ps ih =>
    rw [insM]
    split
    · simp
    · simp only [List.length_cons]; omega
theorem rfold_len : ∀ (ks : List Str) (ps : List Sp), (ks.foldl (fun out k => insM k out) ps).length ≤ ps.length + ks.length := by
  intro ks
  induction ks with
  | nil => intro ps; simp
  | cons k ks ih =>
    intro ps
    have h1 := ih (insM k ps)
    have h2 := insM_len k ps
    simp only [List.foldl_cons, List.length_cons]
    omega
theorem take_at1 (ps : List Sp) (q : Nat) (h : q < ps.length) : ps.take (q + 1) = ps.take q ++ [at1 ps q] := by
  rw [List.take_succ_eq_append_getElem h]
  simp [at1, h]
theorem ins_skip {kk : Str} {acc : List Sp} {q : Nat} {x : Sp} (hq : q < acc.length) (hx : at1 acc q = x) (h : insM kk acc = acc.take q ++ insM kk (acc.drop q)) (hc : (hasB x kk && !(kk.toList == x.lo.toList)) = false) :
    insM kk acc = acc.take (q + 1) ++ insM kk (acc.drop (q + 1)) := by
  rw [h, drop_at acc q hq, hx, insM, if_neg (by rw [hc]; simp), take_at1 acc q hq, hx]
  simp
theorem ins_here {kk : Str} {acc : List Sp} {q : Nat} {x : Sp} (hq : q < acc.length) (hx : at1 acc q = x) (h : insM kk acc = acc.take q ++ insM kk (acc.drop q)) (hc : (hasB x kk && !(kk.toList == x.lo.toList)) = true) :
    insM kk acc = acc.take q ++ [⟨x.lo, kk⟩, ⟨kk, x.hi⟩] ++ acc.drop (q + 1) := by
  rw [h, drop_at acc q hq, hx, insM, if_pos hc]
  simp

theorem flat_one : ∀ (ps : List Sp) (u : Value), u ∈ flat ps → u.oneCell' = true := by
  intro ps u hu
  simp only [flat, List.mem_flatten, List.mem_map] at hu
  obtain ⟨l, ⟨s, _, rfl⟩, hu⟩ := hu
  rcases List.mem_cons.1 hu with rfl | hu
  · rfl
  · obtain rfl : u = .string s.hi := by simpa using hu
    rfl
theorem flat_drop : ∀ (ps : List Sp) (q : Nat), flat (ps.drop q) = (flat ps).drop (q * 2)
  | ps, 0 => by simp
  | [], q + 1 => by simp [flat]
  | p :: ps, q + 1 => by
    rw [List.drop_succ_cons, flat_drop ps q, show (q + 1) * 2 = q * 2 + 2 from by omega]
    simp [flat]
theorem flat_take : ∀ (ps : List Sp) (q : Nat), flat (ps.take q) = (flat ps).take (q * 2)
  | ps, 0 => by simp [flat]
  | [], q + 1 => by simp [flat]
  | p :: ps, q + 1 => by
    rw [List.take_succ_cons, show (q + 1) * 2 = q * 2 + 2 from by omega]
    have := flat_take ps q
    simp only [flat, List.map_cons, List.flatten_cons, List.cons_append, List.nil_append, List.take_succ_cons] at *
    rw [this]
theorem flat_append (ps qs : List Sp) : flat (ps ++ qs) = flat ps ++ flat qs := by simp [flat]
theorem far {w w' : World} {g : Nat} (h : w.grownBy w' (some g)) {p : Addr} {v : Value} (hne : p.block ≠ g) (hc : w.cell? p = some v) : w'.cell? p = some v := by
  rw [World.cell?_of_block (h.block p.block (World.block_lt_of_cell? _ _ hc) (by simpa using hne))]
  exact hc
/-- A row of its own, of as many as the first q. -/
theorem OwnS.first {w : World} {B g n c : Nat} {ps : List Sp} (h : OwnS w B (some ⟨g, 0, none⟩) n c ps) (q : Nat) (hq : q ≤ n) : OwnS w B (some ⟨g, 0, none⟩) q c (ps.take q) := by
  obtain ⟨h1, rfl⟩ := h
  have hl : (ps.take q).length = q := by simp; omega
  refine ⟨⟨flat_len _, .inr ?_⟩, hl.symm⟩
  rcases h1.2 with ⟨e, _⟩ | ⟨g', cap, cur, e, hB, hg, h3, h4, h5, h6⟩
  · simp at e
  · simp only [Value.slice.injEq, Option.some.injEq, Addr.mk.injEq, and_true, true_and] at e
    obtain ⟨rfl, rfl⟩ := e
    refine ⟨g, c, cur, by rw [hl], hB, hg, by rw [hl]; omega, h4, h5, ?_⟩
    rw [hl, flat_take, ← h6, List.take_take, Nat.min_eq_left (by omega)]
theorem OwnS.le {w : World} {B g n c : Nat} {ps : List Sp} (h : OwnS w B (some ⟨g, 0, none⟩) n c ps) : n ≤ c ∧ c ≤ maxLen ∧ B ≤ g ∧ g < w.heap.size := by
  obtain ⟨h1, rfl⟩ := h
  rcases h1.2 with ⟨e, _⟩ | ⟨g', cap, cur, e, hB, hg, h3, h4, _⟩
  · simp at e
  · simp only [Value.slice.injEq, Option.some.injEq, Addr.mk.injEq, and_true, true_and] at e
    obtain ⟨rfl, rfl⟩ := e
    exact ⟨h3, h4, hB, (Array.getElem?_eq_some_iff.1 hg).1⟩
theorem OwnS.far {w w' : World} {B g h n c : Nat} {ps : List Sp} (ho : OwnS w B (some ⟨h, 0, none⟩) n c ps) (hg : w.grownBy w' (some g)) (hne : h ≠ g) : OwnS w' B (some ⟨h, 0, none⟩) n c ps :=
  ⟨ho.1.kept hg (.inr (by simpa [Value.ownBlock] using hne)), ho.2⟩
theorem OwnS.form {w : World} {B n : Nat} {v : Value} {ps : List Sp} (h : w.ownsRow B 26 2 v n (flat ps)) (hn : ps.length = n) (hb : v.ownBlock ≠ none) : ∃ g c, v = .slice (some ⟨g, 0, none⟩) n c ∧ OwnS w B (some ⟨g, 0, none⟩) n c ps := by
  have h0 := h
  rcases h.2 with ⟨rfl, _⟩ | ⟨g, cap, cur, rfl, _⟩
  · exact absurd rfl hb
  · subst hn
    exact ⟨g, cap, rfl, h0, rfl⟩
/-- What stands behind a place, copied into a new row. -/
theorem wpList_appRest {ops : Array Oper} {rest : List Oper} {o : Oper} {a : Act} {w : World} {Q : Exit → Act → World → Prop} (hgd : o.guard = none) (s x : Operand)
    (ho : o.op = .call { callee := .builtin .append, args := #[s, x], argTypes := #[94, 94] })
    (base h : Nat) (hs : a.eval s = .slice (some ⟨h, 0, none⟩) 0 0) (hown : w.ownsRow base 26 2 (.slice (some ⟨h, 0, none⟩) 0 0) 0 [])
    (ad : Addr) (m c : Nat) (ys : List Sp) (hx : a.eval x = .slice (some ad) m c) (hm : ys.length = m) (hnews : ∀ j u, (flat ys)[j]? = some u → w.cell? (ad.add j) = some u) (hlen : m ≤ 1000) (hbase : base ≤ w.heap.size)
    (hk : ∀ h2 c2 w', OwnS w' base (some ⟨h2, 0, none⟩) m c2 ys → Below base w w' → wpList Tryz.prog ops Q rest (a.put o.dst (.slice (some ⟨h2, 0, none⟩) m c2)) w') : wpList Tryz.prog ops Q (o :: rest) a w := by
  obtain ⟨i0, hi, hz0, hz1, hz2⟩ := info_parts info23
  refine wpList_append_own_at _ hgd s x 94 ho base 26 i0 (.agg #[.string ⟨#[]⟩, .string ⟨#[]⟩]) 2 32 Tryz.underlying94 hi hz0 hz1 hz2 rfl (by decide) _ 0 [] hs hown ad m c (flat ys) hx (by rw [flat_len, hm]) hnews (flat_one ys) (by unfold maxLen; omega) (by omega) hbase ?_
  intro v' w' h2 h3 _ h5
  have hb : Below base w w' := (Below.refl base w).grown h3 hbase (fun k hk => (World.ownsRow.lt hown k hk).1)
  rw [Nat.zero_add, List.nil_append] at h2
  obtain ⟨g, c2, rfl, ho2⟩ := OwnS.form h2 hm (by rcases h5 with h5 | h5 <;> rw [h5] <;> simp [Value.ownBlock])
  exact hk g c2 w' ho2 hb
/-- Two spans appended, at a step of a region that draws. -/
theorem step_app2S {ops : Array Oper} {o : Oper} {a : Act} {w : World} {K : Act → World → Prop} {Q : Exit → Act → World → Prop} {E : Prop} (hgd : o.guard = none) (s x : Operand)
    (ho : o.op = .call { callee := .builtin .append, args := #[s, x], argTypes := #[94, 94] })
    (base g q c : Nat) (ps : List Sp) (h : Nat) (p0 p1 : Sp) (hs : a.eval s = .slice (some ⟨g, 0, none⟩) q c) (hx : a.eval x = .slice (some ⟨h, 0, none⟩) 2 2) (hown : OwnS w base (some ⟨g, 0, none⟩) q c ps)
    (hc : ∀ j u, (flat [p0, p1])[j]? = some u → w.cell? ((⟨h, 0, none⟩ : Addr).add j) = some u) (hlen : ps.length ≤ 1000) (hbase : base ≤ w.heap.size)
    (hk : ∀ g1 c1 w1, OwnS w1 base (some ⟨g1, 0, none⟩) (q + 2) c1 (ps ++ [p0, p1]) → w.grownBy w1 (some g) → Below base w w1 → (g1 = g ∨ g1 = w.heap.size) → K (a.put o.dst (.slice (some ⟨g1, 0, none⟩) (q + 2) c1)) w1) :
    if Region.wanted o (yielded ops a.tmps) = true then Oper.wp Tryz.prog o a w K Q else E := by
  obtain ⟨i0, hi, hz0, hz1, hz2⟩ := info_parts info23
  obtain ⟨hown, rfl⟩ := hown
  refine step_append_lies w hgd s x 94 ho base 26 i0 (.agg #[.string ⟨#[]⟩, .string ⟨#[]⟩]) 2 32 Tryz.underlying94 hi hz0 hz1 hz2 rfl (by decide) _ ps.length (flat ps) hs hown
    ⟨h, 0, none⟩ 2 2 (flat [p0, p1]) hx rfl hc (flat_one _) (by decide) (by unfold maxLen; omega) (by omega) hbase _ rfl ?_
  intro g1 cap w1 hown1 hgrow hat _
  have hb : Below base w w1 := (Below.refl base w).grown hgrow hbase (fun k hk => (World.ownsRow.lt hown k hk).1)
  refine hk g1 cap w1 ⟨?_, by simp⟩ hgrow hb ?_
  · rw [flat_append, List.length_append]; exact hown1
  · rcases hat with hat | hat
    · exact .inl (by simpa [Value.ownBlock] using hat.symm)
    · exact .inr hat
/-- A row of spans appended, at a step of a region that draws. -/
theorem step_appSS {ops : Array Oper} {o : Oper} {a : Act} {w : World} {K : Act → World → Prop} {Q : Exit → Act → World → Prop} {E : Prop} (hgd : o.guard = none) (s x : Operand)
    (ho : o.op = .call { callee := .builtin .append, args := #[s, x], argTypes := #[94, 94] })
    (base g q c : Nat) (ps : List Sp) (B h m d : Nat) (ys : List Sp) (hs : a.eval s = .slice (some ⟨g, 0, none⟩) q c) (hx : a.eval x = .slice (some ⟨h, 0, none⟩) m d) (hown : OwnS w base (some ⟨g, 0, none⟩) q c ps)
    (hy : OwnS w B (some ⟨h, 0, none⟩) m d ys) (hlen : ps.length ≤ 1000) (hlen2 : ys.length ≤ 1000) (hbase : base ≤ w.heap.size)
    (hk : ∀ A n c1 w1, OwnS w1 base A n c1 (ps ++ ys) → w.grownBy w1 (some g) → Below base w w1 → K (a.put o.dst (.slice A n c1)) w1) :
    if Region.wanted o (yielded ops a.tmps) = true then Oper.wp Tryz.prog o a w K Q else E := by
  obtain ⟨i0, hi, hz0, hz1, hz2⟩ := info_parts info23
  obtain ⟨hown, rfl⟩ := hown
  obtain ⟨hy, rfl⟩ := hy
  have hw : Region.wanted o (yielded ops a.tmps) = true := by simp [Region.wanted, hgd]
  rw [if_pos hw]
  obtain ⟨v', w', hr, h2, h3, _, h5⟩ := run_append_own_at (P := Tryz.prog) w base 94 o.type 26 i0 (.agg #[.string ⟨#[]⟩, .string ⟨#[]⟩]) 2 32 Tryz.underlying94 hi hz0 hz1 hz2 rfl (by decide) _ ps.length (flat ps) hown
    ⟨h, 0, none⟩ ys.length d (flat ys) (flat_len ys) (World.ownsRow.cells hy rfl) (flat_one _) (by unfold maxLen; omega) (by omega) hbase
  have hb : Below base w w' := (Below.refl base w).grown h3 hbase (fun k hk => (World.ownsRow.lt hown k hk).1)
  rw [← flat_append, ← List.length_append] at h2
  obtain ⟨g2, c2, rfl, ho2⟩ := OwnS.form h2 rfl (by rcases h5 with h5 | h5 <;> rw [h5] <;> simp [Value.ownBlock])
  unfold Oper.wp execOp
  simp only [ho, resolve, invoke, builtin, Sem.run_bind, Sem.run_pure, Result.andThen_ok, List.map_toArray, List.map_cons, List.map_nil, hs, hx, hr]
  exact hk _ _ _ _ ho2 h3 hb

/-- What a row of spans is, behind the world w. -/
def RowAt (base : Nat) (w : World) (acc : List Sp) (l : Value) (wx : World) : Prop := ∃ A n c, l = .slice A n c ∧ OwnS wx base A n c acc ∧ Ok w wx
theorem one_own (w : World) (s : Sp) : OwnS (w.alloc (.cells #[.string s.lo, .string s.hi] 26)) w.heap.size (some ⟨w.heap.size, 0, none⟩) 1 1 [s] :=
  ⟨World.ownsRow_lit w #[.string s.lo, .string s.hi] 1 (Nat.le_refl _) (by decide) rfl, rfl⟩

theorem rest_news {w : World} {B g n c : Nat} {acc : List Sp} (h : OwnS w B (some ⟨g, 0, none⟩) n c acc) (q : Nat) (ad : Addr)
    (had : (if c = q + 1 then some (⟨g, 0, none⟩ : Addr) else some ⟨g, (q + 1) * 2, none⟩) = some ad) : ∀ j u, (flat (acc.drop (q + 1)))[j]? = some u → w.cell? (ad.add j) = some u := by
  intro j u hu
  rw [flat_drop, List.getElem?_drop] at hu
  have hcl := World.ownsRow.cells h.1 (g := g) rfl _ _ hu
  by_cases hcq : c = q + 1
  · have hl := (List.getElem?_eq_some_iff.1 hu).1
    rw [flat_len, ← h.2] at hl
    have := h.le.1
    omega
  · rw [if_neg hcq, Option.some.injEq] at had
    subst had
    rw [← hcl]
    congr 1
    have e : ∀ o i, (⟨g, o, none⟩ : Addr).add i = ⟨g, o + i, none⟩ := fun o i => by unfold Addr.add; split <;> simp_all
    rw [e, e, Nat.zero_add]
end Go.Proofs.YtdabdkedgigjdaaGreat
