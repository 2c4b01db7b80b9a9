/- Rows: a table under deeds; what is written is read. -/
import Derived.Test.YtebhcadolnjplaaTf
import Derived.Test.YtebhcadolnjplaaTa
import Derived.Test.YtebhcadolnjplaaEo
namespace Go.Proofs.Ytebhcadolnjplaa
open Go.RowKit

theorem Strs.up {n m : Nat} {W w : World} {sv : Value} {zs : List Str} (h : Strs n W sv zs) (k : Below n W w) (hm : n ≤ m) : Strs m w sv zs := by
  rcases h.below k with q | ⟨b, off, cap, e, hb, hc⟩
  · exact .inl q
  · exact .inr ⟨b, off, cap, e, Nat.lt_of_lt_of_le hb hm, hc⟩
/-- A table of right rows whose own block is none of the first ones. -/
def Tbl (p B : Nat) (l : List Rw) (w : World) : Prop := Rises l ∧ rightL l ∧ l.length ≤ 400 ∧ ∃ A c, TabAt p A l.length c l w ∧ ∀ a, A = some a → B ≤ a.block
def AnyT (p B : Nat) (W : World) (e : Ending) (w' : World) : Prop := ∃ r l', e = .returned r ∧ Tbl p B l' w' ∧ Below B W w'
theorem Tbl.ok {p B : Nat} {l : List Rw} {w w' : World} (h : Tbl p B l w) (k : Ok w w') : Tbl p B l w' := by
  obtain ⟨h1, h2, h3, A, c, h4, h5⟩ := h
  exact ⟨h1, h2, h3, A, c, h4.ok k, h5⟩
theorem k2_below {p B : Nat} {A : Option Addr} {n c : Nat} {w w' : World} (h : K2 p (Value.slice A n c).ownBlock w w') (hp : B ≤ p) (hA : ∀ a, A = some a → B ≤ a.block) (hB : B ≤ w.heap.size) : Below B w w' :=
  ⟨h.os, h.tape, h.output, h.size, fun j hj => h.block j (by omega) (by omega) (fun e => by
    cases A with
    | none => cases e
    | some a => simp only [Value.ownBlock, Option.some.injEq] at e; have := hA a rfl; omega)⟩
theorem put_t (p B : Nat) (l : List Rw) (W : World) (h : Tbl p B l W) (hp : B ≤ p) (hB : B ≤ W.heap.size) (D : Option Addr) (m d : Nat) (xs : List Rw) (hm : xs.length = m) (hm6 : m ≤ 2000) (hx : RowsIn W D xs) :
    Calls Try.prog 46 #[.pointer (some ⟨p, 0, none⟩), .slice D m d] W (AnyT p B W) := by
  obtain ⟨h1, h2, h3, A, c, h4, h5⟩ := h
  refine (put_fR p A l.length c l D m d xs W h4 (by omega) h1 hm hm6 hx).mono fun e w' hh => ?_
  rcases hh with ⟨_, he, ho⟩ | ⟨hr, l', hl, ⟨_, he, ho⟩ | ⟨h7, he, ⟨A', c', ht, ha⟩, hg⟩⟩
  · exact ⟨_, l, he, Tbl.ok ⟨h1, h2, h3, A, c, h4, h5⟩ ho, Below.mono ho hB⟩
  · exact ⟨_, l, he, Tbl.ok ⟨h1, h2, h3, A, c, h4, h5⟩ ho, Below.mono ho hB⟩
  · exact ⟨_, l', he, ⟨(hl.spec h1).1, rightL.laid h1 h2 hr hl, h7, A', c', ht, fun a e => Nat.le_trans hB (ha a e)⟩, grownBy_below hg (fun b e => by cases e; exact hp) hB⟩
theorem take_t (p B : Nat) (l : List Rw) (W : World) (h : Tbl p B l W) (hp : B ≤ p) (hB : B ≤ W.heap.size) (s : Sp) : Calls Try.prog 45 #[.pointer (some ⟨p, 0, none⟩), spV s] W (AnyT p B W) := by
  obtain ⟨h1, h2, h3, A, c, h4, h5⟩ := h
  refine (takeR_f p A l.length c l s W h4 (by omega)).mono fun e w' ⟨A2, n2, c2, he, _, ht, hk⟩ => ?_
  have := stay_len_add s l
  exact ⟨_, stay s l, he, ⟨stay_rises h1, h2.sub (fun r hr => (List.mem_filter.1 hr).1), by omega, A, c, ht, h5⟩, k2_below hk hp h5 hB⟩
theorem new_t (W : World) : Calls Try.prog 44 #[] W fun e w' => ∃ p, e = .returned (.pointer (some ⟨p, 0, none⟩)) ∧ W.heap.size ≤ p ∧ Tbl p W.heap.size [] w' ∧ Ok W w' :=
  (new44 W).mono fun e w' ⟨p, he, hp, ht, ho⟩ => ⟨p, he, hp, ⟨rises_nil, rightL.nil, by simp, none, 0, ht, fun a e => by cases e⟩, ho⟩
/-- In: the rows of a span. -/
theorem in_t (p B : Nat) (l : List Rw) (W : World) (h : Tbl p B l W) (s : Sp) : Calls Try.prog 47 #[.pointer (some ⟨p, 0, none⟩), spV s] W (ListP (meant s l) W) := by
  obtain ⟨h1, h2, h3, A, c, h4, h5⟩ := h
  exact inR_f p A l.length c l s W h4 (by omega)
theorem many_t (p B : Nat) (l : List Rw) (W : World) (h : Tbl p B l W) : Calls Try.prog 50 #[.pointer (some ⟨p, 0, none⟩)] W (Ret W (.int .i64 (l.length : Int))) := by
  obtain ⟨h1, h2, h3, A, c, h4, h5⟩ := h
  exact many50 p A l.length c l W h4
theorem getw_t (p B : Nat) (l : List Rw) (W : World) (h : Tbl p B l W) (t : Str) : Calls Try.prog 51 #[.pointer (some ⟨p, 0, none⟩), .string t] W (GetP l t W) := by
  obtain ⟨h1, h2, h3, A, c, h4, h5⟩ := h
  exact get_f p A l.length c l t W h4 (by omega) h1
/-- Take, all of it: what came out, what stays, which blocks have turned. -/
def TakeT (p B : Nat) (s : Sp) (l : List Rw) (W : World) (e : Ending) (w' : World) : Prop :=
  ∃ A2 n2 c2 A n c, e = .returned (.slice A2 n2 c2) ∧ OwnR w' W.heap.size A2 n2 c2 (meant s l) ∧ Tbl p B (stay s l) w' ∧ K2 p (Value.slice A n c).ownBlock W w' ∧ Below B W w' ∧ ∀ a, A = some a → a.block < W.heap.size
theorem take_all_t (p B : Nat) (l : List Rw) (W : World) (h : Tbl p B l W) (hp : B ≤ p) (hB : B ≤ W.heap.size) (s : Sp) : Calls Try.prog 45 #[.pointer (some ⟨p, 0, none⟩), spV s] W (TakeT p B s l W) := by
  obtain ⟨h1, h2, h3, A, c, h4, h5⟩ := h
  refine (takeR_f p A l.length c l s W h4 (by omega)).mono fun e w' ⟨A2, n2, c2, he, ho, ht, hk⟩ => ?_
  have := stay_len_add s l
  exact ⟨A2, n2, c2, A, l.length, c, he, ho, ⟨stay_rises h1, h2.sub (fun r hr => (List.mem_filter.1 hr).1), by omega, A, c, ht, h5⟩, hk, k2_below hk hp h5 hB, fun a e => (h4.own.2.lt a.block (by rw [e]; rfl)).2⟩
/-- Put, where it must go well. -/
theorem put_back_t (p B : Nat) (l : List Rw) (s : Sp) (W : World) (hl : Rises l) (h4 : l.length ≤ 400) (hr : rightL l) (h : Tbl p B (stay s l) W) (_hp : B ≤ p) (hB : B ≤ W.heap.size) (D : Option Addr) (m d : Nat) (hm : (meant s l).length = m) (hx : RowsIn W D (meant s l)) :
    Calls Try.prog 46 #[.pointer (some ⟨p, 0, none⟩), .slice D m d] W fun e w' => e = .returned (.int .i64 0) ∧ Tbl p B l w' ∧ W.grownBy w' (some p) := by
  obtain ⟨h1, h2, h3, A, c, ht, h5⟩ := h
  have hsum := stay_len_add s l
  refine (put_fR p A (stay s l).length c (stay s l) D m d (meant s l) W ht (by omega) h1 hm (by omega) hx).mono fun e w' hh => ?_
  rcases hh with ⟨hn, _⟩ | ⟨_, l', hl', ⟨hbig, _⟩ | ⟨h7, he, ⟨A', c', ht', ha⟩, hg⟩⟩
  · rw [(hr.sub (m := meant s l) (fun r hr => (List.mem_filter.1 hr).1)).all] at hn
    cases hn
  · rw [put_back hl hl'] at hbig
    omega
  · obtain rfl := put_back hl hl'
    exact ⟨he, ⟨hl, hr, h7, A', c', ht', fun a e => Nat.le_trans hB (ha a e)⟩, hg⟩
theorem wpList_appOwn {ops : Array Oper} {rest : List Oper} {o : Oper} {a : Act} {w : World} {Q : Exit → Act → World → Prop} (hgd : o.guard = none) (s x : Operand)
    (ho : o.op = .call { callee := .builtin .append, args := #[s, x], argTypes := #[66, 66] })
    (base : Nat) (A : Option Addr) (n c : Nat) (l : List Rw) (hs : a.eval s = .slice A n c) (hown : OwnR w base A n c l) (B2 : Nat) (A2 : Option Addr) (m d : Nat) (k : List Rw) (hx : a.eval x = .slice A2 m d)
    (hin : OwnR w B2 A2 m d k) (hn : n + m ≤ 1000000) (hbase : base ≤ w.heap.size)
    (h : ∀ A' c' w', OwnR w' base A' (n + m) c' (l ++ k) → w.grownBy w' (Value.slice A n c).ownBlock → wpList Try.prog ops Q rest (a.put o.dst (.slice A' (n + m) c')) w') : wpList Try.prog ops Q (o :: rest) a w := by
  rcases hin.nc with ⟨rfl, rfl, rfl⟩ | ⟨g, rfl⟩
  · obtain ⟨i0, hi, hz0, hz1, hz2⟩ := info_parts info105
    obtain rfl : k = [] := List.length_eq_zero_iff.1 hin.1
    refine wpList_append_own_none hgd s x 66 ho base 105 i0 2 Try.underlying66 hi _ n (flat2 l) hs hown.2 hx ?_
    exact h A c w (by simpa using hown) ⟨rfl, rfl, rfl, Nat.le_refl _, fun _ _ _ => rfl⟩
  · exact wpList_appRows hgd s x ho base A n c l hs hown g 0 m d k hin.1 hx hin.rows hn hbase h
theorem cutM_len (s : Sp) (ks : List Str) : (cutM s ks).length ≤ ks.length + 1 := by
  unfold cutM
  have := cutSt_len s ks
  split <;> simp <;> omega
theorem at1_take (ps : List Sp) (l : List Rw) (k : Nat) (h : k < ps.length) : ((ps.take (k + 1)).flatMap fun p => meant p l) = ((ps.take k).flatMap fun p => meant p l) ++ meant (at1 ps k) l := by
  rw [List.take_succ_eq_append_getElem h, List.flatMap_append]
  simp [at1, h]
theorem OwnR.len {w : World} {B : Nat} {A : Option Addr} {n c : Nat} {l : List Rw} (h : OwnR w B A n c l) : l.length = n := h.1
/-- What a world's own rows are where only a table's blocks have turned, which are older. -/
theorem OwnR.k2' {p : Nat} {A0 : Option Addr} {n0 c0 : Nat} {w w' : World} {B : Nat} {A : Option Addr} {n c : Nat} {l : List Rw} (h : OwnR w B A n c l) (k : K2 p (Value.slice A0 n0 c0).ownBlock w w') (hp : p < B) (hA : ∀ a, A0 = some a → a.block < B) : OwnR w' B A n c l :=
  h.k2 k fun a e => by
    have h1 := (h.2.lt a.block (by rw [e]; rfl)).1
    refine ⟨by omega, fun q => ?_⟩
    cases A0 with
    | none => cases q
    | some a0 => simp only [Value.ownBlock, Option.some.injEq] at q; have := hA a0 rfl; omega
theorem newWriter_n (W : World) : Calls Try.prog 33 #[] W fun e w' => e = .returned (.pointer (some ⟨W.heap.size, 0, none⟩)) ∧ Wn false W.heap.size w' [] ∧ Ok W w' :=
  (newWriter_s W).mono fun _ _ ⟨he, h1, h2, _⟩ => ⟨he, ⟨none, 0, h1 _ fun _ hf => hf.elim⟩, h2⟩
theorem done_ok (g : Nat) (W : World) (zs : List B8) (h : Wn false g W zs) (hz : zs.length ≤ 140737488350000) : Calls Try.prog 34 #[.pointer (some ⟨g, 0, none⟩)] W (DonePost W zs) := by
  obtain ⟨A, c, h⟩ := h
  exact done_w g _ zs W h.wr hz
theorem Small.of_right {l : List Rw} (h : rightL l) : Small l := fun j hj => by
  have := rowB_sz (h _ (rwA_mem l j hj))
  omega
theorem enc_all_len (l : List Rw) (hs : Small l) (h : l.length ≤ 1300) (n : Nat) : (encsI [(n : Int)] ++ encR l).length ≤ 140737488350000 := by
  have h1 := encsI_len [(n : Int)]
  have h2 := encR_len l hs l.length (Nat.le_refl _)
  rw [List.take_length] at h2
  rw [List.length_append]
  simp only [List.length_cons, List.length_nil] at h1
  omega
theorem OwnR.gp {p : Nat} {w w' : World} {B : Nat} {A : Option Addr} {n c : Nat} {l : List Rw} (h : OwnR w B A n c l) (k : w.grownBy w' (some p)) (hp : p < B) : OwnR w' B A n c l :=
  h.k2 (p := p) (r := none) ⟨k.os, k.tape, k.output, k.size, fun j hj h1 _ => k.block j hj (fun e => h1 (by simpa using e))⟩ fun a e => ⟨by
    have h1 := (h.2.lt a.block (by rw [e]; rfl)).1
    omega, by simp⟩
end Go.Proofs.Ytebhcadolnjplaa
