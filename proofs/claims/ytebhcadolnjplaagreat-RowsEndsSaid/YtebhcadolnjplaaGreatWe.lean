/- What the end of the law RowsEnds wants: an append whose old rows stay, its bytes. -/
import Derived.Test.YtebhcadolnjplaaGreatVj
import Derived.Test.YtebhcadolnjplaaGreatTq
namespace Go.Proofs.YtebhcadolnjplaaGreat
open Go.RowKit

def kL (i : Nat) : List UInt8 := [UInt8.ofNat (97 + i / 26 % 26), UInt8.ofNat (97 + i % 26), UInt8.ofNat (48 + i / 676)]
def kS (i : Nat) : Str := ⟨(kL i).toArray⟩
def kR (i : Nat) : Rw := ⟨kS i, ⟨#[]⟩⟩
def rowsK (n : Nat) : List Rw := (List.range n).map kR
theorem rowsK_len (n : Nat) : (rowsK n).length = n := by simp [rowsK]
theorem rowsK_succ (n : Nat) : rowsK (n + 1) = rowsK n ++ [kR n] := by simp [rowsK, List.range_succ]
theorem rowsK_at (n j : Nat) (h : j < n) : rwA (rowsK n) j = kR j := by
  unfold rwA rowsK
  rw [List.getD_eq_getElem?_getD, List.getElem?_map, List.getElem?_range h]
  rfl
theorem kS_next : ((List.range 400).all fun i => Op.bytesLess (kL i) (kL (i + 1))) = true := by decide +kernel
theorem kS_adj (i : Nat) (h : i < 400) : ltB (kS i) (kS (i + 1)) = true := by
  unfold ltB kS
  rw [toList_data, toList_data]
  exact List.all_eq_true.1 kS_next i (List.mem_range.2 h)
theorem kS_lt (i d : Nat) (h : i + d + 1 ≤ 400) : ltB (kS i) (kS (i + d + 1)) = true := by
  induction d with
  | zero => exact kS_adj i (by omega)
  | succ d ih => exact ltB_trans (ih (by omega)) (kS_adj (i + d + 1) (by omega))
theorem rowsK_rises : Rises (rowsK 401) := fun i j hij hj => by
  rw [rowsK_len] at hj
  rw [rowsK_at _ _ (by omega), rowsK_at _ _ hj]
  obtain ⟨d, rfl⟩ : ∃ d, j = i + d + 1 := ⟨j - i - 1, by omega⟩
  exact kS_lt i d (by omega)
theorem kS_key : ((List.range 401).all fun i => (kL i).all letterB) = true := by decide +kernel
theorem rowsK_right : allR (rowsK 401) = true := by
  refine (allR_iff _).2 fun j hj => ?_
  rw [rowsK_len] at hj
  rw [rowsK_at _ _ hj]
  have h := List.all_eq_true.1 kS_key j (List.mem_range.2 hj)
  unfold rowB keyB
  rw [show (kR j).key = kS j from rfl, show (kR j).val = ⟨#[]⟩ from rfl, show (kS j).data.toList = kL j from rfl, h]
  rfl
theorem allR_sub {xs ys : List Rw} (h : allR ys = true) (k : ∀ x, x ∈ xs → x ∈ ys) : allR xs = true := by
  refine (allR_iff _).2 fun j hj => ?_
  obtain ⟨i, hi, e⟩ := (mem_rwA _ _).1 (k _ (rwA_mem xs j hj))
  rw [← e]
  exact (allR_iff ys).1 h i hi
theorem rises_key {U : List Rw} (h : Rises U) {x y : Rw} (hx : x ∈ U) (hy : y ∈ U) (e : x.key = y.key) : x = y := by
  obtain ⟨i, hi, rfl⟩ := (mem_rwA _ _).1 hx
  obtain ⟨j, hj, rfl⟩ := (mem_rwA _ _).1 hy
  rw [h.inj hi hj e]
/-- Rows of one rising list, laid into rows of it: both together. -/
theorem laid_union {U l xs l' : List Rw} (hU : Rises U) (hl : ∀ x, x ∈ l → x ∈ U) (hr : Rises l) (hx : Rises xs) (hxs : ∀ x, x ∈ xs → x ∈ U) (h : LaidAll l xs l') : Rises l' ∧ ∀ x, x ∈ l' ↔ x ∈ l ∨ x ∈ xs := by
  refine ⟨(h.spec hr).1, fun x => ?_⟩
  rw [h.mem hr x]
  constructor
  · rintro (q | q)
    · exact .inr (lastIn_mem q)
    · exact .inl q.1
  · intro q
    by_cases hm : x ∈ xs
    · refine .inl ?_
      obtain ⟨a, b, rfl⟩ := List.append_of_mem hm
      refine ⟨a, b, rfl, fun y hy => ?_⟩
      have := (List.pairwise_append.1 hx.pw).2.1
      exact (ne_of_lt ((List.pairwise_cons.1 this).1 y hy)).symm
    · rcases q with q | q
      · refine .inr ⟨q, fun y hy e => hm ?_⟩
        rw [← rises_key hU (hxs y hy) (hl x q) e]
        exact hy
      · exact absurd q hm
theorem put_full {U l xs l' t : List Rw} {k : Int} (hU : Rises U) (hl : ∀ x, x ∈ l → x ∈ U) (hr : Rises l) (hx : Rises xs) (hxs : ∀ x, x ∈ xs → x ∈ U) (ha : allR xs = true) (ht : Rises t) (hm : ∀ x, x ∈ t ↔ x ∈ l ∨ x ∈ xs)
    (h : PutRel l xs k l') : (400 < t.length ∧ k = 8 ∧ l' = l) ∨ (t.length ≤ 400 ∧ k = 0 ∧ l' = t) := by
  rcases h with ⟨q, _⟩ | ⟨_, l2, h2, h3⟩
  · rw [ha] at q; cases q
  · obtain ⟨e1, e2⟩ := laid_union hU hl hr hx hxs h2
    obtain rfl : l2 = t := rises_ext _ _ e1 ht fun x => (e2 x).trans (hm x).symm
    exact h3
def aK : List Rw := (rowsK 401).drop 1
def bK : List Rw := (rowsK 401).take 1
def dK : List Rw := ((rowsK 401).drop 5).take 4
theorem aK_len : aK.length = 400 := by simp [aK, rowsK_len]
theorem bK_len : bK.length = 1 := by simp [bK, rowsK_len]
theorem dK_len : dK.length = 4 := by simp [dK, rowsK_len]
theorem aK_in (x : Rw) (h : x ∈ aK) : x ∈ rowsK 401 := List.mem_of_mem_drop h
theorem bK_in (x : Rw) (h : x ∈ bK) : x ∈ rowsK 401 := List.mem_of_mem_take h
theorem dK_in (x : Rw) (h : x ∈ dK) : x ∈ rowsK 401 := List.mem_of_mem_drop (List.mem_of_mem_take h)
theorem aK_rises : Rises aK := rowsK_rises.sub (List.drop_sublist _ _)
theorem bK_rises : Rises bK := rowsK_rises.sub (List.take_sublist _ _)
theorem dK_rises : Rises dK := (rowsK_rises.sub (List.drop_sublist 5 _)).sub (List.take_sublist 4 _)
theorem rightL_of {l : List Rw} (h : allR l = true) : rightL l := fun r hr => by
  obtain ⟨j, hj, rfl⟩ := (mem_rwA _ _).1 hr
  exact (allR_iff l).1 h j hj
theorem aK_right : rightL aK := rightL_of (allR_sub rowsK_right aK_in)
theorem aK_bK (x : Rw) : x ∈ rowsK 401 ↔ x ∈ aK ∨ x ∈ bK := by
  have e : rowsK 401 = bK ++ aK := (List.take_append_drop 1 (rowsK 401)).symm
  constructor
  · intro h
    rw [e] at h
    exact (List.mem_append.1 h).symm
  · rintro (h | h)
    · exact aK_in x h
    · exact bK_in x h
theorem dK_aK (x : Rw) (h : x ∈ dK) : x ∈ aK := by
  have h1 : x ∈ (rowsK 401).drop 5 := List.mem_of_mem_take h
  have h2 : (rowsK 401).drop 5 = aK.drop 4 := by unfold aK; rw [List.drop_drop]
  rw [h2] at h1
  exact List.mem_of_mem_drop h1
theorem put_one {k : Int} {l' : List Rw} (h : PutRel [] (rowsK 401) k l') : k = 8 ∧ l' = [] := by
  rcases put_full rowsK_rises (fun x h => by cases h) rises_nil rowsK_rises (fun x h => h) rowsK_right rowsK_rises (fun x => by simp) h with q | q
  · exact q.2
  · have := q.1; rw [rowsK_len] at this; omega
theorem put_two {k : Int} {l' : List Rw} (h : PutRel [] aK k l') : k = 0 ∧ l' = aK := by
  rcases put_full rowsK_rises (fun x h => by cases h) rises_nil aK_rises aK_in (allR_sub rowsK_right aK_in) aK_rises (fun x => by simp) h with q | q
  · have := q.1; rw [aK_len] at this; omega
  · exact q.2
theorem put_three {k : Int} {l' : List Rw} (h : PutRel aK bK k l') : k = 8 ∧ l' = aK := by
  rcases put_full rowsK_rises aK_in aK_rises bK_rises bK_in (allR_sub rowsK_right bK_in) rowsK_rises aK_bK h with q | q
  · exact q.2
  · have := q.1; rw [rowsK_len] at this; omega
theorem put_four {k : Int} {l' : List Rw} (h : PutRel aK dK k l') : k = 0 ∧ l' = aK := by
  rcases put_full rowsK_rises aK_in aK_rises dK_rises dK_in (allR_sub rowsK_right dK_in) aK_rises (fun x => ⟨.inl, fun q => q.elim id (dK_aK x)⟩) h with q | q
  · have := q.1; rw [aK_len] at this; omega
  · exact q.2
theorem aK_drop {w : World} {g : Nat} (h : RowsIn w (some ⟨g, 0, none⟩) (rowsK 401)) : RowsIn w (some ⟨g, 2, none⟩) aK := by
  have := h.drop 1
  exact this
theorem aK_mid {w : World} {g : Nat} (h : RowsIn w (some ⟨g, 0, none⟩) (rowsK 401)) : RowsIn w (some ⟨g, 10, none⟩) dK := by
  have := (h.drop 5).take 4
  exact this
theorem aK_first {w : World} {g : Nat} (h : RowsIn w (some ⟨g, 0, none⟩) (rowsK 401)) : RowsIn w (some ⟨g, 0, none⟩) bK := h.take 1
end Go.Proofs.YtebhcadolnjplaaGreat
namespace Go.Proofs.YtebhcadolnjplaaGreat
open Go.RowKit

/-- A table with the rows l and the document's with lm, in blocks of their own. -/
structure Pt (W : World) (p m : Nat) (l lm : List Rw) (w : World) : Prop where
  ex : ∃ Ap cp Am nm cm, TabAt p Ap l.length cp l w ∧ RfA m Am nm cm lm w ∧ (∀ a, Ap = some a → a.block ≠ m) ∧ (∀ a, Am = some a → a.block ≠ p ∧ ∀ a', Ap = some a' → a.block ≠ a'.block) ∧ ((lm = [] ∧ Am = none) ∨ OwnR w W.heap.size Am nm cm lm)
  pm : p ≠ m
  hp : W.heap.size ≤ p
  hm : W.heap.size ≤ m
  ok : Ok W w
theorem OwnR.lt' {w : World} {B : Nat} {A : Option Addr} {n c : Nat} {l : List Rw} (h : OwnR w B A n c l) : ∀ a, A = some a → B ≤ a.block ∧ a.block < w.heap.size := fun a e => h.2.lt a.block (by rw [e]; rfl)
theorem k2_okW {W w w' : World} {p : Nat} (h : Ok W w) (hp : W.heap.size ≤ p) (k : K2 p none w w') : Ok W w' :=
  ⟨k.os.trans h.os, k.tape.trans h.tape, k.output.trans h.output, Nat.le_trans h.size k.size, fun b hb => (k.block b (Nat.lt_of_lt_of_le hb h.size) (by omega) (fun e => by cases e)).trans (h.block b hb)⟩
theorem Pt.ok' {W w w' : World} {p m : Nat} {l lm : List Rw} (h : Pt W p m l lm w) (k : Ok w w') : Pt W p m l lm w' := by
  obtain ⟨Ap, cp, Am, nm, cm, h1, h2, h3, h4, h5⟩ := h.ex
  exact ⟨⟨Ap, cp, Am, nm, cm, h1.ok k, h2.ok k, h3, h4, h5.imp id fun q => q.ok k⟩, h.pm, h.hp, h.hm, h.ok.trans k⟩
theorem Pt.sd {W w : World} {p m : Nat} {l : List Rw} (h : Pt W p m l l w) (hr : Rises l) (ht : rightL l) (hl : l.length ≤ 400) : Sd (fun b => b < w.heap.size) p m l w := by
  obtain ⟨Ap, cp, Am, nm, cm, h1, h2, h3, h4, h5⟩ := h.ex
  have hA := h1.own.lt'
  refine ⟨⟨Ap, cp, Am, nm, cm, h1, h2, h.pm, fun a e => ⟨h3 a e, (hA a e).2⟩, fun a e => ⟨(h4 a e).1, ?_, (h4 a e).2⟩⟩, h1.lt, h2.lt, fun b hb => hb, hr, ht, hl⟩
  rcases h5 with ⟨_, q⟩ | q
  · rw [q] at e; cases e
  · exact (q.lt' a e).2
def Pu18 (W : World) (p m : Nat) (l lm xs : List Rw) (e : Ending) (w' : World) : Prop := ∃ k l', e = .returned (.int .i64 k) ∧ PutRel l xs k l' ∧ Pt W p m l' lm w'
theorem pu18 {W w : World} {p m : Nat} {l lm : List Rw} (h : Pt W p m l lm w) (B : Option Addr) (n d : Nat) (xs : List Rw) (hl : l.length ≤ 400) (hr : Rises l) (hn : xs.length = n) (hn6 : n ≤ 2000) (hx : RowsIn w B xs) :
    Calls Tryz.prog 18 #[.pointer (some ⟨p, 0, none⟩), .slice B n d] w (Pu18 W p m l lm xs) := by
  obtain ⟨Ap, cp, Am, nm, cm, h1, h2, h3, h4, h5⟩ := h.ex
  refine (put_tt p Ap cp l B n d xs w h1 hl hr hn hn6 hx).mono fun e w' hh => ?_
  obtain ⟨k, l', A', c', he, hrel, ht, ha, hk⟩ := hh
  have hml := h2.lt
  have hpl := h1.lt
  have hbm : w'.heap[m]? = w.heap[m]? := hk.block m hml h.pm.symm (fun e => by cases e)
  have hAm : ∀ a, Am = some a → a.block < w.heap.size ∧ w'.heap[a.block]? = w.heap[a.block]? := fun a e => by
    rcases h5 with ⟨_, q⟩ | q
    · rw [q] at e; cases e
    · exact ⟨(q.lt' a e).2, hk.block _ (q.lt' a e).2 (h4 a e).1 (fun e => by cases e)⟩
  refine ⟨k, l', he, hrel, ⟨A', c', Am, nm, cm, ht, h2.same hbm (fun a e => (hAm a e).2), fun a e => ?_, fun a e => ⟨(h4 a e).1, fun a' e' => ?_⟩, h5.imp id fun q => q.same (fun a e => (hAm a e).2)⟩, h.pm, h.hp, h.hm, k2_okW h.ok h.hp hk⟩
  · rcases ha with q | q
    · exact h3 a (q ▸ e)
    · have := q a e; omega
  · rcases ha with q | q
    · exact (h4 a e).2 a' (q ▸ e')
    · have := q a' e'; have := (hAm a e).1; omega
def Pu19 (W : World) (p m : Nat) (l lm xs : List Rw) (e : Ending) (w' : World) : Prop := ∃ k l', e = .returned (.int .i64 k) ∧ PutRel lm xs k l' ∧ Pt W p m l l' w'
theorem pu19 {W w : World} {p m : Nat} {l lm : List Rw} (h : Pt W p m l lm w) (B : Option Addr) (n d : Nat) (xs : List Rw) (hl : lm.length ≤ 400) (hr : Rises lm) (hn : xs.length = n) (hn0 : 0 < n) (hn6 : n ≤ 2000) (hx : RowsIn w B xs) :
    Calls Tryz.prog 19 #[.pointer (some ⟨m, 0, none⟩), .slice B n d] w (Pu19 W p m l lm xs) := by
  obtain ⟨Ap, cp, Am, nm, cm, h1, h2, h3, h4, h5⟩ := h.ex
  refine (rPut_f m Am nm cm lm B n d xs w h2 (by have := h2.len; omega) hr hn hn6 hx).mono fun e w' hh => ?_
  have hpl := h1.lt
  have hml := h2.lt
  have key : ∀ (k : K2 m none w w'), TabAt p Ap l.length cp l w' := fun k => h1.same (k.block p hpl h.pm (fun e => by cases e)) (fun a e => k.block _ (h1.own.lt' a e).2 (h3 a e) (fun e => by cases e))
  rcases hh with ⟨q, he, ho⟩ | ⟨q, l', hla, ⟨q2, he, ho⟩ | ⟨q2, he, ⟨A', n', c', ht, ha, hown⟩, hg⟩⟩
  · exact ⟨2, lm, he, .inl ⟨q, rfl, rfl⟩, h.ok' ho⟩
  · exact ⟨8, lm, he, .inr ⟨q, l', hla, .inl ⟨q2, rfl, rfl⟩⟩, h.ok' ho⟩
  · have how := hown (by omega)
    have hf : ∀ a, A' = some a → w.heap.size ≤ a.block := fun a e => (how.lt' a e).1
    refine ⟨0, l', he, .inr ⟨q, l', hla, .inr ⟨q2, rfl, rfl⟩⟩, ⟨Ap, cp, A', n', c', key hg, ht, h3, fun a e => ⟨by have := hf a e; omega, fun a' e' => by have := hf a e; have := (h1.own.lt' a' e').2; omega⟩, .inr (how.mono h.ok.size)⟩, h.pm, h.hp, h.hm, k2_okW h.ok h.hm hg⟩
/-- A table that is none: no pointer, or one that was not made. -/
def NoneV (v : Value) (w : World) : Prop := v = .pointer none ∨ ∃ q, v = .pointer (some ⟨q, 0, none⟩) ∧ w.cell? ⟨q, 1, none⟩ = some (.bool false)
theorem NoneV.ok {v : Value} {w w' : World} (h : NoneV v w) (k : Ok w w') : NoneV v w' := h.imp id fun ⟨q, e, hc⟩ => ⟨q, e, k.cell hc⟩
set_option maxRecDepth 100000 in
theorem nn25 (v : Value) (w : World) (h : NoneV v w) : Calls Tryz.prog 25 #[v] w (Ret w (.bool true)) := by
  rcases h with rfl | ⟨q, rfl, c1⟩
  · go_enter Tryz.func25, Tryz.ntmps25
    go_wp2_with fail
    go_ret
    exact ⟨rfl, Ok.refl _⟩
  · go_enter Tryz.func25, Tryz.ntmps25
    go_wp2_with fail
    go_ret
    exact ⟨rfl, Ok.refl _⟩
set_option maxRecDepth 100000 in
theorem nn_get (v : Value) (t : Str) (w : World) (h : NoneV v w) : Calls Tryz.prog 13 #[v, .string t] w (Ret w (.tuple #[.string ⟨#[]⟩, .bool false])) := by
  have hno : ∀ V, Ok w V → Calls Tryz.prog 25 #[v] V (Ret V (.bool true)) := fun V k => nn25 v V (h.ok k)
  clear h
  go_enter Tryz.func13, Tryz.ntmps13
  go_wp2_with fail
  (with_reducible refine (hno _ (Ok.refl w)).mono ?_)
  clear hno
  rintro _ w1 ⟨rfl, o1⟩
  go_wp2_with fail
  refine bodyPost_ret (by simp [results, Tryz.results13, go_sem]; try rfl) rfl ?_
  exact ⟨rfl, o1⟩
set_option maxRecDepth 100000 in
theorem nn_copy (v : Value) (w : World) (h : NoneV v w) : Calls Tryz.prog 9 #[v] w (Ret w (.pointer none)) := by
  have hno : ∀ V, Ok w V → Calls Tryz.prog 25 #[v] V (Ret V (.bool true)) := fun V k => nn25 v V (h.ok k)
  clear h
  go_enter Tryz.func9, Tryz.ntmps9
  go_wp2_with fail
  (with_reducible refine (hno _ (Ok.refl w)).mono ?_)
  clear hno
  rintro _ w1 ⟨rfl, o1⟩
  go_wp2_with fail
  go_ret
  exact ⟨rfl, o1⟩
set_option maxRecDepth 100000 in
theorem nn_many (v : Value) (w : World) (h : NoneV v w) : Calls Tryz.prog 20 #[v] w (Ret w (.int .i64 0)) := by
  have hno : ∀ V, Ok w V → Calls Tryz.prog 25 #[v] V (Ret V (.bool true)) := fun V k => nn25 v V (h.ok k)
  clear h
  go_enter Tryz.func20, Tryz.ntmps20
  go_wp2_with fail
  (with_reducible refine (hno _ (Ok.refl w)).mono ?_)
  clear hno
  rintro _ w1 ⟨rfl, o1⟩
  go_wp2_with fail
  go_ret
  exact ⟨rfl, o1⟩
set_option maxRecDepth 100000 in
theorem nn_put (v : Value) (B : Option Addr) (n d : Nat) (w : World) (h : NoneV v w) : Calls Tryz.prog 18 #[v, .slice B n d] w (Ret w (.int .i64 1)) := by
  have hno : ∀ V, Ok w V → Calls Tryz.prog 25 #[v] V (Ret V (.bool true)) := fun V k => nn25 v V (h.ok k)
  clear h
  go_enter Tryz.func18, Tryz.ntmps18
  go_wp2_with fail
  (with_reducible refine (hno _ (Ok.refl w)).mono ?_)
  clear hno
  rintro _ w1 ⟨rfl, o1⟩
  go_wp2_with fail
  go_ret
  exact ⟨rfl, o1⟩
set_option maxRecDepth 100000 in
theorem nn_in (v : Value) (a b : Str) (w : World) (h : NoneV v w) : Calls Tryz.prog 16 #[v, .agg #[.string a, .string b]] w (Ret w (.slice none 0 0)) := by
  have hno : ∀ V, Ok w V → Calls Tryz.prog 25 #[v] V (Ret V (.bool true)) := fun V k => nn25 v V (h.ok k)
  clear h
  go_enter Tryz.func16, Tryz.ntmps16
  go_wp2_with fail
  (with_reducible refine (hno _ ((Ok.refl w).alloc _)).mono ?_)
  clear hno
  rintro _ w1 ⟨rfl, o1⟩
  go_wp2_with fail
  go_ret
  exact ⟨rfl, Ok.trans ((Ok.refl w).alloc _) o1⟩
set_option maxRecDepth 100000 in
theorem nn_take (v : Value) (a b : Str) (w : World) (h : NoneV v w) : Calls Tryz.prog 21 #[v, .agg #[.string a, .string b]] w (Ret w (.slice none 0 0)) := by
  have hno : ∀ V, Ok w V → Calls Tryz.prog 25 #[v] V (Ret V (.bool true)) := fun V k => nn25 v V (h.ok k)
  clear h
  go_enter Tryz.func21, Tryz.ntmps21
  go_wp2_with fail
  (with_reducible refine (hno _ ((Ok.refl w).alloc _)).mono ?_)
  clear hno
  rintro _ w1 ⟨rfl, o1⟩
  go_wp2_with fail
  go_ret
  exact ⟨rfl, Ok.trans ((Ok.refl w).alloc _) o1⟩
theorem pt_new {W w : World} {p : Nat} (t : TabAt p none 0 0 [] w) (hp : W.heap.size ≤ p) (o : Ok W w) : Pt W p w.heap.size [] [] (w.alloc (.cells #[.slice none 0 0] 31)) := by
  have oa : Ok w (w.alloc (.cells #[.slice none 0 0] 31)) := (Ok.refl w).alloc _
  have hl := t.lt
  exact ⟨⟨none, 0, none, 0, 0, t.ok oa, rfA_new w, fun a e => (by cases e), fun a e => (by cases e), .inl ⟨rfl, rfl⟩⟩, by omega, hp, o.size, o.trans oa⟩
/-- All the calls on the 401 rows. -/
structure PtH (W : World) (p m g c : Nat) : Prop where
  a18 : ∀ V, Pt W p m [] [] V → Calls Tryz.prog 18 #[.pointer (some ⟨p, 0, none⟩), .slice (some ⟨g, 0, none⟩) 401 c] V (fun e w' => e = .returned (.int .i64 8) ∧ Pt W p m [] [] w')
  a19 : ∀ V, Pt W p m [] [] V → Calls Tryz.prog 19 #[.pointer (some ⟨m, 0, none⟩), .slice (some ⟨g, 0, none⟩) 401 c] V (fun e w' => e = .returned (.int .i64 8) ∧ Pt W p m [] [] w')
  b18 : ∀ V d, Pt W p m [] [] V → Calls Tryz.prog 18 #[.pointer (some ⟨p, 0, none⟩), .slice (some ⟨g, 2, none⟩) 400 d] V (fun e w' => e = .returned (.int .i64 0) ∧ Pt W p m aK [] w')
  b19 : ∀ V d, Pt W p m aK [] V → Calls Tryz.prog 19 #[.pointer (some ⟨m, 0, none⟩), .slice (some ⟨g, 2, none⟩) 400 d] V (fun e w' => e = .returned (.int .i64 0) ∧ Pt W p m aK aK w')
  c18 : ∀ V d, Pt W p m aK aK V → Calls Tryz.prog 18 #[.pointer (some ⟨p, 0, none⟩), .slice (some ⟨g, 0, none⟩) 1 d] V (fun e w' => e = .returned (.int .i64 8) ∧ Pt W p m aK aK w')
  c19 : ∀ V d, Pt W p m aK aK V → Calls Tryz.prog 19 #[.pointer (some ⟨m, 0, none⟩), .slice (some ⟨g, 0, none⟩) 1 d] V (fun e w' => e = .returned (.int .i64 8) ∧ Pt W p m aK aK w')
  d18 : ∀ V d, Pt W p m aK aK V → Calls Tryz.prog 18 #[.pointer (some ⟨p, 0, none⟩), .slice (some ⟨g, 10, none⟩) 4 d] V (fun e w' => e = .returned (.int .i64 0) ∧ Pt W p m aK aK w')
  d19 : ∀ V d, Pt W p m aK aK V → Calls Tryz.prog 19 #[.pointer (some ⟨m, 0, none⟩), .slice (some ⟨g, 10, none⟩) 4 d] V (fun e w' => e = .returned (.int .i64 0) ∧ Pt W p m aK aK w')
  e12 : ∀ V, Pt W p m aK aK V → Calls Tryz.prog 12 #[.pointer (some ⟨p, 0, none⟩), .pointer (some ⟨m, 0, none⟩)] V (fun e w' => e = .returned (.bool true) ∧ Pt W p m aK aK w')
  e20 : ∀ V, Pt W p m aK aK V → Calls Tryz.prog 20 #[.pointer (some ⟨p, 0, none⟩)] V (fun e w' => e = .returned (.int .i64 400) ∧ Pt W p m aK aK w')
theorem ptH (W : World) (p m g c : Nat) (h : RowsIn W (some ⟨g, 0, none⟩) (rowsK 401)) : PtH W p m g c := by
  have la : aK.length ≤ 400 := by rw [aK_len]; exact Nat.le_refl _
  refine ⟨fun V t => ?_, fun V t => ?_, fun V d t => ?_, fun V d t => ?_, fun V d t => ?_, fun V d t => ?_, fun V d t => ?_, fun V d t => ?_, fun V t => ?_, fun V t => ?_⟩
  · refine (pu18 t (some ⟨g, 0, none⟩) 401 c (rowsK 401) (Nat.zero_le _) rises_nil (rowsK_len 401) (by decide) (h.ok t.ok)).mono fun e w' hh => ?_
    obtain ⟨k, l', he, hr, ht⟩ := hh
    obtain ⟨rfl, rfl⟩ := put_one hr
    exact ⟨he, ht⟩
  · refine (pu19 t (some ⟨g, 0, none⟩) 401 c (rowsK 401) (Nat.zero_le _) rises_nil (rowsK_len 401) (by decide) (by decide) (h.ok t.ok)).mono fun e w' hh => ?_
    obtain ⟨k, l', he, hr, ht⟩ := hh
    obtain ⟨rfl, rfl⟩ := put_one hr
    exact ⟨he, ht⟩
  · refine (pu18 t (some ⟨g, 2, none⟩) 400 d aK (Nat.zero_le _) rises_nil aK_len (by decide) (aK_drop (h.ok t.ok))).mono fun e w' hh => ?_
    obtain ⟨k, l', he, hr, ht⟩ := hh
    obtain ⟨rfl, rfl⟩ := put_two hr
    exact ⟨he, ht⟩
  · refine (pu19 t (some ⟨g, 2, none⟩) 400 d aK (Nat.zero_le _) rises_nil aK_len (by decide) (by decide) (aK_drop (h.ok t.ok))).mono fun e w' hh => ?_
    obtain ⟨k, l', he, hr, ht⟩ := hh
    obtain ⟨rfl, rfl⟩ := put_two hr
    exact ⟨he, ht⟩
  · refine (pu18 t (some ⟨g, 0, none⟩) 1 d bK la aK_rises bK_len (by decide) (aK_first (h.ok t.ok))).mono fun e w' hh => ?_
    obtain ⟨k, l', he, hr, ht⟩ := hh
    obtain ⟨rfl, rfl⟩ := put_three hr
    exact ⟨he, ht⟩
  · refine (pu19 t (some ⟨g, 0, none⟩) 1 d bK la aK_rises bK_len (by decide) (by decide) (aK_first (h.ok t.ok))).mono fun e w' hh => ?_
    obtain ⟨k, l', he, hr, ht⟩ := hh
    obtain ⟨rfl, rfl⟩ := put_three hr
    exact ⟨he, ht⟩
  · refine (pu18 t (some ⟨g, 10, none⟩) 4 d dK la aK_rises dK_len (by decide) (aK_mid (h.ok t.ok))).mono fun e w' hh => ?_
    obtain ⟨k, l', he, hr, ht⟩ := hh
    obtain ⟨rfl, rfl⟩ := put_four hr
    exact ⟨he, ht⟩
  · refine (pu19 t (some ⟨g, 10, none⟩) 4 d dK la aK_rises dK_len (by decide) (by decide) (aK_mid (h.ok t.ok))).mono fun e w' hh => ?_
    obtain ⟨k, l', he, hr, ht⟩ := hh
    obtain ⟨rfl, rfl⟩ := put_four hr
    exact ⟨he, ht⟩
  · refine (same12_f _ p m aK V (t.sd aK_rises aK_right la)).mono fun e w' hh => ?_
    exact ⟨hh.1, t.ok' hh.2⟩
  · obtain ⟨Ap, cp, Am, nm, cm, h1, _⟩ := t.ex
    refine (many50 p Ap aK.length cp aK V h1).mono fun e w' hh => ?_
    rw [aK_len] at hh
    exact ⟨hh.1, t.ok' hh.2⟩
end Go.Proofs.YtebhcadolnjplaaGreat
namespace Go.Proofs.YtebhcadolnjplaaGreat
open Go.RowKit

def lgS : Str := ⟨#[97, 98, 99, 100, 101, 102, 103, 104, 105, 106, 107, 108, 109, 110, 111, 112, 113, 114, 115, 116]⟩
def lguS : Str := ⟨#[97, 98, 99, 100, 101, 102, 103, 104, 105, 106, 107, 108, 109, 110, 111, 112, 113, 114, 115, 116, 117]⟩
def oddK : List Str := [⟨#[]⟩, ⟨#[97]⟩, ⟨#[48]⟩, ⟨#[122, 57]⟩, lgS, lguS, ⟨#[65]⟩, ⟨#[97, 32, 98]⟩, ⟨#[97, 0]⟩, ⟨#[123]⟩, ⟨#[47]⟩, ⟨#[58]⟩]
def spK : List Sp := [⟨⟨#[]⟩, ⟨#[]⟩⟩, ⟨⟨#[97]⟩, ⟨#[]⟩⟩, ⟨⟨#[]⟩, ⟨#[97]⟩⟩, ⟨⟨#[97]⟩, ⟨#[98]⟩⟩, ⟨⟨#[98]⟩, ⟨#[97]⟩⟩, ⟨⟨#[97]⟩, ⟨#[97]⟩⟩, ⟨⟨#[65]⟩, ⟨#[]⟩⟩, ⟨lgS, lguS⟩, ⟨⟨#[122, 57]⟩, ⟨#[122, 57, 48]⟩⟩, ⟨⟨#[]⟩, lgS⟩]
def oddA (j : Nat) : Str := oddK.getD j ⟨#[]⟩
def spA (j : Nat) : Sp := spK.getD j allS
theorem odd_small (j : Nat) (h : j < 12) : (oddA j).size ≤ 10000 := by
  have : ((List.range 12).all fun j => decide ((oddA j).size ≤ 10000)) = true := by kernel_rfl
  exact of_decide_eq_true (List.all_eq_true.1 this j (List.mem_range.2 h))
theorem sp_small (j : Nat) (h : j < 10) : (spA j).lo.size ≤ 10000 ∧ (spA j).hi.size ≤ 10000 := by
  have : ((List.range 10).all fun j => decide ((spA j).lo.size ≤ 10000 ∧ (spA j).hi.size ≤ 10000)) = true := by kernel_rfl
  exact of_decide_eq_true (List.all_eq_true.1 this j (List.mem_range.2 h))
def spCells (l : List Sp) : List Value := l.flatMap fun s => [.string s.lo, .string s.hi]
theorem cell_at {w : World} {b ty : Nat} {cs : Array Value} {fz : Nat × Nat} (h : w.heap[b]? = some (.cells cs ty fz)) (i : Nat) : w.cell? ⟨b, i, none⟩ = cs[i]? := by
  simp [World.cell?, h]
/-- What stays through the law: the keys and the spans. -/
structure Lst (a b : Nat) (w : World) : Prop where
  odd : ∀ j, j < 12 → w.cell? ⟨a, j, none⟩ = some (.string (oddA j))
  lo : ∀ j, j < 10 → w.cell? ⟨b, j * 2, none⟩ = some (.string (spA j).lo)
  hi : ∀ j, j < 10 → w.cell? ⟨b, j * 2 + 1, none⟩ = some (.string (spA j).hi)
theorem Lst.ok {a b : Nat} {w w' : World} (h : Lst a b w) (k : Ok w w') : Lst a b w' := ⟨fun j hj => k.cell (h.odd j hj), fun j hj => k.cell (h.lo j hj), fun j hj => k.cell (h.hi j hj)⟩
theorem Lst.keys {a b : Nat} {w : World} (h : Lst a b w) : KeysIn w (some ⟨a, 0, none⟩) oddK := fun j hj => ⟨a, 0, rfl, by rw [Nat.zero_add]; exact h.odd j hj⟩
theorem odd_new (w : World) (cs : Array Value) (t : TypeId) (e : cs = (oddK.map Value.string).toArray) : ∀ j, j < 12 → (w.alloc (.cells cs t)).cell? ⟨w.heap.size, j, none⟩ = some (.string (oddA j)) := fun j hj => by
  rw [cell_at (heap_alloc_new w _), e]
  simp only [List.getElem?_toArray, List.getElem?_map, oddA, List.getD_eq_getElem?_getD]
  rw [List.getElem?_eq_getElem (show j < oddK.length from hj)]
  rfl
theorem sp_new (w : World) (cs : Array Value) (t : TypeId) (e : cs = (spCells spK).toArray) : ∀ j, j < 10 → (w.alloc (.cells cs t)).cell? ⟨w.heap.size, j * 2, none⟩ = some (.string (spA j).lo) ∧ (w.alloc (.cells cs t)).cell? ⟨w.heap.size, j * 2 + 1, none⟩ = some (.string (spA j).hi) := fun j hj => by
  have H : ∀ i, (w.alloc (.cells cs t)).cell? ⟨w.heap.size, i, none⟩ = (spCells spK).toArray[i]? := fun i => by rw [cell_at (heap_alloc_new w _), e]
  rw [H, H]
  match j, hj with
  | 0, _ => exact ⟨rfl, rfl⟩
  | 1, _ => exact ⟨rfl, rfl⟩
  | 2, _ => exact ⟨rfl, rfl⟩
  | 3, _ => exact ⟨rfl, rfl⟩
  | 4, _ => exact ⟨rfl, rfl⟩
  | 5, _ => exact ⟨rfl, rfl⟩
  | 6, _ => exact ⟨rfl, rfl⟩
  | 7, _ => exact ⟨rfl, rfl⟩
  | 8, _ => exact ⟨rfl, rfl⟩
  | 9, _ => exact ⟨rfl, rfl⟩
structure DdOk (w : World) (d : Dd) : Prop where
  len : d.rows.length = d.n
  n6 : d.n ≤ 17592186044416
  rows : RowsIn w d.A d.rows
  sz : RowsSz d.rows
  lo : d.sp.lo.size ≤ 140737488355328
  hi : d.sp.hi.size ≤ 140737488355328
theorem DdOk.at {w : World} {d : Dd} {b o : Nat} (h : DdOk w d) (c0 : w.cell? ⟨b, o, none⟩ = some (.int .i64 d.kind)) (c1 : w.cell? ⟨b, o + 1, none⟩ = some (.slice d.A d.n d.c)) (c2 : w.cell? ⟨b, o + 2, none⟩ = some (.string d.sp.lo)) (c3 : w.cell? ⟨b, o + 3, none⟩ = some (.string d.sp.hi)) : DdAt w b o d :=
  ⟨c0, c1, c2, c3, h.len, h.n6, h.rows, h.sz, h.lo, h.hi⟩
def ddC (d : Dd) : List Value := [.int .i64 d.kind, .slice d.A d.n d.c, .string d.sp.lo, .string d.sp.hi]
theorem deeds_four {w : World} {b : Nat} {d0 d1 d2 d3 : Dd} (h : w.heap[b]? = some (.cells (ddC d0 ++ ddC d1 ++ ddC d2 ++ ddC d3).toArray 38 (0, 0))) (h0 : DdOk w d0) (h1 : DdOk w d1) (h2 : DdOk w d2) (h3 : DdOk w d3) : DeedsIn w (some ⟨b, 0, none⟩) [d0, d1, d2, d3] := fun j hj => by
  have H := cell_at h
  have hj4 : j < 4 := hj
  match j, hj4 with
  | 0, _ => exact ⟨b, 0, rfl, h0.at ((H _).trans rfl) ((H _).trans rfl) ((H _).trans rfl) ((H _).trans rfl)⟩
  | 1, _ => exact ⟨b, 0, rfl, h1.at ((H _).trans rfl) ((H _).trans rfl) ((H _).trans rfl) ((H _).trans rfl)⟩
  | 2, _ => exact ⟨b, 0, rfl, h2.at ((H _).trans rfl) ((H _).trans rfl) ((H _).trans rfl) ((H _).trans rfl)⟩
  | 3, _ => exact ⟨b, 0, rfl, h3.at ((H _).trans rfl) ((H _).trans rfl) ((H _).trans rfl) ((H _).trans rfl)⟩
theorem deeds_one {w : World} {b : Nat} {d0 : Dd} (h : w.heap[b]? = some (.cells (ddC d0).toArray 38 (0, 0))) (h0 : DdOk w d0) : DeedsIn w (some ⟨b, 0, none⟩) [d0] := fun j hj => by
  have H := cell_at h
  have hj4 : j < 1 := hj
  match j, hj4 with
  | 0, _ => exact ⟨b, 0, rfl, h0.at ((H _).trans rfl) ((H _).trans rfl) ((H _).trans rfl) ((H _).trans rfl)⟩
/-- Four deeds stand. -/
def Dl (W : World) (v : Value) (w : World) : Prop := ∃ D l, v = .slice (some ⟨D, 0, none⟩) 4 4 ∧ l.length = 4 ∧ DeedsIn w (some ⟨D, 0, none⟩) l ∧ DeedsNil l ∧ Ok W w
def X8 : Obj := .cells #[.string ⟨#[97]⟩, .string ⟨#[49]⟩, .string ⟨#[122, 57]⟩, .string ⟨#[]⟩, .string ⟨#[97, 98]⟩, .string ⟨#[]⟩, .string ⟨#[48]⟩, .string ⟨#[]⟩] 48
def Y4 (zi zk : Str) : Obj := .cells #[.string ⟨#[98]⟩, .string ⟨#[]⟩, .string zi, .string zk] 48
def Z16 (a b : Nat) (lo hi zi zk : Str) : Obj := .cells #[.int .i64 0, .slice (some ⟨a, 0, none⟩) 4 4, .string ⟨#[]⟩, .string ⟨#[]⟩, .int .i64 0, .slice (some ⟨b, 0, none⟩) 2 2, .string ⟨#[]⟩, .string ⟨#[]⟩, .int .i64 4, .slice none 0 0, .string lo, .string hi, .int .i64 3, .slice none 0 0, .string zi, .string zk] 38
theorem rowsIn_four (w : World) (b : Nat) (r0 r1 r2 r3 : Rw) (h : w.heap[b]? = some (.cells #[.string r0.key, .string r0.val, .string r1.key, .string r1.val, .string r2.key, .string r2.val, .string r3.key, .string r3.val] 48 (0, 0))) : RowsIn w (some ⟨b, 0, none⟩) [r0, r1, r2, r3] := fun j hj => by
  have H := cell_at h
  have hj4 : j < 4 := hj
  match j, hj4 with
  | 0, _ => exact ⟨b, 0, rfl, (H _).trans rfl, (H _).trans rfl⟩
  | 1, _ => exact ⟨b, 0, rfl, (H _).trans rfl, (H _).trans rfl⟩
  | 2, _ => exact ⟨b, 0, rfl, (H _).trans rfl, (H _).trans rfl⟩
  | 3, _ => exact ⟨b, 0, rfl, (H _).trans rfl, (H _).trans rfl⟩
theorem rowsSz_all {l : List Rw} (h : ∀ r, r ∈ l → r.key.size ≤ 10000 ∧ r.val.size ≤ 10000) : RowsSz l := fun j hj => by
  have := h _ (rwA_mem l j hj)
  omega
theorem dl_core (W w : World) (a b : Nat) (lo hi zi zk : Str) (o : Ok W w) (hx : w.heap[a]? = some X8) (hy : w.heap[b]? = some (Y4 zi zk)) (hi1 : zi.size ≤ 10000) (hk1 : zk.size ≤ 10000) (hl1 : lo.size ≤ 10000) (hh1 : hi.size ≤ 10000) :
    Dl W (.slice (some ⟨w.heap.size, 0, none⟩) 4 4) (w.alloc (Z16 a b lo hi zi zk)) := by
  have ok : Ok w (w.alloc (Z16 a b lo hi zi zk)) := (Ok.refl w).alloc _
  have r1 := (rowsIn_four w a ⟨⟨#[97]⟩, ⟨#[49]⟩⟩ ⟨⟨#[122, 57]⟩, ⟨#[]⟩⟩ ⟨⟨#[97, 98]⟩, ⟨#[]⟩⟩ ⟨⟨#[48]⟩, ⟨#[]⟩⟩ hx).ok ok
  have r2 := (rowsIn_two w b ⟨⟨#[98]⟩, ⟨#[]⟩⟩ ⟨zi, zk⟩ hy).ok ok
  have hn : ∀ (s : Str), s.size ≤ 10000 → s.size ≤ 140737488355328 := fun s h => by omega
  have s1 : ∀ s : Str, s ∈ ([⟨#[97]⟩, ⟨#[49]⟩, ⟨#[122, 57]⟩, ⟨#[]⟩, ⟨#[97, 98]⟩, ⟨#[48]⟩, ⟨#[98]⟩] : List Str) → s.size ≤ 10000 := fun s h => by
    have hall : (([⟨#[97]⟩, ⟨#[49]⟩, ⟨#[122, 57]⟩, ⟨#[]⟩, ⟨#[97, 98]⟩, ⟨#[48]⟩, ⟨#[98]⟩] : List Str).all fun s => decide (s.size ≤ 10000)) = true := by kernel_rfl
    exact of_decide_eq_true (List.all_eq_true.1 hall s h)
  refine ⟨w.heap.size, [⟨0, some ⟨a, 0, none⟩, 4, 4, [⟨⟨#[97]⟩, ⟨#[49]⟩⟩, ⟨⟨#[122, 57]⟩, ⟨#[]⟩⟩, ⟨⟨#[97, 98]⟩, ⟨#[]⟩⟩, ⟨⟨#[48]⟩, ⟨#[]⟩⟩], ⟨⟨#[]⟩, ⟨#[]⟩⟩⟩, ⟨0, some ⟨b, 0, none⟩, 2, 2, [⟨⟨#[98]⟩, ⟨#[]⟩⟩, ⟨zi, zk⟩], ⟨⟨#[]⟩, ⟨#[]⟩⟩⟩, ⟨4, none, 0, 0, [], ⟨lo, hi⟩⟩, ⟨3, none, 0, 0, [], ⟨zi, zk⟩⟩], rfl, rfl, deeds_four (heap_alloc_new w _) ⟨rfl, (by decide : (4 : Nat) ≤ 17592186044416), r1, rowsSz_all fun r hr => ?_, Nat.zero_le _, Nat.zero_le _⟩ ⟨rfl, (by decide : (2 : Nat) ≤ 17592186044416), r2, rowsSz_all fun r hr => ?_, Nat.zero_le _, Nat.zero_le _⟩ ⟨rfl, Nat.zero_le _, fun j hj => absurd hj (Nat.not_lt_zero _), fun j hj => absurd hj (Nat.not_lt_zero _), hn _ hl1, hn _ hh1⟩ ⟨rfl, Nat.zero_le _, fun j hj => absurd hj (Nat.not_lt_zero _), fun j hj => absurd hj (Nat.not_lt_zero _), hn _ hi1, hn _ hk1⟩, fun j hj => ?_, o.trans ok⟩
  · simp only [List.mem_cons, List.not_mem_nil, or_false] at hr
    rcases hr with rfl | rfl | rfl | rfl <;> exact ⟨s1 _ (by simp), s1 _ (by simp)⟩
  · simp only [List.mem_cons, List.not_mem_nil, or_false] at hr
    rcases hr with rfl | rfl
    · exact ⟨s1 _ (by simp), s1 _ (by simp)⟩
    · exact ⟨hi1, hk1⟩
  · have hj4 : j < 4 := hj
    match j, hj4 with
    | 0, _ => intro e; cases e
    | 1, _ => intro e; cases e
    | 2, _ => intro _; rfl
    | 3, _ => intro _; rfl
theorem dl_a (W w : World) (lo hi zi zk : Str) (o : Ok W w) (hi1 : zi.size ≤ 10000) (hk1 : zk.size ≤ 10000) (hl1 : lo.size ≤ 10000) (hh1 : hi.size ≤ 10000) :
    Dl W (.slice (some ⟨((w.alloc X8).alloc (Y4 zi zk)).heap.size, 0, none⟩) 4 4) (((w.alloc X8).alloc (Y4 zi zk)).alloc (Z16 w.heap.size (w.alloc X8).heap.size lo hi zi zk)) :=
  dl_core W _ _ _ lo hi zi zk ((o.alloc _).alloc _) (by
    rw [((Ok.refl (w.alloc X8)).alloc (Y4 zi zk)).block _ (by rw [World.size_alloc]; omega)]
    exact heap_alloc_new w _) (heap_alloc_new _ _) hi1 hk1 hl1 hh1
theorem dl_b (W w : World) (lo hi zi zk : Str) (o : Ok W w) (hi1 : zi.size ≤ 10000) (hk1 : zk.size ≤ 10000) (hl1 : lo.size ≤ 10000) (hh1 : hi.size ≤ 10000) :
    Dl W (.slice (some ⟨((w.alloc (Y4 zi zk)).alloc X8).heap.size, 0, none⟩) 4 4) (((w.alloc (Y4 zi zk)).alloc X8).alloc (Z16 (w.alloc (Y4 zi zk)).heap.size w.heap.size lo hi zi zk)) :=
  dl_core W _ _ _ lo hi zi zk ((o.alloc _).alloc _) (heap_alloc_new _ _) (by
    rw [((Ok.refl (w.alloc (Y4 zi zk))).alloc X8).block _ (by rw [World.size_alloc]; omega)]
    exact heap_alloc_new w _) hi1 hk1 hl1 hh1
theorem Dl.drew {W w : World} {v : Value} (h : Dl W v w) : Dl W v w.drew := by
  obtain ⟨D, l, e, h1, h2, h3, h4⟩ := h
  exact ⟨D, l, e, h1, h2.ok ((Ok.refl w).drew), h3, h4.drew⟩
theorem dl_a2 (w : World) (lo hi zi zk : Str) (hi1 : zi.size ≤ 10000) (hk1 : zk.size ≤ 10000) (hl1 : lo.size ≤ 10000) (hh1 : hi.size ≤ 10000) :
    Dl w (.slice (some ⟨w.heap.size + 1 + 1, 0, none⟩) 4 4) (((w.alloc X8).alloc (Y4 zi zk)).alloc (Z16 w.heap.size (w.heap.size + 1) lo hi zi zk)).drew := by
  have h := (dl_a w w lo hi zi zk (Ok.refl w) hi1 hk1 hl1 hh1).drew
  simp only [World.size_alloc] at h
  exact h
theorem dl_b2 (w : World) (lo hi zi zk : Str) (hi1 : zi.size ≤ 10000) (hk1 : zk.size ≤ 10000) (hl1 : lo.size ≤ 10000) (hh1 : hi.size ≤ 10000) :
    Dl w (.slice (some ⟨w.heap.size + 1 + 1, 0, none⟩) 4 4) (((w.alloc (Y4 zi zk)).alloc X8).alloc (Z16 (w.heap.size + 1) w.heap.size lo hi zi zk)).drew := by
  have h := (dl_b w w lo hi zi zk (Ok.refl w) hi1 hk1 hl1 hh1).drew
  simp only [World.size_alloc] at h
  exact h
/-- The law RowsRuns at deeds of one's own. -/
theorem runs_own {W w w' : World} {v : Value} (h : Dl W v w) (a b : Nat) (hl : Lst a b w) (i : Int) (zk zi : Str) (hi1 : zi.size ≤ 10000) (hk1 : zk.size ≤ 10000) (z : Nat) (ok : Ok w w') (hz : w'.heap[z]? = some (.cells #[.int .i64 4, .slice none 0 0, .string zk, .string zi] 38 (0, 0))) :
    Calls Tryz.prog 3 #[v, .int .i64 i, .slice (some ⟨z, 0, none⟩) 1 1, .slice (some ⟨a, 0, none⟩) 12 12] w' (Ret w' (.bool true)) := by
  obtain ⟨D, l, rfl, hl4, hd, hn, ho⟩ := h
  refine runs_law (some ⟨D, 0, none⟩) 4 4 l hl4 (by decide) i (some ⟨z, 0, none⟩) 1 1 [⟨4, none, 0, 0, [], ⟨zk, zi⟩⟩] rfl (by decide) (some ⟨a, 0, none⟩) 12 12 oddK rfl _ (hd.ok ok) (deeds_one hz ⟨rfl, Nat.zero_le _, fun j hj => absurd hj (Nat.not_lt_zero _), fun j hj => absurd hj (Nat.not_lt_zero _), by show zk.size ≤ _; omega, by show zi.size ≤ _; omega⟩) hn (fun j hj => ?_) (hl.ok ok).keys
  have hj1 : j < 1 := hj
  match j, hj1 with
  | 0, _ => intro _; rfl
theorem bytes_own (w : World) (zi zk : Str) (hi1 : zi.size ≤ 10000) (hk1 : zk.size ≤ 10000) (z : Nat) (hz : w.heap[z]? = some (.cells #[.string zi, .string zk] 48 (0, 0))) :
    Calls Tryz.prog 17 #[.slice (some ⟨z, 0, none⟩) 1 1, .slice none 0 0] w (Ret w (.bool true)) :=
  bytes_law (some ⟨z, 0, none⟩) 1 1 [⟨zi, zk⟩] rfl (by decide) none 0 0 [] _ (RowsIn.one _ _ ⟨zi, zk⟩ hz) (rowsSz_all fun r hr => by
    simp only [List.mem_cons, List.not_mem_nil, or_false] at hr
    subst hr
    exact ⟨hi1, hk1⟩) (fun e => by cases e) rfl (BytesIn.nil _)
theorem drew_new (w : World) (o : Obj) : (w.alloc o).drew.heap[w.heap.size]? = some o := heap_alloc_new w o
def OddP (W : World) (v : Value) (wx : World) : Prop := ∃ a, v = .slice (some ⟨a, 0, none⟩) 12 12 ∧ (∀ j, j < 12 → wx.cell? ⟨a, j, none⟩ = some (.string (oddA j))) ∧ Ok W wx
theorem oddP_new (W : World) (cs : Array Value) (t : TypeId) (e : cs = (oddK.map Value.string).toArray) : OddP W (.slice (some ⟨W.heap.size, 0, none⟩) 12 12) (W.alloc (.cells cs t)) :=
  ⟨_, rfl, odd_new W cs t e, (Ok.refl W).alloc _⟩
def SpP (W : World) (a : Nat) (v : Value) (wx : World) : Prop := ∃ b, v = .slice (some ⟨b, 0, none⟩) 10 10 ∧ Lst a b wx ∧ Ok W wx
theorem spP_new (W w : World) (a : Nat) (ho : ∀ j, j < 12 → w.cell? ⟨a, j, none⟩ = some (.string (oddA j))) (o : Ok W w) (cs : Array Value) (t : TypeId) (e : cs = (spCells spK).toArray) : SpP W a (.slice (some ⟨w.heap.size, 0, none⟩) 10 10) (w.alloc (.cells cs t)) :=
  ⟨_, rfl, ⟨fun j hj => ((Ok.refl w).alloc _).cell (ho j hj), fun j hj => (sp_new w cs t e j hj).1, fun j hj => (sp_new w cs t e j hj).2⟩, o.alloc _⟩
theorem k3_at (a b c : UInt8) (j : Nat) (hj : j < 3) : (#[Value.int .u8 (a.toNat : Int), .int .u8 (b.toNat : Int), .int .u8 (c.toNat : Int)] : Array Value)[j]? = some (Value.int .u8 ((([a, b, c] : List UInt8).getD j 0).toNat : Int)) := by
  match j, hj with
  | 0, _ => rfl
  | 1, _ => rfl
  | 2, _ => rfl
set_option maxRecDepth 100000 in
theorem k3_cv (w : World) (a b c : UInt8) : (convert 50 9 (.slice (some ⟨w.heap.size, 0, none⟩) 3 3)).run Tryz.prog (w.alloc (.cells #[.int .u8 (a.toNat : Int), .int .u8 (b.toNat : Int), .int .u8 (c.toNat : Int)] 5)) = .ok (.string ⟨#[a, b, c]⟩) (w.alloc (.cells #[.int .u8 (a.toNat : Int), .int .u8 (b.toNat : Int), .int .u8 (c.toNat : Int)] 5)) := by
  have := run_convert_bytes_back (P := Tryz.prog) (w.alloc (.cells #[.int .u8 (a.toNat : Int), .int .u8 (b.toNat : Int), .int .u8 (c.toNat : Int)] 5)) 50 9 5 ⟨w.heap.size, 0, none⟩ 3 [a, b, c] Tryz.underlying50 Tryz.underlying5 Tryz.underlying9 (fun j hj => by
    have hj8 : j < 3 := hj
    rw [Addr.add_lit, World.cell?_alloc_at _ _ _ _ rfl, Nat.zero_add, k3_at a b c j hj8]
    simp [List.getD, hj8])
  exact this
theorem u8of (n : Nat) : IntKind.u8.wrap (n : Int) = ((UInt8.ofNat n).toNat : Int) := by
  rw [IntKind.wrap_u8, UInt8.toNat_ofNat']; omega
set_option maxRecDepth 100000 in
theorem kS_cv (w : World) (i : Nat) (_h : i < 401) : (convert 50 9 (.slice (some ⟨w.heap.size, 0, none⟩) 3 3)).run Tryz.prog (w.alloc (.cells #[.int .u8 (97 + (i : Int) / 26 % 26), .int .u8 (97 + (i : Int) % 26), .int .u8 (48 + (i : Int) / 676)] 5)) = .ok (.string (kS i)) (w.alloc (.cells #[.int .u8 (97 + (i : Int) / 26 % 26), .int .u8 (97 + (i : Int) % 26), .int .u8 (48 + (i : Int) / 676)] 5)) := by
  have e1 : ((UInt8.ofNat (97 + i / 26 % 26)).toNat : Int) = 97 + (i : Int) / 26 % 26 := by rw [UInt8.toNat_ofNat']; omega
  have e2 : ((UInt8.ofNat (97 + i % 26)).toNat : Int) = 97 + (i : Int) % 26 := by rw [UInt8.toNat_ofNat']; omega
  have e3 : ((UInt8.ofNat (48 + i / 676)).toNat : Int) = 48 + (i : Int) / 676 := by rw [UInt8.toNat_ofNat']; omega
  have := k3_cv w (UInt8.ofNat (97 + i / 26 % 26)) (UInt8.ofNat (97 + i % 26)) (UInt8.ofNat (48 + i / 676))
  rw [e1, e2, e3] at this
  exact this
end Go.Proofs.YtebhcadolnjplaaGreat
namespace Go.Proofs.YtebhcadolnjplaaGreat
open Go.RowKit

theorem step_appK {ops : Array Oper} {o : Oper} {a : Act} {w : World} {K : Act → World → Prop} {Q : Exit → Act → World → Prop} {E : Prop} (hw : Region.wanted o (yielded ops a.tmps) = true) (s x : Operand)
    (ho : o.op = .call { callee := .builtin .append, args := #[s, x], argTypes := #[29, 29] })
    (base : Nat) (A : Option Addr) (n c : Nat) (l : List Rw) (hs : a.eval s = .slice A n c) (hown : OwnR w base A n c l) (ad : Addr) (m d : Nat) (k : List Rw) (hk : k.length = m) (hx : a.eval x = .slice (some ad) m d)
    (hin : RowsIn w (some ad) k) (hm : 0 < m) (hn : n + m ≤ 1000000) (hbase : base ≤ w.heap.size) (N : Nat) (hN : n + m = N)
    (h : ∀ A' c' w', OwnR w' base A' N c' (l ++ k) → OwnR w' base A n c l → w.grownBy w' (Value.slice A n c).ownBlock → K (a.put o.dst (.slice A' N c')) w') :
    if Region.wanted o (yielded ops a.tmps) = true then Oper.wp Tryz.prog o a w K Q else E := by
  rw [if_pos hw]
  subst hN
  obtain ⟨i0, hi, hz0, hz1, hz2⟩ := info_parts info105
  have hin2 : ∀ j u, (flat2 k)[j]? = some u → w.cell? (ad.add j) = some u := by
    obtain ⟨b, off, e, _⟩ := hin 0 (by omega)
    simp only [Option.some.injEq] at e
    subst e
    intro j u hu
    exact hin.cell b off rfl j u hu
  obtain ⟨v', w', hr, h2, h3, _, h5⟩ := run_append_keep (P := Tryz.prog) w base 29 o.type 48 i0 (.agg #[.string ⟨#[]⟩, .string ⟨#[]⟩]) 2 32 Tryz.underlying29 hi hz0 hz1 hz2 rfl (by decide) (.slice A n c) n (flat2 l) hown.2 ad m d (flat2 k) (by rw [flat2_len, hk]) hin2 (flat2_one k) (by unfold maxLen; omega) (by omega) hbase
  have hkeep := h5 base n (.slice A n c) (flat2 l) hown.2 rfl (Nat.le_refl _)
  rw [← flat2_append] at h2
  have hv : ∃ A c, v' = .slice A (n + m) c := by
    rcases h2.2 with ⟨rfl, q⟩ | ⟨g, cap, cur, rfl, _⟩
    · exact ⟨none, 0, by rw [q]⟩
    · exact ⟨_, _, rfl⟩
  obtain ⟨A', c', rfl⟩ := hv
  unfold Oper.wp execOp
  simp only [ho, resolve, invoke, builtin, Sem.run_bind, Sem.run_pure, Result.andThen_ok, List.map_toArray, List.map_cons, List.map_nil, hs, hx, hr]
  exact h A' c' w' ⟨by rw [List.length_append, hown.1, hk], h2⟩ ⟨hown.1, hkeep⟩ h3
theorem NoneV.nil (w : World) : NoneV (.pointer none) w := Or.inl rfl
theorem NoneV.at {w : World} {q : Nat} (h : w.cell? ⟨q, 1, none⟩ = some (.bool false)) : NoneV (.pointer (some ⟨q, 0, none⟩)) w := Or.inr ⟨q, rfl, h⟩
theorem le_ok {B : Nat} {a b : World} (h : B ≤ a.heap.size) (k : Ok a b) : B ≤ b.heap.size := Nat.le_trans h (Below.size k)
def zz : Rw := ⟨⟨#[122, 122, 122, 122]⟩, ⟨#[]⟩⟩
theorem aK_key (r : Rw) (h : r ∈ aK) : r.key.size ≤ 20 ∧ r.val.size ≤ 20 := by
  have h1 := aK_right r h
  unfold rowB keyB at h1
  simp only [Bool.and_eq_true, decide_eq_true_eq] at h1
  exact ⟨h1.1.1.2, h1.2⟩
theorem aK_sz : RowsSz aK := rowsSz_all fun r hr => by have := aK_key r hr; omega
theorem aZ_small : Small (aK ++ [zz]) := fun j hj => by
  rcases List.mem_append.1 (rwA_mem _ j hj) with h | h
  · have := aK_key _ h; omega
  · rw [List.mem_singleton.1 h]
    exact ⟨by decide, by decide⟩
theorem aZ_len : (aK ++ [zz]).length = 401 := by rw [List.length_append, aK_len]; rfl
theorem app_ok {w4 w8 V wk : World} {gm m cm : Nat} {v : Value} (h8 : Ok w4 w8) (h : Ok w8 V) (hk : V.grownBy wk (Value.slice (some ⟨gm, 0, none⟩) 400 cm).ownBlock) (hg : w4.heap.size ≤ gm) (hne : gm ≠ m) (hc : w8.cell? ⟨m, 0, none⟩ = some v) : Ok w4 wk ∧ wk.cell? ⟨m, 0, none⟩ = some v := by
  have o := h8.trans h
  have e : (Value.slice (some ⟨gm, 0, none⟩) 400 cm).ownBlock = some gm := rfl
  rw [e] at hk
  refine ⟨Below.trans o (grownBy_below hk (fun b e => by cases e; exact hg) o.size), ?_⟩
  have hcV := h.cell hc
  rw [cell_eq (a := ⟨m, 0, none⟩) (hk.block m (World.block_lt_of_cell? _ _ hcV) (fun e => hne (Option.some.inj e).symm))]
  exact hcV
def BytesG (w : World) (Ab : Option Addr) (mb cb : Nat) : Prop := ∃ zs : List B8, zs.length = mb ∧ BytesIn w (.slice Ab mb cb) zs
def By22 (V : World) (e : Ending) (w' : World) : Prop := ∃ Ab mb cb, e = .returned (.slice Ab mb cb) ∧ BytesG w' Ab mb cb ∧ Ok V w'
theorem fin22 {wk V : World} {B c3 : Nat} {A3 : Option Addr} (hk1 : OwnR wk B A3 401 c3 (aK ++ [zz])) (k : Ok wk V) : Calls Tryz.prog 22 #[.slice A3 401 c3] V (By22 V) := by
  refine (rbytes_f A3 401 c3 (aK ++ [zz]) aZ_len (by decide) aZ_small V (hk1.rows.ok k)).mono fun e w' hh => ?_
  obtain ⟨A, m, c, he, hm, ho, hw⟩ := hh
  exact ⟨A, m, c, he, ⟨_, hm.symm, ho.bytes (Nat.le_trans (enc_all_len (aK ++ [zz]) aZ_small (by rw [aZ_len]; decide) 401) (by decide))⟩, hw⟩
theorem fin17 {wk wl V : World} {B gm cm mb cb : Nat} {Ab : Option Addr} (hk2 : OwnR wk B (some ⟨gm, 0, none⟩) 400 cm aK) (hg : BytesG wl Ab mb cb) (ok : Ok wk V) (k : Ok wl V) :
    Calls Tryz.prog 17 #[.slice (some ⟨gm, 0, none⟩) 400 cm, .slice Ab mb cb] V (Ret V (.bool true)) := by
  obtain ⟨zs, hl, hb⟩ := hg
  exact bytes_law (some ⟨gm, 0, none⟩) 400 cm aK aK_len (by decide) Ab mb cb zs V (hk2.rows.ok ok) aK_sz (fun e => by cases e) hl (k.bytes hb)
end Go.Proofs.YtebhcadolnjplaaGreat
