/- Names appended, at a step of a region that draws. -/
import Derived.Test.YtnjaiiifafbbjaaPo
namespace Go.Proofs.Ytnjaiiifafbbjaa
open Go.RowKit

def OkO (w w' : World) : Prop := Ok w w'
/-- A row's rest, as the walk writes its address. -/
theorem NamesAt.rest {w : World} {A : Option Addr} {xs : List Nm} (h : NamesAt w A xs) (k c : Nat) (hc : xs.length ≤ c) : NamesAt w (if c = k then A else Option.map (fun x => x.add (k * 2)) A) (xs.drop k) := fun j hj => by
  rw [List.length_drop] at hj
  obtain ⟨b, off, e, c0, c1⟩ := h (k + j) (by omega)
  have ea : atN (xs.drop k) j = atN xs (k + j) := by simp [atN]
  rw [if_neg (by omega), e]
  refine ⟨b, off + k * 2, by rw [Option.map_some, add_off], ?_, ?_⟩
  · rw [ea, ← c0]; congr 2; omega
  · rw [ea, ← c1]; congr 2; omega
theorem rest_nil {A : Option Addr} {c : Nat} (h : A = none → c = 0) (k : Nat) (e : (if c = k then A else Option.map (fun x => x.add (k * 2)) A) = none) : c - k = 0 := by
  have ha : A = none := by
    split at e
    · exact e
    · exact Option.map_eq_none_iff.1 e
  rw [h ha, Nat.zero_sub]
/-- What stands while the pasts are raised and merged. -/
structure Pg (w : World) (p q r : Nat) (A B T : Option Addr) (xs ys ts : List Nm) (fp fq fr : Nat → Int) (w' : World) : Prop where
  below : Ok w w'
  lo : w.heap.size ≤ p
  pq : p < q
  qr : q < r
  pp : PastAt w' p fp
  pq' : PastAt w' q fq
  pr : PastAt w' r fr
  na : NamesAt w' A xs
  nb : NamesAt w' B ys
  nt : NamesAt w' T ts
  ba : ∀ b off, A = some ⟨b, off, none⟩ → b < w.heap.size
  bb : ∀ b off, B = some ⟨b, off, none⟩ → b < w.heap.size
  bt : ∀ b off, T = some ⟨b, off, none⟩ → r < b
theorem Pg.ok {w w' w'' : World} {p q r : Nat} {A B T : Option Addr} {xs ys ts : List Nm} {fp fq fr : Nat → Int} (h : Pg w p q r A B T xs ys ts fp fq fr w') (k : Ok w' w'') : Pg w p q r A B T xs ys ts fp fq fr w'' :=
  ⟨Ok.trans h.below k, h.lo, h.pq, h.qr, h.pp.ok k, h.pq'.ok k, h.pr.ok k, h.na.ok k, h.nb.ok k, h.nt.ok k, h.ba, h.bb, h.bt⟩
theorem Pg.atp {w w' w'' : World} {p q r : Nat} {A B T : Option Addr} {xs ys ts : List Nm} {fp fq fr f : Nat → Int} (h : Pg w p q r A B T xs ys ts fp fq fr w') (k : Mv p w' w'') (hf : PastAt w'' p f) : Pg w p q r A B T xs ys ts f fq fr w'' := by
  obtain ⟨h1, h2, h3, h4, h5, h6, h7, h8, h9, h10, h11, h12, h13⟩ := h
  have hs : p < w'.heap.size := World.block_lt_of_cell? _ _ h5.made
  exact ⟨Below.trans h1 (k.below h2 (by omega)), h2, h3, h4, hf, k.past (by omega) h6, k.past (by omega) h7, h8.mv k (fun b o e => by have := h11 b o e; omega), h9.mv k (fun b o e => by have := h12 b o e; omega), h10.mv k (fun b o e => by have := h13 b o e; omega), h11, h12, h13⟩
theorem Pg.atq {w w' w'' : World} {p q r : Nat} {A B T : Option Addr} {xs ys ts : List Nm} {fp fq fr f : Nat → Int} (h : Pg w p q r A B T xs ys ts fp fq fr w') (k : Mv q w' w'') (hf : PastAt w'' q f) : Pg w p q r A B T xs ys ts fp f fr w'' := by
  obtain ⟨h1, h2, h3, h4, h5, h6, h7, h8, h9, h10, h11, h12, h13⟩ := h
  have hs : q < w'.heap.size := World.block_lt_of_cell? _ _ h6.made
  exact ⟨Below.trans h1 (k.below (by omega) (by omega)), h2, h3, h4, k.past (by omega) h5, hf, k.past (by omega) h7, h8.mv k (fun b o e => by have := h11 b o e; omega), h9.mv k (fun b o e => by have := h12 b o e; omega), h10.mv k (fun b o e => by have := h13 b o e; omega), h11, h12, h13⟩
theorem Pg.atr {w w' w'' : World} {p q r : Nat} {A B T : Option Addr} {xs ys ts : List Nm} {fp fq fr f : Nat → Int} (h : Pg w p q r A B T xs ys ts fp fq fr w') (k : Mv r w' w'') (hf : PastAt w'' r f) : Pg w p q r A B T xs ys ts fp fq f w'' := by
  obtain ⟨h1, h2, h3, h4, h5, h6, h7, h8, h9, h10, h11, h12, h13⟩ := h
  have hs : r < w'.heap.size := World.block_lt_of_cell? _ _ h7.made
  exact ⟨Below.trans h1 (k.below (by omega) (by omega)), h2, h3, h4, k.past (by omega) h5, k.past (by omega) h6, hf, h8.mv k (fun b o e => by have := h11 b o e; omega), h9.mv k (fun b o e => by have := h12 b o e; omega), h10.mv k (fun b o e => by have := h13 b o e; omega), h11, h12, h13⟩
theorem two_pasts (w : World) (q : Nat) (f : Nat → Int) (h : PastAt w q f) : PastsAt (w.alloc (.cells #[.pointer (some ⟨q, 0, none⟩), .pointer (some ⟨q, 0, none⟩)] 92)) (some ⟨w.heap.size, 0, none⟩) [(q, f), (q, f)] := fun j hj => by
  refine ⟨⟨w.heap.size, 0, rfl, ?_⟩, ?_⟩
  · rw [World.cell?_alloc_at _ _ _ _ rfl]
    match j, hj with
    | 0, _ => rfl
    | 1, _ => rfl
  · match j, hj with
    | 0, _ => exact h.ok (Ok.alloc (Ok.refl _) _)
    | 1, _ => exact h.ok (Ok.alloc (Ok.refl _) _)
theorem one_past (w : World) (q : Nat) (f : Nat → Int) (h : PastAt w q f) : PastsAt (w.alloc (.cells #[.pointer (some ⟨q, 0, none⟩)] 92)) (some ⟨w.heap.size, 0, none⟩) [(q, f)] := fun j hj => by
  refine ⟨⟨w.heap.size, 0, rfl, ?_⟩, ?_⟩
  · rw [World.cell?_alloc_at _ _ _ _ rfl]
    match j, hj with
    | 0, _ => rfl
  · match j, hj with
    | 0, _ => exact h.ok (Ok.alloc (Ok.refl _) _)
theorem isB_in (l : List Nm) (x : Nm) (hx : x ∈ l) (hl : allB l = true) : isB (rzs fz l) x = true := by
  have hr := List.all_eq_true.1 hl x hx
  have hr2 := hr
  simp only [nmB, clientB, Bool.and_eq_true, decide_eq_true_eq] at hr2
  have := rzs_mem l fz x (x.c - 1).toNat hx (by omega)
  simp only [isB, hr, Bool.true_and, decide_eq_true_eq]
  exact this
theorem mg_right (f g : Nat → Int) (i : Nat) : g i ≤ mg f g i := by
  simp only [mg, mxI]
  split <;> omega
theorem run_appN (w : World) (ty base : Nat) (A : Option Addr) (n c : Nat) (xs : List Nm) (hown : OwnNm w base A n c xs)
    (A2 : Option Addr) (m c2 : Nat) (ys : List Nm) (hm : ys.length = m) (hnil : A2 = none → c2 = 0) (hnews : NamesAt w A2 ys) (hlen : xs.length + m ≤ 100000) (hbase : base ≤ w.heap.size) :
    ∃ A' c' w', (Builtin.append_ #[89, 89] ty #[.slice A n c, .slice A2 m c2]).run Try.prog w = .ok (.slice A' (n + m) c') w' ∧ OwnNm w' base A' (n + m) c' (xs ++ ys) ∧ Below base w w' := by
  obtain ⟨i0, hi, hz0, hz1, hz2⟩ := info_parts info115
  obtain ⟨hown, rfl⟩ := hown
  have form : ∀ v' w', w'.ownsRow base 115 2 v' (xs.length + m) (flatN xs ++ flatN ys) → ∃ A' c', v' = .slice A' (xs.length + m) c' ∧ OwnNm w' base A' (xs.length + m) c' (xs ++ ys) := by
    intro v' w' h2
    rw [← hm, ← flatN_append, ← List.length_append] at h2
    obtain ⟨A', c', rfl⟩ : ∃ A' c', v' = .slice A' (xs.length + m) c' := by
      rcases h2.2 with ⟨rfl, h5⟩ | ⟨g', cap', cur, rfl, _⟩
      · exact ⟨none, 0, by rw [List.length_append] at h5; rw [← hm, h5]⟩
      · exact ⟨_, _, by rw [List.length_append, hm]⟩
    exact ⟨A', c', rfl, h2, by rw [List.length_append, hm]⟩
  cases A2 with
  | none =>
    obtain rfl : ys = [] := by
      cases ys with
      | nil => rfl
      | cons y ys => obtain ⟨_, _, e, _⟩ := hnews 0 (by simp); cases e
    obtain rfl : m = 0 := hm.symm
    obtain rfl := hnil rfl
    have hrun := run_append_owned_none (P := Try.prog) (w := w) base 89 ty 115 i0 2 Try.underlying89 hi (.slice A xs.length c) xs.length (flatN xs) hown
    obtain ⟨A', c', e, hO⟩ := form (.slice A xs.length c) w (by simpa [flatN] using hown)
    rw [e] at hrun
    exact ⟨A', c', w, by rw [← hrun, e], hO, Below.refl _ _⟩
  | some ad =>
    obtain ⟨v', w', hr, h2, h3, _, _⟩ := run_append_own_at (P := Try.prog) w base 89 ty 115 i0 (.agg #[.int .i64 0, .int .i64 0]) 2 16 Try.underlying89 hi hz0 hz1 hz2 rfl (by decide) (.slice A xs.length c) xs.length (flatN xs) hown ad m c2 (flatN ys) (by rw [flatN_len, hm]) hnews.inn (flatN_one ys) (by unfold maxLen; omega) (by omega) hbase
    obtain ⟨A', c', rfl, hO⟩ := form v' w' h2
    exact ⟨A', c', w', hr, hO, (Below.refl base w).grown h3 hbase (fun k hk => (World.ownsRow.lt hown k hk).1)⟩
theorem step_appN {ops : Array Oper} {o : Oper} {a : Act} {w : World} {K : Act → World → Prop} {Q : Exit → Act → World → Prop} {E : Prop} (hgd : o.guard = none) (s x : Operand)
    (ho : o.op = .call { callee := .builtin .append, args := #[s, x], argTypes := #[89, 89] })
    (base : Nat) (A : Option Addr) (n c : Nat) (xs : List Nm) (hs : a.eval s = .slice A n c) (hown : OwnNm w base A n c xs)
    (A2 : Option Addr) (m c2 : Nat) (ys : List Nm) (hx : a.eval x = .slice A2 m c2) (hm : ys.length = m) (hnil : A2 = none → c2 = 0) (hnews : NamesAt w A2 ys) (hlen : xs.length + m ≤ 100000) (hbase : base ≤ w.heap.size)
    (hk : ∀ A' n' c' w', OwnNm w' base A' n' c' (xs ++ ys) → Below base w w' → K (a.put o.dst (.slice A' n' c')) w') :
    if Region.wanted o (yielded ops a.tmps) = true then Oper.wp Try.prog o a w K Q else E := by
  have hw : Region.wanted o (yielded ops a.tmps) = true := by simp [Region.wanted, hgd]
  rw [if_pos hw]
  obtain ⟨A', c', w', hr, h2, h3⟩ := run_appN w o.type base A n c xs hown A2 m c2 ys hm hnil hnews hlen hbase
  unfold Oper.wp execOp
  simp only [ho, resolve, invoke, builtin, Sem.run_bind, Sem.run_pure, Result.andThen_ok, List.map_toArray, List.map_cons, List.map_nil, hs, hx, hr]
  exact hk A' _ c' w' h2 h3
end Go.Proofs.Ytnjaiiifafbbjaa
