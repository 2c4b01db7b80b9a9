/- Appending bytes, pieces; bytes and parts that came from elsewhere. -/
import Derived.Test.YtfchjdhjbepocaaMe
import Derived.Maps.AppendAt
namespace Go.Proofs.Ytfchjdhjbepocaa
open Go Go.RowKit

/-- The value v is a list of bytes in memory: these. -/
def BytesIn (w : World) (v : Value) (xs : List B8) : Prop :=
  (xs = [] ∧ ∃ A c, v = .slice A 0 c ∧ (A = none → c = 0)) ∨ ∃ b o c, v = .slice (some ⟨b, o, none⟩) xs.length c ∧ xs.length ≤ c ∧ xs.length ≤ 140737488351232 ∧ ∀ i, i < xs.length → w.cell? ⟨b, o + i, none⟩ = some (.int .u8 (ub (xs.getD i 0)))
theorem BytesIn.nil (w : World) : BytesIn w (.slice none 0 0) [] := .inl ⟨rfl, none, 0, rfl, fun _ => rfl⟩
theorem BytesIn.form {w : World} {v : Value} {xs : List B8} (h : BytesIn w v xs) : ∃ A c, v = .slice A xs.length c ∧ xs.length ≤ 140737488351232 := by
  rcases h with ⟨rfl, A, c, rfl, _⟩ | ⟨b, o, c, rfl, _, hm, _⟩
  · exact ⟨_, _, rfl, by simp⟩
  · exact ⟨_, _, rfl, hm⟩
theorem BytesIn.kept {w w' : World} {v : Value} {xs : List B8} (h : BytesIn w v xs) (k : xs ≠ [] → ∀ g, v.ownBlock = some g → g < w.heap.size → w'.heap[g]? = w.heap[g]?) : BytesIn w' v xs := by
  rcases h with h | ⟨b, o, c, rfl, hn, hm, hc⟩
  · exact .inl h
  · refine .inr ⟨b, o, c, rfl, hn, hm, fun i hi => ?_⟩
    have := hc i hi
    rw [World.cell?_of_block (w := w) (k (fun e => by rw [e] at hi; simp at hi) b rfl (World.block_lt_of_cell? _ _ this))]
    exact this
theorem BytesIn.ok {w w' : World} {v : Value} {xs : List B8} (h : BytesIn w v xs) (k : Ok w w') : BytesIn w' v xs := h.kept fun _ g _ hg => k.block g hg
theorem OwnN.bytes {w : World} {v : Value} {xs : List B8} (h : OwnN w v xs) (hm : xs.length ≤ 140737488351232) : BytesIn w v xs := by
  rcases h.2 with ⟨rfl, h0⟩ | ⟨g, cap, cur, rfl, _, _, hn, _⟩
  · exact .inl ⟨List.length_eq_zero_iff.1 h0, _, _, rfl, fun _ => rfl⟩
  · refine .inr ⟨g, 0, cap, rfl, hn, hm, fun i hi => ?_⟩
    rw [Nat.zero_add, World.ownsRow.cellAt h i (by omega)]
    simp [hi, bv]
/-- Bytes that lie in no block of S. -/
def Bys (S : Nat → Prop) (w : World) (v : Value) (xs : List B8) : Prop := BytesIn w v xs ∧ (xs ≠ [] → ∀ g, v.ownBlock = some g → ¬ S g)
theorem Bys.kp {S : Nat → Prop} {w w' : World} {v : Value} {xs : List B8} (h : Bys S w v xs) (k : Kp S w w') : Bys S w' v xs := ⟨h.1.kept fun hne g e hg => k.block g hg (h.2 hne g e), h.2⟩
theorem Bys.ok {S : Nat → Prop} {w w' : World} {v : Value} {xs : List B8} (h : Bys S w v xs) (k : Ok w w') : Bys S w' v xs := h.kp (Kp.of k)
section
variable {P : Program}
/-- append onto a list of the call's own: what it gives, which block it has; another value over the same block that is no longer stays what it was. -/
theorem run_append_keep (w : World) (base : Nat) (t ty e : TypeId) (i : TypeInfo) (z : Value) (size bytes : Nat) (ht : P.underlying t = some (.slice e)) (hi : P.info? e = some i) (hz : i.zero = some z)
    (hsize : i.size = size) (hby : i.bytes = bytes) (hzs : z.cells.size = size) (hsz : 0 < size)
    (v : Value) (n : Nat) (xs : List Value) (hown : w.ownsRow base e size v n xs)
    (a : Addr) (m c : Nat) (news : List Value) (hl : news.length = m * size) (hnews : ∀ j u, news[j]? = some u → w.cell? (a.add j) = some u) (h1 : ∀ u ∈ news, u.oneCell' = true)
    (h63 : n + m ≤ maxLen) (hbytes : (n + m) * bytes ≤ 140737488355328) (hbase : base ≤ w.heap.size) :
    ∃ v' w', (Builtin.append_ #[t, t] ty #[v, .slice (some a) m c]).run P w = .ok v' w' ∧ w'.ownsRow base e size v' (n + m) (xs ++ news) ∧ w.grownBy w' v.ownBlock ∧
      (v'.ownBlock = v.ownBlock ∨ v'.ownBlock = some w.heap.size) ∧
      (∀ b k u zs, w.ownsRow b e size u k zs → u.ownBlock = v.ownBlock → k ≤ n → w'.ownsRow b e size u k zs) := by
  subst hsize
  subst hby
  have hsmall : n + m ≤ 9223372036854775807 := by simp only [maxLen] at h63; omega
  have hlen : (xs ++ news).length = (n + m) * i.size := by rw [List.length_append, hown.1, hl, Nat.add_mul]
  have grown : ∀ (old : Nat), old < n + m → ∀ (row : Option Nat),
      (w.drew.alloc (.cells (xs.toArray ++ news.toArray ++ Builtin.zeroCells z.cells (grownCap w (n + m) old e - (n + m))) e)).ownsRow base e i.size
        (.slice (some ⟨w.heap.size, 0, none⟩) (n + m) (grownCap w (n + m) old e)) (n + m) (xs ++ news) ∧
      w.grownBy (w.drew.alloc (.cells (xs.toArray ++ news.toArray ++ Builtin.zeroCells z.cells (grownCap w (n + m) old e - (n + m))) e)) row := by
    intro old ho row
    have hge := grownCap_ge w (n + m) old e
    have hcm : grownCap w (n + m) old e ≤ maxLen := grownCap_le_maxLen w (n + m) old e h63
    refine ⟨⟨hlen, .inr ⟨w.heap.size, _, _, rfl, hbase, heap_alloc_new w.drew _, hge, hcm, ?_, ?_⟩⟩, ⟨rfl, rfl, rfl, by simp, fun k hk _ => heap_alloc_old w.drew _ k hk⟩⟩
    · simp only [Array.size_append, List.size_toArray, size_zeroCells, hzs, hown.1, hl, ← Nat.add_mul]
      congr 1
      omega
    · simp only [Array.toList_append, List.append_assoc]
      rw [← List.append_assoc, ← hlen]
      exact List.take_left
  rcases hown.2 with ⟨rfl, rfl⟩ | ⟨g, cap, cur, rfl, hbg, hg, hnc, hcm, hcs, htake⟩
  · have hx : xs = [] := List.eq_nil_of_length_eq_zero (by simpa using hown.1)
    subst hx
    by_cases hm : m = 0
    · subst hm
      have hn : news = [] := List.eq_nil_of_length_eq_zero (by simpa using hl)
      subst hn
      refine ⟨.slice none 0 0, w, ?_, World.ownsRow_nil w base e i.size, ⟨rfl, rfl, rfl, Nat.le_refl _, fun _ _ _ => rfl⟩, Or.inl rfl, fun _ _ _ _ h _ _ => h⟩
      simp [Builtin.append_, run_underlying ht, sizeOf, typeInfo, hi, Builtin.lenOf, Builtin.firstCells, loadCells, loadCellsFrom]
    · have hr := run_append_nil (P := P) w t ty e i z ht hi hz a m c news hl hnews (by omega) (by omega) (by have hb := hbytes; simp only [Nat.zero_add] at hb; omega)
      have hgr := grown 0 (by omega) (Value.ownBlock (.slice none 0 0))
      simp only [Nat.zero_add, List.nil_append, Array.empty_append] at hgr ⊢
      refine ⟨_, _, hr, hgr.1, hgr.2, Or.inr rfl, fun b k u zs h hb _ => ⟨h.1, ?_⟩⟩
      rcases h.2 with q | ⟨g, cap, cur, rfl, _⟩
      · exact .inl q
      · cases hb
  · by_cases hroom : n + m ≤ cap
    · have hfit : n * i.size + news.length ≤ cur.size := by rw [hl, hcs, ← Nat.add_mul]; exact Nat.mul_le_mul_right _ hroom
      have hr := run_append_room (P := P) w t ty e i ht hi g n cap cur hg a m c news hl hnews h1 hroom hfit
      refine ⟨_, _, hr, ⟨hlen, .inr ⟨g, cap, _, rfl, hbg, setRow_heap w g cur _ e _ hg, hroom, hcm, ?_, ?_⟩⟩, ⟨rfl, rfl, rfl, by simp, fun k _ hk => setRow_other w g k _ (fun e => hk (by simp [Value.ownBlock, e]))⟩, Or.inl rfl, fun b k u zs h hb hk => ⟨h.1, ?_⟩⟩
      · simp only [List.size_toArray, List.length_append, List.length_take, List.length_drop, Array.length_toList]
        omega
      · rw [htake, ← hlen]
        exact List.take_left
      · rcases h.2 with q | ⟨g', cap', cur', rfl, r1, r2, r3, r4, r5, r6⟩
        · exact .inl q
        · obtain rfl : g' = g := by simpa [Value.ownBlock] using hb
          obtain rfl : cur' = cur := by
            have := hg.symm.trans r2
            simp only [Option.some.injEq, Obj.cells.injEq, and_true] at this
            exact this.symm
          refine .inr ⟨g', cap', _, rfl, r1, setRow_heap w g' cur' _ e _ hg, r3, r4, ?_, ?_⟩
          · rw [← r5]
            simp only [List.size_toArray, List.length_append, List.length_take, List.length_drop, Array.length_toList]
            omega
          · rw [← r6]
            have hkn : k * i.size ≤ n * i.size := Nat.mul_le_mul_right _ hk
            have hnl : n * i.size ≤ cur'.toList.length := by rw [Array.length_toList]; omega
            simp only [List.append_assoc]
            rw [List.take_append_of_le_length (by rw [List.length_take]; omega), List.take_take, Nat.min_eq_left hkn]
    · have holds : ∀ j u, xs[j]? = some u → w.cell? ((⟨g, 0, none⟩ : Addr).add j) = some u := hown.cells (g := g) rfl
      have hr := run_append_grow (P := P) w t ty e i z ht hi hz ⟨g, 0, none⟩ n cap xs hown.1 holds a m c news hl hnews (by omega) (by omega) (growslice_fits (by omega) hbytes)
      have hgr := grown cap (by omega) (Value.ownBlock (.slice (some ⟨g, 0, none⟩) n cap))
      refine ⟨_, _, hr, hgr.1, hgr.2, Or.inr rfl, fun b k u zs h hb _ => ⟨h.1, ?_⟩⟩
      rcases h.2 with q | ⟨g', cap', cur', rfl, r1, r2, r3⟩
      · exact .inl q
      · refine .inr ⟨g', cap', cur', rfl, r1, ?_, r3⟩
        rw [heap_alloc_old w.drew _ g' (by have := (Array.getElem?_eq_some_iff.1 r2).1; exact this)]
        exact r2

theorem run_appB {t ty : TypeId} {i : TypeInfo} (ht : P.underlying t = some (.slice 5)) (hi : P.info? 5 = some i) (hz : i.zero = some (.int .u8 0)) (h1 : i.size = 1) (h2 : i.bytes = 1) (w : World) (s : Sl) (xs : List B8) (ho : OwnN w s.v xs) (y : Value) (ys : List B8) (hy : BytesIn w y ys)
    (hl : xs.length + ys.length ≤ 140737488351232) : ∃ (s' : Sl) (w' : World), (Builtin.append_ #[t, t] ty #[s.v, y]).run P w = .ok s'.v w' ∧ OwnN w' s'.v (xs ++ ys) ∧ w.grownBy w' s.v.ownBlock ∧ From w s.v s'.v ∧ s'.n = xs.length + ys.length := by
  have fin : ∀ v' w', w'.ownsRow 0 5 1 v' (xs.length + ys.length) (xs.map bv ++ ys.map bv) → ∃ s' : Sl, v' = s'.v ∧ OwnN w' s'.v (xs ++ ys) ∧ s'.n = xs.length + ys.length := fun v' w' h => by
    have h' : OwnN w' v' (xs ++ ys) := by unfold OwnN; rw [List.map_append, List.length_append]; exact h
    obtain ⟨s', rfl, hn⟩ := h'.form
    exact ⟨s', rfl, h', by rw [hn, List.length_append]⟩
  have sm : ∀ (ad : Addr) (m c : Nat), y = .slice (some ad) m c → m = ys.length → (∀ j u, (ys.map bv)[j]? = some u → w.cell? (ad.add j) = some u) → ∃ (s' : Sl) (w' : World), (Builtin.append_ #[t, t] ty #[s.v, y]).run P w = .ok s'.v w' ∧ OwnN w' s'.v (xs ++ ys) ∧ w.grownBy w' s.v.ownBlock ∧ From w s.v s'.v ∧ s'.n = xs.length + ys.length := by
    rintro ad m c rfl rfl hc
    obtain ⟨v', w', hr, q2, q3, q4, _⟩ := run_append_keep (P := P) w 0 t ty 5 i (.int .u8 0) 1 1 ht hi hz h1 h2 rfl (by decide) s.v xs.length (xs.map bv) ho ad ys.length c (ys.map bv) (by simp) hc (fun u hu => by obtain ⟨y, _, rfl⟩ := List.mem_map.1 hu; rfl) (by unfold maxLen; omega) (by omega) (Nat.zero_le _)
    obtain ⟨s', rfl, q5, q6⟩ := fin v' w' q2
    refine ⟨s', w', hr, q5, q3, fun g e => ?_, q6⟩
    rcases q4 with q4 | q4
    · exact .inl (by rw [← q4]; exact e)
    · rw [q4] at e; cases e; exact .inr (Nat.le_refl _)
  rcases hy with ⟨rfl, A, c, rfl, hA⟩ | ⟨b, off, c, rfl, _, hm, hc⟩
  · cases A with
    | some ad => exact sm ad 0 c rfl rfl (fun j u hu => by simp at hu)
    | none =>
      obtain rfl := hA rfl
      obtain ⟨s', e, hn⟩ := ho.form
      exact ⟨s, w, run_append_owned_none (P := P) (w := w) 0 t ty 5 i 1 ht hi s.v xs.length (xs.map bv) ho, by rw [List.append_nil]; exact ho, ⟨rfl, rfl, rfl, Nat.le_refl _, fun _ _ _ => rfl⟩, From.refl w s.v, by
        simp only [Sl.v, Value.slice.injEq] at e
        rw [e.2.1, hn]; rfl⟩
  · refine sm ⟨b, off, none⟩ ys.length c rfl rfl fun j u hu => ?_
    have hj : j < ys.length := by
      by_cases hl : j < ys.length
      · exact hl
      · rw [List.getElem?_eq_none (by simp; omega)] at hu; cases hu
    have e : (⟨b, off, none⟩ : Addr).add j = ⟨b, off + j, none⟩ := by unfold Addr.add; split <;> simp_all
    rw [e, hc j hj, ← hu]
    simp [hj, bv]
theorem run_appP {t ty : TypeId} {i : TypeInfo} (ht : P.underlying t = some (.slice 105)) (hi : P.info? 105 = some i) (hz : i.zero = some (.agg #[.string ⟨#[]⟩, .int .i64 0])) (h1 : i.size = 2) (h2 : i.bytes = 24) (w : World) (s : Sl) (l : List Pc) (ho : OwnPc w s l) (ad : Addr) (m c : Nat) (ys : List Pc) (hm : m = ys.length)
    (hc : ∀ j u, (pcs ys)[j]? = some u → w.cell? (ad.add j) = some u) (hl : l.length + ys.length ≤ 1000000) :
    ∃ (s' : Sl) (w' : World), (Builtin.append_ #[t, t] ty #[s.v, .slice (some ad) m c]).run P w = .ok s'.v w' ∧ OwnPc w' s' (l ++ ys) ∧ w.grownBy w' s.v.ownBlock ∧ From w s.v s'.v := by
  subst hm
  obtain ⟨v', w', hr, q2, q3, q4, _⟩ := run_append_keep (P := P) w 0 t ty 105 i (.agg #[.string ⟨#[]⟩, .int .i64 0]) 2 24 ht hi hz h1 h2 rfl (by decide) s.v l.length (pcs l) ho ad ys.length c (pcs ys) (pcs_len ys) hc (fun u hu => by
      obtain ⟨p, _, hp⟩ := List.mem_flatMap.1 hu
      simp only [List.mem_cons, List.not_mem_nil, or_false] at hp
      rcases hp with rfl | rfl <;> rfl) (by unfold maxLen; omega) (by omega) (Nat.zero_le _)
  have hs : ∃ s' : Sl, v' = s'.v := by
    rcases q2.2 with ⟨rfl, _⟩ | ⟨g, cap, cur, rfl, _⟩
    · exact ⟨sl0, rfl⟩
    · exact ⟨⟨_, _, _⟩, rfl⟩
  obtain ⟨s', rfl⟩ := hs
  refine ⟨s', w', hr, ?_, q3, fun g e => ?_⟩
  · unfold OwnPc; rw [List.length_append, pcs_append]; exact q2
  · rcases q4 with q4 | q4
    · exact .inl (by rw [← q4]; exact e)
    · rw [q4] at e; cases e; exact .inr (Nat.le_refl _)
end
end Go.Proofs.Ytfchjdhjbepocaa
