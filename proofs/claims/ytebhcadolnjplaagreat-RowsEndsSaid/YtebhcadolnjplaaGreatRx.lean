/- Rows: how many parts; tables. -/
import Derived.Test.YtebhcadolnjplaaGreatRv
import Derived.Lib.BufferMore
namespace Go.Proofs.YtebhcadolnjplaaGreat
open Go.RowKit

/-- Texts of a size that memory has. -/
def RowsSz (l : List Rw) : Prop := ∀ j, j < l.length → (rwA l j).key.size ≤ 140737488355328 ∧ (rwA l j).val.size ≤ 140737488355328
def LinP (n : Nat) (w : World) (e : Ending) (w' : World) : Prop := ∃ v : Int, e = .returned (.int .i64 v) ∧ Ok w w' ∧ (v ≤ 1200 → n ≤ 1200)
set_option maxRecDepth 100000 in
set_option maxHeartbeats 4000000 in
theorem lines_f (A : Option Addr) (n c : Nat) (l : List Rw) (hn : l.length = n) (hn6 : n ≤ 17592186044416) (w : World) (hA : RowsIn w A l) (hs : RowsSz l) : Calls Tryz.prog 23 #[.slice A n c, .int .i64 1200] w (LinP n w) := by
  have HA := Lib.hid hA
  have HN := Lib.hid hn
  have HS := Lib.hid hs
  clear hA hn hs
  go_enter Tryz.func23, Tryz.ntmps23
  go_wp2_with fail
  go_loopw [5, 6] (fun v5 v6 wr => ∃ (v : Int) (k : Nat), v5 = .int .i64 v ∧ v6 = .int .i64 k ∧ k ≤ n ∧ (k : Int) ≤ v ∧ v ≤ 35184372090033 ∧ Ok w wr) (fun _ v6 _ => n - (intOf v6).toNat)
  case atStart => exact ⟨0, 0, rfl, rfl, Nat.zero_le _, Int.le_refl _, by decide, Ok.refl _⟩
  case round =>
    obtain ⟨v, k, rfl, rfl, hk, hkv, hv, okr⟩ := hrel
    have HO := Lib.hid okr
    have HKV : Hid ((k : Int) ≤ v) := Lib.hid hkv
    clear okr hkv
    by_cases hlt : k < n
    · have d1 : decide ((k : Int) < (n : Int)) = true := decide_eq_true (by omega)
      by_cases hle : v ≤ 1200
      · have d2 : decide (v ≤ 1200) = true := decide_eq_true hle
        obtain ⟨b, off, rfl, C0, C1⟩ := HA.out.ok HO.out k (by rw [HN.out]; exact hlt)
        obtain ⟨s0, s1⟩ := HS.out k (by rw [HN.out]; exact hlt)
        generalize (rwA l k).key = km at *
        generalize (rwA l k).val = vm at *
        have hi0 : (0 : Int) ≤ (k : Int) := Int.natCast_nonneg _
        have hi1 : (k : Int) < (n : Int) := by omega
        obtain ⟨a, ha⟩ : ∃ a : Nat, a = km.size / 8 := ⟨_, rfl⟩
        obtain ⟨d, hd⟩ : ∃ d : Nat, d = vm.size / 8 := ⟨_, rfl⟩
        have q1 : (km.size : Int).tdiv 8 = (a : Int) := by rw [ha, Int.tdiv_eq_ediv_of_nonneg (by omega)]; omega
        have q2 : (vm.size : Int).tdiv 8 = (d : Int) := by rw [hd, Int.tdiv_eq_ediv_of_nonneg (by omega)]; omega
        have ea : IntKind.i64.wrap (a : Int) = (a : Int) := IntWalk.i64_in _ (by omega)
        have ed : IntKind.i64.wrap (d : Int) = (d : Int) := IntWalk.i64_in _ (by omega)
        have e1 : IntKind.i64.wrap (v + 1) = v + 1 := IntWalk.i64_in _ (by have := HKV.out; omega)
        have e2 : IntKind.i64.wrap (v + 1 + (a : Int)) = v + 1 + (a : Int) := IntWalk.i64_in _ (by have := HKV.out; omega)
        have e3 : IntKind.i64.wrap (v + 1 + (a : Int) + (d : Int)) = v + 1 + (a : Int) + (d : Int) := IntWalk.i64_in _ (by have := HKV.out; omega)
        have HB : Hid (a ≤ 17592186044416 ∧ d ≤ 17592186044416) := Lib.hid (by omega)
        clear ha hd
        go_wp2_with fail
        go_quiet (fail)
        have hb := HB.out
        have hkv := HKV.out
        have HLT : Hid (n - ((k : Int) + 1).toNat < n - (k : Int).toNat) := Lib.hid (by omega)
        go_wp2_with fail
        exact ⟨⟨v + 1 + a + d, k + 1, rfl, rfl, hlt, by push_cast; omega, by omega, HO.out.drewN _⟩, HLT.out⟩
      · have d2 : decide (v ≤ 1200) = false := decide_eq_false hle
        go_wp2_with fail
        go_ret
        exact ⟨v, rfl, HO.out, fun h => by omega⟩
    · have d1 : decide ((k : Int) < (n : Int)) = false := decide_eq_false (by omega)
      obtain rfl : k = n := by omega
      go_wp2_with fail
      go_ret
      exact ⟨v, rfl, HO.out, fun h => by have := HKV.out; omega⟩
/-- A table: its block, where its rows lie, what they are. -/
structure TabAt (p : Nat) (A : Option Addr) (n c : Nat) (l : List Rw) (w : World) : Prop where
  c0 : w.cell? ⟨p, 0, none⟩ = some (.slice A n c)
  c1 : w.cell? ⟨p, 1, none⟩ = some (.bool true)
  f : ∀ k, w.frozen? ⟨p, k, none⟩ = false
  own : OwnR w 0 A n c l
  ne : ∀ a, A = some a → a.block ≠ p
theorem TabAt.lt {p : Nat} {A : Option Addr} {n c : Nat} {l : List Rw} {w : World} (h : TabAt p A n c l w) : p < w.heap.size := World.block_lt_of_cell? _ _ h.c0
theorem TabAt.ok {p : Nat} {A : Option Addr} {n c : Nat} {l : List Rw} {w w' : World} (h : TabAt p A n c l w) (k : Ok w w') : TabAt p A n c l w' :=
  ⟨k.cell h.c0, k.cell h.c1, fun j => by rw [Below.frozen k (p := ⟨p, j, none⟩) h.lt]; exact h.f j, h.own.ok k, h.ne⟩
theorem none85 (p : Nat) (w : World) (c1 : w.cell? ⟨p, 1, none⟩ = some (.bool true)) : Calls Tryz.prog 25 #[.pointer (some ⟨p, 0, none⟩)] w (Ret w (.bool false)) := by
  go_enter Tryz.func25, Tryz.ntmps25
  go_wp2_with fail
  go_ret
  exact ⟨rfl, Ok.refl _⟩
def NewT (W : World) (e : Ending) (w' : World) : Prop := ∃ p, e = .returned (.pointer (some ⟨p, 0, none⟩)) ∧ W.heap.size ≤ p ∧ TabAt p none 0 0 [] w' ∧ Ok W w'
set_option maxRecDepth 100000 in
theorem new44 (W : World) : Calls Tryz.prog 7 #[] W (NewT W) := by
  have HN := Lib.hid (two_new W (.slice none 0 0) (.bool true) 58)
  go_enter Tryz.func7, Tryz.ntmps7
  go_wp2_with fail
  go_ret
  exact ⟨W.heap.size, rfl, Nat.le_refl _, ⟨HN.out.1, HN.out.2, fun k => by rw [World.frozen?, heap_alloc_new]; simp, ⟨rfl, World.ownsRow_nil _ _ _ _⟩, fun a e => by cases e⟩, (Ok.refl W).alloc _⟩
set_option maxRecDepth 100000 in
theorem many50 (p : Nat) (A : Option Addr) (n c : Nat) (l : List Rw) (w : World) (h : TabAt p A n c l w) : Calls Tryz.prog 20 #[.pointer (some ⟨p, 0, none⟩)] w (Ret w (.int .i64 (n : Int))) := by
  have hno := none85 p w h.c1
  have HT := Lib.hid h
  clear h
  go_enter Tryz.func20, Tryz.ntmps20
  go_wp2_with fail
  refine hno.mono ?_
  clear hno
  rintro _ w1 ⟨rfl, o1⟩
  have c0 := o1.cell HT.out.c0
  go_wp2_with fail
  go_ret
  exact ⟨rfl, o1⟩
theorem OwnR.nc {w : World} {B : Nat} {A : Option Addr} {n c : Nat} {l : List Rw} (h : OwnR w B A n c l) : (A = none ∧ n = 0 ∧ c = 0) ∨ ∃ g, A = some ⟨g, 0, none⟩ := by
  rcases h.2.2 with ⟨e, q⟩ | ⟨g, cap, cur, e, _⟩
  · simp only [Value.slice.injEq] at e
    exact .inl ⟨e.1, q, e.2.2⟩
  · simp only [Value.slice.injEq] at e
    exact .inr ⟨g, e.1⟩
set_option maxRecDepth 100000 in
theorem place_f (p : Nat) (A : Option Addr) (n c : Nat) (l : List Rw) (t : Str) (w : World) (h : TabAt p A n c l w) (hn6 : n ≤ 1000000) (hr : Rises l) : Calls Tryz.prog 31 #[.pointer (some ⟨p, 0, none⟩), .string t] w (SearchP l t w) := by
  have hse := search_f A n c l t w h.own.1 hn6 h.own.rows hr
  have c0 := h.c0
  clear h
  go_enter Tryz.func31, Tryz.ntmps31
  go_wp2_with fail
  refine hse.mono ?_
  clear hse c0
  rintro _ w1 ⟨k, hp, rfl, o1⟩
  have HP := Lib.hid hp
  clear hp
  obtain ⟨fb, hfb⟩ : ∃ fb, foundB l t k = fb := ⟨_, rfl⟩
  have HFB := Lib.hid hfb
  rw [hfb]
  clear hfb
  go_wp2_with fail
  refine bodyPost_ret (v := .tuple #[.int .i64 (k : Int), .bool fb]) (by simp [results, Tryz.results31, go_sem]; try rfl) rfl ?_
  exact ⟨k, HP.out, by rw [HFB.out], o1⟩
theorem info105 : (Tryz.prog.info? 48).map (fun i => (i.zero, i.size, i.bytes)) = some (some (.agg #[.string ⟨#[]⟩, .string ⟨#[]⟩]), 2, 32) := by kernel_rfl
theorem flat2_mem (l : List Rw) (j : Nat) (h : j < l.length * 2) : (flat2 l)[j]? = (rwA l (j / 2)).cells[j % 2]? := by
  have := flat2_at l (j / 2) (j % 2) (by omega) (by omega)
  rwa [show j / 2 * 2 + j % 2 = j from by omega] at this
theorem RowsIn.cell {w : World} {A : Option Addr} {l : List Rw} (h : RowsIn w A l) (b off : Nat) (hA : A = some ⟨b, off, none⟩) (j : Nat) (u : Value) (hu : (flat2 l)[j]? = some u) : w.cell? ((⟨b, off, none⟩ : Addr).add j) = some u := by
  have hj : j < l.length * 2 := by rw [← flat2_len]; exact (List.getElem?_eq_some_iff.1 hu).1
  rw [flat2_mem l j hj] at hu
  obtain ⟨b', off', e, h1, h2⟩ := h (j / 2) (by omega)
  rw [hA] at e
  simp only [Option.some.injEq, Addr.mk.injEq] at e
  obtain ⟨rfl, rfl, _⟩ := e
  have ea : (⟨b, off, none⟩ : Addr).add j = ⟨b, off + j / 2 * 2 + j % 2, none⟩ := by
    rw [show off + j / 2 * 2 + j % 2 = off + j from by omega]; unfold Addr.add; split <;> simp_all
  rw [ea, ← hu]
  rcases Nat.mod_two_eq_zero_or_one j with q | q
  · rw [q, Nat.add_zero]; exact h1
  · rw [q]; exact h2
/-- Rows laid behind rows. -/
theorem wpList_appRows {ops : Array Oper} {rest : List Oper} {o : Oper} {a : Act} {w : World} {Q : Exit → Act → World → Prop} (hgd : o.guard = none) (s x : Operand)
    (ho : o.op = .call { callee := .builtin .append, args := #[s, x], argTypes := #[29, 29] })
    (base : Nat) (A : Option Addr) (n c : Nat) (l : List Rw) (hs : a.eval s = .slice A n c) (hown : OwnR w base A n c l) (b off m d : Nat) (k : List Rw) (hk : k.length = m) (hx : a.eval x = .slice (some ⟨b, off, none⟩) m d)
    (hin : RowsIn w (some ⟨b, off, none⟩) k) (hn : n + m ≤ 1000000) (hbase : base ≤ w.heap.size)
    (h : ∀ A' c' w', OwnR w' base A' (n + m) c' (l ++ k) → w.grownBy w' (Value.slice A n c).ownBlock → wpList Tryz.prog ops Q rest (a.put o.dst (.slice A' (n + m) c')) w') : wpList Tryz.prog ops Q (o :: rest) a w := by
  obtain ⟨i0, hi, hz0, hz1, hz2⟩ := info_parts info105
  refine wpList_append_own _ hgd s x 29 ho base 48 i0 _ 2 32 Tryz.underlying29 hi hz0 hz1 hz2 rfl (by decide) (.slice A n c) n (flat2 l) hs hown.2 ⟨b, off, none⟩ m d (flat2 k) hx (by rw [flat2_len, hk]) (fun j u hu => hin.cell b off rfl j u hu) (flat2_one k) (by unfold maxLen; omega) (by omega) hbase ?_
  intro v' w' h2 h3 _
  rw [← flat2_append] at h2
  have hv : ∃ A c, v' = .slice A (n + m) c := by
    rcases h2.2 with ⟨rfl, q⟩ | ⟨g, cap, cur, rfl, _⟩
    · exact ⟨none, 0, by rw [q]⟩
    · exact ⟨_, _, rfl⟩
  obtain ⟨A', c', rfl⟩ := hv
  exact h A' c' w' ⟨by rw [List.length_append, hown.1, hk], h2⟩ h3
def CloneT (n : Nat) (l : List Rw) (W : World) (e : Ending) (w' : World) : Prop := ∃ A c, e = .returned (.slice A n c) ∧ OwnR w' W.heap.size A n c l ∧ Ok W w'
theorem un66 : Tryz.prog.underlying 29 = some (.slice (Tryz.prog.elem 29)) := by
  rw [show Tryz.prog.elem 29 = 48 from by kernel_rfl]; exact Tryz.underlying29
set_option maxRecDepth 100000 in
theorem clone140 (B : Nat) (A : Option Addr) (n c : Nat) (l : List Rw) (W : World) (h : OwnR W B A n c l) (hn : n ≤ 100000) : Calls Tryz.prog 26 #[.slice A n c] W (CloneT n l W) := by
  rcases h.nc with ⟨rfl, rfl, rfl⟩ | ⟨g, rfl⟩
  · obtain rfl : l = [] := List.eq_nil_of_length_eq_zero h.1
    clear h
    have heq := fun w => Lib.run_eql_slice_nil_nil (P := Tryz.prog) w 0 0 un66
    go_enter Tryz.func26, Tryz.ntmps26
    go_wp2_with fail
    go_ret
    exact ⟨none, 0, rfl, ⟨rfl, World.ownsRow_nil _ _ _ _⟩, Ok.refl _⟩
  · have HO : Hid (OwnR (W.alloc (.cells #[] 48)) W.heap.size (some ⟨W.heap.size, 0, none⟩) 0 0 []) := Lib.hid ⟨rfl, World.ownsRow_lit (base := W.heap.size) (e := 48) (size := 2) W #[] 0 (Nat.le_refl _) (by decide) (by decide)⟩
    have HX : Hid (RowsIn (W.alloc (.cells #[] 48)) (some ⟨g, 0, none⟩) l) := Lib.hid (h.rows.ok ((Ok.refl W).alloc _))
    have HL := Lib.hid h.1
    clear h
    have heq := fun w => Lib.run_eql_slice_some_nil (P := Tryz.prog) w ⟨g, 0, none⟩ n c un66
    go_enter Tryz.func26, Tryz.ntmps26
    go_wp2_with (at_builtin; go_must (refine wpList_appRows rfl (.tmp 5) (.tmp 6) rfl W.heap.size (some ⟨W.heap.size, 0, none⟩) 0 0 [] rfl HO.out g 0 n c l HL.out rfl HX.out (by omega) (by rw [World.size_alloc]; omega) ?_; intro A' c' w2 hown2 hg2; have HOWN2 := Lib.hid hown2; have HG2 := Lib.hid hg2; clear hown2 hg2; simp only [Nat.zero_add]))
    go_ret
    refine ⟨_, _, rfl, by have := HOWN2.out; rwa [Nat.zero_add, List.nil_append] at this, ?_⟩
    exact Below.grown ((Ok.refl W).alloc _) HG2.out (by rw [World.size_alloc]; omega) (fun k hk => by simp [Value.ownBlock] at hk; omega)
end Go.Proofs.YtebhcadolnjplaaGreat
