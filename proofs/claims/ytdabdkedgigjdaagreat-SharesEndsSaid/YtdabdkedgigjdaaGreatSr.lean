/- The groups of keys, rising, each once. -/
import Derived.Test.YtdabdkedgigjdaaGreatSl
import Derived.Test.YtdabdkedgigjdaaGreatShelfB
import Derived.Test.YtdabdkedgigjdaaGreatSm
import Derived.Sort.OwnSortedInts
import Derived.Lib.RowBridge
namespace Go.Proofs.YtdabdkedgigjdaaGreat
open Go.RowKit Go.Sort

theorem info3 : (Tryz.prog.info? 3).map (fun i => (i.zero, i.size, i.bytes)) = some (some (.int .i64 0), 1, 8) := by kernel_rfl
/-- A row of numbers of the call's own. -/
def OwnI (w : World) (base : Nat) (A : Option Addr) (n c : Nat) (zs : List Int) : Prop := w.ownsRow base 3 1 (.slice A n c) zs.length (zs.map (Value.int .i64)) ∧ n = zs.length
theorem OwnI.nil (w : World) (base : Nat) : OwnI w base none 0 0 [] := ⟨World.ownsRow_nil _ _ _ _, rfl⟩
theorem OwnI.alloc {w : World} {B : Nat} {A : Option Addr} {n c : Nat} {zs : List Int} (h : OwnI w B A n c zs) (o : Obj) : OwnI (w.alloc o) B A n c zs := ⟨h.1.alloc o, h.2⟩
theorem OwnI.ok {w w' : World} {B : Nat} {A : Option Addr} {n c : Nat} {zs : List Int} (h : OwnI w B A n c zs) (k : Ok w w') : OwnI w' B A n c zs := by
  refine ⟨h.1.kept (row := none) ⟨k.os, k.tape, k.output, k.size, fun i hi _ => k.block i hi⟩ ?_, h.2⟩
  cases Value.ownBlock (.slice A n c) with
  | none => exact .inl rfl
  | some b => exact .inr (fun e => by cases e)
theorem OwnI.base {w : World} {B B' : Nat} {A : Option Addr} {n c : Nat} {zs : List Int} (h : OwnI w B A n c zs) (hb : B' ≤ B) : OwnI w B' A n c zs := by
  refine ⟨⟨h.1.1, ?_⟩, h.2⟩
  rcases h.1.2 with h2 | ⟨g, cap, cur, e, hbb, r⟩
  · exact .inl h2
  · exact .inr ⟨g, cap, cur, e, Nat.le_trans hb hbb, r⟩
theorem wpList_appI {ops : Array Oper} {rest : List Oper} {o : Oper} {a : Act} {w : World} {Q : Exit → Act → World → Prop} (hgd : o.guard = none) (s x : Operand)
    (ho : o.op = .call { callee := .builtin .append, args := #[s, x], argTypes := #[38, 38] })
    (base : Nat) (A : Option Addr) (n c : Nat) (zs : List Int) (h : Nat) (z : Int) (hs : a.eval s = .slice A n c) (hx : a.eval x = .slice (some ⟨h, 0, none⟩) 1 1) (hown : OwnI w base A n c zs)
    (hc0 : w.cell? ⟨h, 0, none⟩ = some (.int .i64 z)) (hlen : zs.length ≤ 1000000) (hbase : base ≤ w.heap.size)
    (hk : ∀ A' c' w', OwnI w' base A' (n + 1) c' (zs ++ [z]) → Below base w w' → wpList Tryz.prog ops Q rest (a.put o.dst (.slice A' (n + 1) c')) w') : wpList Tryz.prog ops Q (o :: rest) a w := by
  obtain ⟨i0, hi, hz0, hz1, hz2⟩ := info_parts info3
  obtain ⟨hown, rfl⟩ := hown
  refine wpList_append_own _ hgd s x 38 ho base 3 i0 (.int .i64 0) 1 8 Tryz.underlying38 hi hz0 hz1 hz2 rfl (by decide) _ zs.length (zs.map (Value.int .i64)) hs hown ⟨h, 0, none⟩ 1 1 [.int .i64 z] hx rfl ?_ ?_ (by unfold maxLen; omega) (by omega) hbase ?_
  · intro j u hu
    match j, hu with
    | 0, hu =>
      obtain rfl : u = .int .i64 z := by simpa using hu.symm
      exact hc0
  · intro u hu
    obtain rfl : u = .int .i64 z := by simpa using hu
    rfl
  · intro v' w' h2 h3 _
    have hb : Below base w w' := (Below.refl base w).grown h3 hbase (fun k hk => (World.ownsRow.lt hown k hk).1)
    obtain ⟨A', c', rfl⟩ : ∃ A' c', v' = .slice A' (zs.length + 1) c' := by
      rcases h2.2 with ⟨_, h5⟩ | ⟨g', cap', cur, rfl, _⟩
      · omega
      · exact ⟨_, _, rfl⟩
    refine hk A' c' w' ⟨?_, by simp⟩ hb
    rw [List.map_append, List.length_append]; exact h2
def sortI (zs : List Int) : List Int := zs.mergeSort fun x y => decide (x ≤ y)
theorem sortI_len (zs : List Int) : (sortI zs).length = zs.length := by simp [sortI]
/-- slices.Sort of a row of numbers of the call's own. -/
theorem sortI_w (A : Option Addr) (n c : Nat) (zs : List Int) (base : Nat) (w : World) (hl : zs.length ≤ 1000000) (h : OwnI w base A n c zs) :
    Calls Tryz.prog 61 #[.slice A n c] w fun e w' => e = .returned (.tuple #[]) ∧ OwnI w' base A n c (sortI zs) ∧ Below base w w' := by
  obtain ⟨hrow, rfl⟩ := h
  rcases hrow.2 with ⟨e, hz⟩ | ⟨gb, cap, cur, e, hbase, hgb, r1, r2, r3, r4⟩
  · have hss : zs = [] := List.eq_nil_of_length_eq_zero hz
    subst hss
    refine (Tryz.slices_Sort_int_none A c w).mono ?_
    rintro e' w' ⟨rfl, rfl⟩
    exact ⟨rfl, ⟨by simpa [sortI] using hrow, by simp [sortI]⟩, Below.refl _ _⟩
  · simp only [Value.slice.injEq] at e
    obtain ⟨rfl, _, rfl⟩ := e
    have hH := holds_of_blockI (ss := zs) hgb (by simpa using r4)
    have hgl : gb < w.heap.size := (Array.getElem?_eq_some_iff.1 hgb).1
    refine (Tryz.slices_Sort_int gb 0 c zs w hH hgl (by omega)).mono ?_
    rintro e' w' ⟨rfl, nn, os, rfl⟩
    have hrw := ownsRow_sortedI (n := nn) (os := os) (ss := zs) (ts := sortI zs) (sortI_len zs) hbase hgb r1 r2 r3
    refine ⟨rfl, ⟨by rw [sortI_len]; exact hrw, (sortI_len zs).symm⟩, ?_⟩
    exact (Below.refl base w).grown (grownBy_sortedI _) (by omega) (fun j hj => by cases hj; exact hbase)
theorem compact_le (zs : List Int) : (Lib.compact zs).length ≤ zs.length := Lib.compact_length_le zs
theorem compact_none : Lib.compact ([] : List Int) = [] := by
  have := compact_le []
  exact List.eq_nil_of_length_eq_zero (by simpa using this)
/-- slices.Compact of a row of numbers of the call's own. -/
theorem compactI_w (A : Option Addr) (n c : Nat) (zs : List Int) (base : Nat) (w : World) (hl : zs.length ≤ 1000000) (h : OwnI w base A n c zs) :
    Calls Tryz.prog 62 #[.slice A n c] w fun e w' => e = .returned (.slice A (Lib.compact zs).length c) ∧ OwnI w' base A (Lib.compact zs).length c (Lib.compact zs) ∧ Below base w w' := by
  obtain ⟨hrow, rfl⟩ := h
  rcases hrow.2 with ⟨e, hz⟩ | ⟨gb, cap, cur, e, hbase, hgb, r1, r2, r3, r4⟩
  · have hss : zs = [] := List.eq_nil_of_length_eq_zero hz
    subst hss
    rw [compact_none]
    refine (Tryz.slices_Compact_int_empty A c w).mono ?_
    rintro e' w' ⟨rfl, rfl⟩
    exact ⟨rfl, ⟨hrow, rfl⟩, Below.refl _ _⟩
  · simp only [Value.slice.injEq] at e
    obtain ⟨rfl, _, rfl⟩ := e
    have hH := holds_of_blockI (ss := zs) hgb (by simpa using r4)
    have hgl : gb < w.heap.size := (Array.getElem?_eq_some_iff.1 hgb).1
    refine (Tryz.slices_Compact_int gb 0 c zs w hH (by omega) r1).mono ?_
    rintro e' w' ⟨rfl, q, rfl⟩
    have hcl := compact_le zs
    have hlen : (Lib.compact zs ++ List.replicate (zs.length - (Lib.compact zs).length) 0).length = zs.length := by
      rw [List.length_append, List.length_replicate]; omega
    have hrw := ownsRow_sortedI (n := q) (os := #[]) (ss := zs) (ts := Lib.compact zs ++ List.replicate (zs.length - (Lib.compact zs).length) 0) hlen hbase hgb r1 r2 r3
    rw [grow_empty] at hrw
    have hgr := grownBy_sortedI (w := w) (g := gb) (n := q) (os := #[]) (Lib.compact zs ++ List.replicate (zs.length - (Lib.compact zs).length) 0).toArray
    rw [grow_empty] at hgr
    refine ⟨rfl, ⟨?_, rfl⟩, (Below.refl base w).grown hgr (by omega) (fun j hj => by cases hj; exact hbase)⟩
    rcases hrw.2 with ⟨e, _⟩ | ⟨g', cap', cur', e, hb', hg', q1, q2, q3, q4⟩
    · simp at e
    · simp only [Value.slice.injEq, Option.some.injEq, Addr.mk.injEq, and_true, true_and] at e
      obtain ⟨rfl, rfl⟩ := e
      refine ⟨by simp, .inr ⟨gb, c, cur', rfl, hbase, hg', by omega, q2, q3, ?_⟩⟩
      have h1 : (cur'.toList.take (zs.length * 1)).take ((Lib.compact zs).length * 1) = (Lib.compact zs).map (Value.int .i64) := by
        rw [q4, List.map_append, List.take_left' (by simp)]
      rw [List.take_take, Nat.min_eq_left (by omega)] at h1
      exact h1

/-- The group of a key's share. -/
def groupOf (xs : List Sh) (k : Str) : Int := ((xs.find? fun y => hasB y.sp k).getD sh0).g
/-- The groups of keys. -/
def groupsM (ep : Int) (xs : List Sh) (ks : List Str) : List Int × Bool :=
  if (sharesB ep xs && ks.all keyB) = true then (Lib.compact (sortI (ks.map (groupOf xs))), true) else ([], false)
def GroupsPost (w : World) (r : List Int × Bool) : Ending → World → Prop := fun e w' => ∃ A c, e = .returned (.tuple #[.slice A r.1.length c, .bool r.2]) ∧ OwnI w' w.heap.size A r.1.length c r.1 ∧ Ok w w'

set_option maxRecDepth 100000 in
set_option maxHeartbeats 8000000 in
theorem groups_w (ep : Int) (A : Option Addr) (n c : Nat) (xs : List Sh) (v : Value) (ks : List Str) (b : Nat) (hn : xs.length = n) (hn6 : n ≤ 1000) (hk6 : ks.length ≤ 1000) (w : World) (hI : SharesAt w A xs) (hz : Strs b w v ks) :
    Calls Tryz.prog 15 #[.agg #[.int .i64 ep, .slice A n c], v] w (GroupsPost w (groupsM ep xs ks)) := by
  obtain ⟨B, m, d, rfl, hm, hcell⟩ : ∃ B m d, v = .slice B m d ∧ ks.length = m ∧ ∀ j, j < m → ∃ b off, B = some ⟨b, off, none⟩ ∧ w.cell? ⟨b, off + j, none⟩ = some (.string (at0 ks j)) := by
    rcases hz with ⟨rfl, A, c, rfl⟩ | ⟨b, off, cap, rfl, _, hc⟩
    · exact ⟨A, 0, c, rfl, rfl, fun j hj => absurd hj (Nat.not_lt_zero _)⟩
    · exact ⟨_, _, _, rfl, rfl, fun j hj => ⟨b, off, rfl, hc j hj⟩⟩
  have hsr := sharesRight_w ep A n c xs hn hn6
  have HI := Lib.hid hI
  have HN := Lib.hid hn
  have HC := Lib.hid hcell
  have HM := Lib.hid hm
  rw [hm] at hk6
  clear hI hn hz hm hcell
  obtain ⟨R, hR⟩ : ∃ R, groupsM ep xs ks = R := ⟨_, rfl⟩
  rw [hR]
  have er : Hid (R = groupsM ep xs ks) := Lib.hid hR.symm
  clear hR
  cases h1 : sharesB ep xs with
  | false =>
    rw [h1] at hsr
    obtain rfl : R = ([], false) := by rw [er.out, groupsM, h1]; rfl
    go_enter Tryz.func15, Tryz.ntmps15
    go_wp2_with fail
    refine (hsr _ (HI.out.ok (Ok.alloc (Ok.refl w) _))).mono ?_
    rintro _ w1 ⟨rfl, o1⟩
    go_wp2
    go_returns
    exact ⟨none, 0, rfl, OwnI.nil _ _, Ok.call (Ok.alloc (Ok.refl w) _) o1⟩
  | true =>
    rw [h1] at hsr
    go_enter Tryz.func15, Tryz.ntmps15
    go_wp2_with fail
    refine (hsr _ (HI.out.ok (Ok.alloc (Ok.refl w) _))).mono ?_
    rintro _ w1 ⟨rfl, o1⟩
    have B0 : w1.cell? ⟨w.heap.size, 0, none⟩ = some (.int .i64 ep) := Ok.cell o1 (by go_cell)
    have B1 : w1.cell? ⟨w.heap.size, 1, none⟩ = some (.slice A n c) := Ok.cell o1 (by go_cell)
    have ok1 := Lib.hid (Ok.call (Ok.alloc (Ok.refl w) _) o1)
    clear o1 hsr
    go_wp2_with fail
    go_loopw [6, 16] (fun l i wr => ∃ (q : Nat) (A' : Option Addr) (n' c' : Nat), q ≤ m ∧ i = .int .i64 q ∧ l = .slice A' n' c' ∧ OwnI wr w1.heap.size A' n' c' ((ks.take q).map (groupOf xs)) ∧ (ks.take q).all keyB = true ∧ Ok w1 wr) (fun _ i _ => m - (intOf i).toNat)
    case atStart => exact ⟨0, none, 0, 0, Nat.zero_le _, rfl, rfl, OwnI.nil _ _, rfl, Ok.refl _⟩
    case round =>
      obtain ⟨q, A', n', c', hq, rfl, rfl, hown, hall, okr⟩ := hrel
      have HOW := Lib.hid hown
      have HALL := Lib.hid hall
      have HOKR := Lib.hid (Ok.call ok1.out okr)
      have OKR := Lib.hid okr
      have B0 := Ok.cell okr B0
      have B1 := Ok.cell okr B1
      clear hown hall okr
      by_cases hlt : q < m
      · have d1 : decide ((q : Int) < (m : Int)) = true := decide_eq_true (by omega)
        obtain ⟨kb, ko, rfl, K0⟩ := HC.out q hlt
        have K0 := Ok.cell HOKR.out K0
        have hof := of_w (at0 ks q) ep A n c xs HN.out hn6 wr (HI.out.ok HOKR.out)
        rw [firstM, if_pos h1] at hof
        have hso := shares_some h1 (at0 ks q)
        have hgo : groupOf xs (at0 ks q) = ((xs.find? fun y => hasB y.sp (at0 ks q)).getD sh0).g := rfl
        have hkl : q < ks.length := by rw [HM.out]; exact hlt
        have HTK : Hid (ks.take (q + 1) = ks.take q ++ [at0 ks q]) := Lib.hid (take_at ks q hkl)
        have hmem : at0 ks q ∈ ks := by simp [at0, hkl]
        generalize at0 ks q = kk at K0 hof hso hgo HTK hmem
        generalize (xs.find? fun y => hasB y.sp kk) = r at hof hso hgo
        obtain ⟨al, ah, ag, ae, hva⟩ : ∃ al ah ag ae, shV (r.getD sh0) = .agg #[.string al, .string ah, .int .i64 ag, .int .i64 ae] ∧ (r.getD sh0).g = ag := ⟨_, _, _, _, rfl, rfl⟩
        rw [hva.2] at hgo
        unfold shareV at hof
        rw [hva.1, hso] at hof
        have HGO := Lib.hid hgo
        clear hva hso hgo
        cases h2 : keyB kk with
        | false =>
          rw [h2] at hof
          obtain rfl : R = ([], false) := by
            have hall : ks.all keyB = false := by rw [List.all_eq_false]; exact ⟨kk, hmem, by rw [h2]; simp⟩
            rw [er.out, groupsM, h1, hall]; rfl
          go_wp2_with fail
          refine hof.mono ?_
          rintro _ w2 ⟨rfl, o2⟩
          go_wp2
          go_returns
          exact ⟨none, 0, rfl, OwnI.nil _ _, Ok.alloc (Ok.call HOKR.out o2) _⟩
        | true =>
          rw [h2] at hof
          go_wp2_with fail
          refine hof.mono ?_
          rintro _ w2 ⟨rfl, o2⟩
          have HOWA : Hid (OwnI ((w2.alloc (.cells #[.string al, .string ah, .int .i64 ag, .int .i64 ae] 35)).alloc (.cells #[.int .i64 ag] 3)) w1.heap.size A' n' c' ((ks.take q).map (groupOf xs))) := Lib.hid (((HOW.out.ok o2).alloc _).alloc _)
          have okA : Hid (Ok w1 ((w2.alloc (.cells #[.string al, .string ah, .int .i64 ag, .int .i64 ae] 35)).alloc (.cells #[.int .i64 ag] 3))) := Lib.hid (Ok.alloc (Ok.alloc (Ok.call OKR.out o2) _) _)
          have C0 : Hid (((w2.alloc (.cells #[.string al, .string ah, .int .i64 ag, .int .i64 ae] 35)).alloc (.cells #[.int .i64 ag] 3)).cell? ⟨w2.heap.size + 1, 0, none⟩ = some (.int .i64 ag)) := Lib.hid (by go_cell)
          have HLE : Hid (((ks.take q).map (groupOf xs)).length ≤ 1000000) := Lib.hid (by rw [List.length_map, List.length_take]; omega)
          clear o2
          go_wp2_with (at_builtin; go_must (refine wpList_appI rfl (.tmp 28) (.tmp 31) rfl w1.heap.size A' n' c' _ (w2.heap.size + 1) ag rfl rfl HOWA.out C0.out HLE.out okA.out.size ?_; intro A3 c3 w3 hown3 hb3; have HOW3 := Lib.hid hown3; have HB3 := Lib.hid hb3; clear hown3 hb3))
          refine ⟨⟨q + 1, A3, n' + 1, c3, hlt, rfl, rfl, ?_, ?_, Below.trans okA.out HB3.out⟩, ?_⟩
          · rw [HTK.out, List.map_append, List.map_singleton, HGO.out]; exact HOW3.out
          · rw [HTK.out, List.all_append, HALL.out]; simp [h2]
          · show m - ((q : Int) + 1).toNat < m - (q : Int).toNat
            omega
      · have d1 : decide ((q : Int) < (m : Int)) = false := decide_eq_false (by omega)
        have htk : ks.take q = ks := List.take_of_length_le (by rw [HM.out]; omega)
        have HOW2 := HOW.out
        have HALL2 := HALL.out
        rw [htk] at HOW2 HALL2
        obtain rfl : R = (Lib.compact (sortI (ks.map (groupOf xs))), true) := by rw [er.out, groupsM, h1, HALL2]; rfl
        have hsl := sortI_len (ks.map (groupOf xs))
        rw [List.length_map, HM.out] at hsl
        have hso := sortI_w A' n' c' (ks.map (groupOf xs)) w1.heap.size wr (by rw [List.length_map, HM.out]; omega) HOW2
        go_wp2_with fail
        refine hso.mono ?_
        rintro _ w2 ⟨rfl, hown2, hb2⟩
        go_wp2_with fail
        refine (compactI_w A' n' c' _ w1.heap.size w2 (by omega) hown2).mono ?_
        rintro _ w3 ⟨rfl, hown3, hb3⟩
        have okF : Ok w w3 := Ok.call ok1.out (Below.trans (Below.trans OKR.out hb2) hb3)
        go_wp2
        go_returns
        exact ⟨A', c', rfl, hown3.base ok1.out.size, okF⟩
end Go.Proofs.YtdabdkedgigjdaaGreat
