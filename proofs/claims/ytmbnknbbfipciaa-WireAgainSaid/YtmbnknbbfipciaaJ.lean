/- The law WireAgain, walked: for any bytes it returns true, and turns nothing that was there. -/
import Derived.Test.YtmbnknbbfipciaaI
namespace Go.Proofs.Ytmbnknbbfipciaa
open Go.RowKit

def iv (n : Nat) : Value := .int .i64 (n : Int)
theorem info3 : (Try.prog.info? 3).map (fun i => (i.zero, i.size, i.bytes)) = some (some (.int .i64 0), 1, 8) := by kernel_rfl
/-- A row of numbers of the call's own; it may be nil. -/
def OwnI (w : World) (base : Nat) (A : Option Addr) (n c : Nat) (ls : List Nat) : Prop := w.ownsRow base 3 1 (.slice A n c) ls.length (ls.map iv) ∧ n = ls.length

theorem wpList_appI {ops : Array Oper} {rest : List Oper} {o : Oper} {a : Act} {w : World} {Q : Exit → Act → World → Prop} (hgd : o.guard = none) (s x : Operand)
    (ho : o.op = .call { callee := .builtin .append, args := #[s, x], argTypes := #[22, 22] })
    (base : Nat) (A : Option Addr) (n c : Nat) (ls : List Nat) (h : Nat) (m : Nat) (hs : a.eval s = .slice A n c) (hx : a.eval x = .slice (some ⟨h, 0, none⟩) 1 1) (hown : OwnI w base A n c ls) (hc : w.cell? ⟨h, 0, none⟩ = some (iv m))
    (hlen : ls.length ≤ 1000000) (hbase : base ≤ w.heap.size)
    (hk : ∀ A' c' w', OwnI w' base A' (n + 1) c' (ls ++ [m]) → Below base w w' → wpList Try.prog ops Q rest (a.put o.dst (.slice A' (n + 1) c')) w') : wpList Try.prog ops Q (o :: rest) a w := by
  obtain ⟨i0, hi, hz0, hz1, hz2⟩ := info_parts info3
  obtain ⟨hown, rfl⟩ := hown
  refine wpList_append_own _ hgd s x 22 ho base 3 i0 (.int .i64 0) 1 8 Try.underlying22 hi hz0 hz1 hz2 rfl (by decide) _ ls.length (ls.map iv) hs hown ⟨h, 0, none⟩ 1 1 [iv m] hx rfl ?_ ?_ (by unfold maxLen; omega) (by omega) hbase ?_
  · intro j u hu
    match j, hu with
    | 0, hu =>
      obtain rfl : u = iv m := by simpa using hu.symm
      exact hc
  · intro u hu
    obtain rfl : u = iv m := by simpa using hu
    rfl
  · intro v' w' h2 h3 _
    have hb : Below base w w' := (Below.refl base w).grown h3 hbase (fun k hk => (World.ownsRow.lt hown k hk).1)
    obtain ⟨A', c', rfl⟩ : ∃ A' c', v' = .slice A' (ls.length + 1) c' := by
      rcases h2.2 with ⟨_, h5⟩ | ⟨g', cap', cur, rfl, _⟩
      · omega
      · exact ⟨_, _, rfl⟩
    refine hk A' c' w' ⟨?_, by simp⟩ hb
    rw [List.map_append, List.length_append]; exact h2

theorem OwnI.only {w w' : World} {g : Nat} {A : Option Addr} {n c : Nat} {ls : List Nat} (h : OwnI w (g + 1) A n c ls) (k : Only g w w') : OwnI w' (g + 1) A n c ls := by
  refine ⟨h.1.kept (row := some g) ⟨k.1, k.2.1, k.2.2.1, Nat.le_of_eq k.2.2.2.1.symm, fun i _ hi => k.2.2.2.2 i (fun e => hi (by rw [e]))⟩ ?_, h.2⟩
  cases hA : Value.ownBlock (.slice A n c) with
  | none => exact .inl rfl
  | some b =>
    refine .inr fun e => ?_
    have := (h.1.lt b hA).1
    simp only [Option.some.injEq] at e
    omega
theorem Rd.below1 {W0 : World} {g : Nat} {w w' : World} {xs : List B8} {f : Bool} (h : Rd W0 g w xs f) (k : Below (g + 1) w w') : Rd W0 g w' xs f := by
  obtain ⟨h1, h2, ⟨v, hv, h0⟩, h3, h4, h5, h6⟩ := h
  have hc : ∀ o, w'.cell? ⟨g, o, none⟩ = w.cell? ⟨g, o, none⟩ := fun o => k.cell (p := ⟨g, o, none⟩) (Nat.lt_succ_self g)
  have hf : ∀ o, w'.frozen? ⟨g, o, none⟩ = w.frozen? ⟨g, o, none⟩ := fun o => k.frozen (p := ⟨g, o, none⟩) (Nat.lt_succ_self g)
  exact ⟨h1, Below.trans h2 (k.mono (by omega)), ⟨v, hv, by rw [hc]; exact h0⟩, by rw [hc]; exact h3, by rw [hc]; exact h4, by rw [hf]; exact h5, by rw [hf]; exact h6⟩
theorem Ok.trans' {w w' w'' : World} (h : Ok w w') (k : Below w.heap.size w' w'') : Ok w w'' := Below.trans h k
/-- How many bytes a reader has left, as its block tells. -/
def rdLen (g : Nat) (w : World) : Nat := match w.cell? ⟨g, 0, none⟩ with
  | some (.slice _ n _) => n
  | _ => 0
theorem Rd.len {W0 : World} {g : Nat} {w : World} {xs : List B8} {f : Bool} (h : Rd W0 g w xs f) : rdLen g w = xs.length := by
  obtain ⟨_, _, ⟨v, hv, h0⟩, _⟩ := h
  obtain ⟨A, c, rfl, _⟩ := hv.form
  rw [rdLen, h0]

/-- Where the law's loop stands: what was read, what is left. -/
def Loop (W W0 : World) (g : Nat) (xs : List B8) (vl : Value) (w : World) : Prop :=
  ∃ (ls : List Nat) (ys : List B8) (f : Bool) (A : Option Addr) (c : Nat), vl = .slice A ls.length c ∧ OwnI w (g + 1) A ls.length c ls ∧ Rd W0 g w ys f ∧ (f = true → ys = []) ∧ (f = false → xs = encs ls ++ ys) ∧
    (∀ n ∈ ls, n ≤ 4611686018427387903) ∧ Ok W w ∧ ls.length + ys.length ≤ xs.length
set_option maxRecDepth 100000 in
set_option maxHeartbeats 4000000 in
theorem wireAgain_v (W : World) (v : Value) (xs : List B8) (h : BytesIn W v xs) :
    Calls Try.prog 4 #[v] W fun e w' => e = .returned (.bool true) ∧ Below W.heap.size W w' := by
  obtain ⟨A0, c0, rfl, hm⟩ := h.form
  have HX := Lib.hid h
  clear h
  generalize hn : xs.length = n at *
  have HN := Lib.hid hn
  clear hn
  go_enter Try.func4, Try.ntmps4
  go_wp2_with fail
  refine (awake_v _).mono ?_
  rintro e w1 ⟨rfl, hok1⟩
  have HO1 := Lib.hid hok1
  clear hok1
  by_cases hbig : 20000 < n
  · have hd : decide ((20000 : Int) < (n : Int)) = true := decide_eq_true (by omega)
    have hd2 : decide (20000 < n) = true := decide_eq_true hbig
    go_wp2_with fail
    go_ret
    exact ⟨rfl, HO1.out⟩
  have hd : decide ((20000 : Int) < (n : Int)) = false := decide_eq_false (by omega)
  have hd2 : decide (20000 < n) = false := decide_eq_false hbig
  go_wp2_with fail
  refine (newReader_r _ _ xs (HO1.out.bytes HX.out) (by rw [HN.out]; omega)).mono ?_
  rintro e w2 ⟨W0, g, rfl, hrd, hok2, hsz2⟩
  have HG : Hid (W.heap.size ≤ g) := Lib.hid (Nat.le_trans HO1.out.size (Nat.le_trans hok2.size hrd.1))
  have HL0 : Hid (Loop W W0 g xs (.slice none 0 0) w2) := Lib.hid
    ⟨[], xs, false, none, 0, rfl, ⟨World.ownsRow_nil _ _ _ _, rfl⟩, hrd, (fun h => by cases h), (fun _ => by simp [encs]), (fun n hn => by cases hn), HO1.out.trans (hok2.trans hrd.2.1), by simp⟩
  clear hrd hok2 hsz2 hd hd2
  go_wp2_with fail
  go_loopw [4] (fun vl wr => Loop W W0 g xs vl wr) (fun _ wr => rdLen g wr)
  case atStart => exact HL0.out
  case round =>
    obtain ⟨ls, ys, f, A, c, rfl, hown, hrd, hf, hx, hle, hok, hlen⟩ := hrel
    have HOW := Lib.hid hown
    have HRD := Lib.hid hrd
    have HF := Lib.hid hf
    have HXE := Lib.hid hx
    have HLE := Lib.hid hle
    have HOK := Lib.hid hok
    have HLEN : Hid (ls.length + ys.length ≤ n) := Lib.hid (by rw [← HN.out]; exact hlen)
    have HRL := Lib.hid hrd.len
    clear hown hrd hf hx hle hok hlen
    go_wp2_with fail
    refine (left_r W0 g _ ys f HRD.out HF.out).mono ?_
    rintro e w3 ⟨rfl, rfl⟩
    cases ys with
    | nil =>
      go_wp2_with fail
      refine (end_r W0 g _ [] f HRD.out).mono ?_
      rintro e w4 ⟨rfl, rfl⟩
      cases f with
      | true =>
        have he : endOf [] true = 4 := rfl
        rw [he]
        go_wp2_with fail
        go_ret
        exact ⟨rfl, HOK.out⟩
      | false =>
        have he : endOf [] false = 0 := rfl
        rw [he]
        clear he
        have HXS : Hid (xs = encs ls) := Lib.hid (by have := HXE.out rfl; simpa using this)
        go_wp2_with fail
        refine (newWriter_w _).mono ?_
        rintro e w5 ⟨rfl, ⟨A5, c5, hw5⟩, hb5, _⟩
        have HW5 := Lib.hid hw5
        have HB5 : Hid (Ok wr w5) := Lib.hid hb5
        clear hw5 hb5
        have HLN : Hid (ls.length ≤ 20000) := Lib.hid (by have := HLEN.out; omega)
        go_wp2_with fail
        refine (numbers_w wr.heap.size _ [] _ HW5.out ls A ls.length c rfl (by have := HLN.out; omega) (by decide) ?_).mono ?_
        · intro k hk
          obtain ⟨hro, _⟩ := HOW.out
          rcases hro.2 with ⟨_, h5⟩ | ⟨h', cap, cur, heq, hh⟩
          · omega
          · simp only [Value.slice.injEq] at heq
            obtain ⟨rfl, _, rfl⟩ := heq
            have hlt := (hro.lt h' rfl).2
            have hcl := hro.cellAt k (by omega)
            have hcl : wr.cell? ⟨h', k, none⟩ = some (iv (ls.getD k 0)) := by rw [hcl]; simp [hk]
            refine ⟨h', 0, rfl, by rw [Nat.zero_add]; exact HB5.out.cell hcl, ?_, fun _ => hlt⟩
            have : ls.getD k 0 = ls[k]'hk := by simp [hk]
            rw [this]
            exact HLE.out _ (List.getElem_mem hk)
        rintro e w6 ⟨rfl, ⟨A6, c6, hw6⟩, hb6⟩
        have HW6 := Lib.hid hw6
        have HB6 : Hid (Ok wr w6) := Lib.hid (HB5.out.trans' hb6)
        clear hw6 hb6
        go_wp2_with fail
        refine (done_w wr.heap.size _ _ _ HW6.out (by have h1 := encs_len ls; have h2 := HLN.out; simp only [List.nil_append]; omega)).mono ?_
        rintro e w7 ⟨⟨A7, c7, rfl, hby⟩, hok7, _⟩
        have HBY : Hid (BytesIn w7 (.slice A7 n c7) xs) := Lib.hid (by
          have h2 := hby
          simp only [List.nil_append] at h2
          rw [← HXS.out, HN.out] at h2
          exact h2)
        have HB7 : Hid (Ok W w7) := Lib.hid (HOK.out.trans (HB6.out.trans hok7))
        have hlen7 : ([] ++ encs ls).length = n := by rw [List.nil_append, ← HXS.out]; exact HN.out
        rw [hlen7]
        clear hby hok7 hlen7
        go_wp2_with fail
        refine (sameBytes_v _ _ xs _ (HB7.out.bytes HX.out) HBY.out).mono ?_
        rintro e w8 ⟨rfl, hok8⟩
        have HB8 : Hid (Ok W w8) := Lib.hid (HB7.out.trans hok8)
        clear hok8
        go_wp2_with fail
        go_ret
        exact ⟨rfl, HB8.out⟩
    | cons y r =>
      have hff : f = false := by
        cases f with
        | false => rfl
        | true => cases HF.out rfl
      subst hff
      simp only [List.length_cons]
      go_wp2_with fail
      have hnum : Calls Try.prog 20 #[.pointer (some ⟨g, 0, none⟩), .int .i64 4611686018427387903] wr (RdPost W0 g wr (.int .i64 (resN (rd 4611686018427387903 (y :: r)) : Int)) (resL (rd 4611686018427387903 (y :: r))) (resF (rd 4611686018427387903 (y :: r)))) :=
        Number_r W0 g wr (y :: r) 4611686018427387903 (Nat.le_refl _) HRD.out
      refine hnum.mono ?_
      clear hnum
      rintro e w4 ⟨rfl, hr4, ho4⟩
      have HO4 := Lib.hid ho4
      have HOK4 : Hid (Ok W w4) := Lib.hid (HOK.out.trans' (ho4.below HG.out))
      have HOW4 := Lib.hid (HOW.out.only ho4)
      clear ho4
      cases hrdd : rd 4611686018427387903 (y :: r) with
      | none =>
        rw [hrdd] at hr4
        clear hrdd
        have HR4 : Hid (Rd W0 g w4 [] true) := Lib.hid hr4
        clear hr4
        simp only [resN]
        go_wp2_with fail
        refine (end_r W0 g _ [] true HR4.out).mono ?_
        rintro e w5 ⟨rfl, rfl⟩
        have he : endOf [] true = 4 := rfl
        rw [he]
        clear he
        go_wp2_with fail
        refine (left_r W0 g _ [] true HR4.out (fun _ => rfl)).mono ?_
        rintro e w5 ⟨rfl, rfl⟩
        have hre : Loop W W0 g xs (.slice A ls.length c) w4 :=
          ⟨ls, [], true, A, c, rfl, HOW4.out, HR4.out, (fun _ => rfl), (fun h => by cases h), HLE.out, HOK4.out, by have h1 := HLEN.out; rw [HN.out]; simp only [List.length_nil]; simp only [List.length_cons] at h1; omega⟩
        have hme : rdLen g w4 < rdLen g wr := by
          rw [HR4.out.len, HRL.out]; simp
        have HRE := Lib.hid hre
        have HME := Lib.hid hme
        clear hre hme
        go_wp2_with fail
        go_roundw
        case rel => exact HRE.out
        case measure => exact HME.out
      | some p =>
        obtain ⟨N, r'⟩ := p
        rw [hrdd] at hr4
        have HEN := Lib.hid (rd_enc _ _ _ _ hrdd)
        clear hrdd
        have HR4 : Hid (Rd W0 g w4 r' false) := Lib.hid hr4
        clear hr4
        simp only [resN]
        go_wp2_with fail
        refine (end_r W0 g _ r' false HR4.out).mono ?_
        rintro e w5 ⟨rfl, rfl⟩
        by_cases hr0 : 0 < r'.length
        · have he : endOf r' false = 4 := by simp [endOf, hr0]
          rw [he]
          clear he
          go_wp2_with fail
          refine (left_r W0 g _ r' false HR4.out (fun h => by cases h)).mono ?_
          rintro e w5 ⟨rfl, rfl⟩
          have hd : decide (0 < r'.length) = true := decide_eq_true hr0
          have hnew : (w4.alloc (.cells #[.int .i64 (N : Int)] 3)).cell? ⟨w4.heap.size, 0, none⟩ = some (iv N) := cell_new w4 _ 3
          have HNEW := Lib.hid hnew
          clear hnew
          have HOWA : Hid (OwnI (w4.alloc (.cells #[.int .i64 (N : Int)] 3)) (g + 1) A ls.length c ls) := Lib.hid ⟨World.ownsRow.alloc HOW4.out.1 _, rfl⟩
          have HSZ : Hid (g + 1 ≤ (w4.alloc (.cells #[.int .i64 (N : Int)] 3)).heap.size) := Lib.hid (by
            obtain ⟨_, _, ⟨_, _, h0⟩, _⟩ := HR4.out
            have := World.block_lt_of_cell? _ _ h0
            rw [World.size_alloc]
            exact Nat.le_succ_of_le this)
          go_wp2_with (at_builtin; go_must (refine wpList_appI rfl (.tmp 28) (.tmp 30) rfl (g + 1) A ls.length c ls w4.heap.size N rfl rfl HOWA.out HNEW.out (by have := HLEN.out; simp only [List.length_cons] at this; omega) HSZ.out ?_; intro A' c' w6 hown6 hbel6; have HOW6 := Lib.hid hown6; have HBEL6 := Lib.hid hbel6; clear hown6 hbel6))
          have HB6 : Hid (Below (g + 1) w4 w6) := Lib.hid (by
            obtain ⟨_, _, ⟨_, _, h0⟩, _⟩ := HR4.out
            have := World.block_lt_of_cell? _ _ h0
            exact ((Below.refl (g + 1) w4).alloc this _).trans HBEL6.out)
          have HR6 := Lib.hid (HR4.out.below1 HB6.out)
          have hre : Loop W W0 g xs (.slice A' (ls.length + 1) c') w6 := by
            refine ⟨ls ++ [N], r', false, A', c', by simp, by simpa using HOW6.out, HR6.out, (fun h => by cases h), fun _ => ?_, ?_, HOK4.out.trans' (HB6.out.mono (Nat.le_trans HG.out (Nat.le_succ g))), ?_⟩
            · rw [encs_snoc, List.append_assoc, ← HEN.out.1]; exact HXE.out trivial
            · intro n' hn'
              rw [List.mem_append, List.mem_singleton] at hn'
              rcases hn' with hn' | rfl
              · exact HLE.out n' hn'
              · exact HEN.out.2.1
            · have h1 := HLEN.out
              have h2 := HEN.out.2.2
              rw [HN.out, List.length_append, List.length_singleton]; simp only [List.length_cons] at h1 h2; omega
          have hme : rdLen g w6 < rdLen g wr := by
            rw [HR6.out.len, HRL.out]
            exact HEN.out.2.2
          go_roundw
          case rel => exact hre
          case measure => exact hme
        · have he : endOf r' false = 0 := by unfold endOf; rw [decide_eq_false hr0]; rfl
          rw [he]
          clear he
          have hnew : (w4.alloc (.cells #[.int .i64 (N : Int)] 3)).cell? ⟨w4.heap.size, 0, none⟩ = some (iv N) := cell_new w4 _ 3
          have HNEW := Lib.hid hnew
          clear hnew
          have HOWA : Hid (OwnI (w4.alloc (.cells #[.int .i64 (N : Int)] 3)) (g + 1) A ls.length c ls) := Lib.hid ⟨World.ownsRow.alloc HOW4.out.1 _, rfl⟩
          have HSZ : Hid (g + 1 ≤ (w4.alloc (.cells #[.int .i64 (N : Int)] 3)).heap.size) := Lib.hid (by
            obtain ⟨_, _, ⟨_, _, h0⟩, _⟩ := HR4.out
            have := World.block_lt_of_cell? _ _ h0
            rw [World.size_alloc]
            exact Nat.le_succ_of_le this)
          go_wp2_with (at_builtin; go_must (refine wpList_appI rfl (.tmp 28) (.tmp 30) rfl (g + 1) A ls.length c ls w4.heap.size N rfl rfl HOWA.out HNEW.out (by have := HLEN.out; simp only [List.length_cons] at this; omega) HSZ.out ?_; intro A' c' w6 hown6 hbel6; have HOW6 := Lib.hid hown6; have HBEL6 := Lib.hid hbel6; clear hown6 hbel6))
          have HB6 : Hid (Below (g + 1) w4 w6) := Lib.hid (by
            obtain ⟨_, _, ⟨_, _, h0⟩, _⟩ := HR4.out
            have := World.block_lt_of_cell? _ _ h0
            exact ((Below.refl (g + 1) w4).alloc this _).trans HBEL6.out)
          have HR6 := Lib.hid (HR4.out.below1 HB6.out)
          have hre : Loop W W0 g xs (.slice A' (ls.length + 1) c') w6 := by
            refine ⟨ls ++ [N], r', false, A', c', by simp, by simpa using HOW6.out, HR6.out, (fun h => by cases h), fun _ => ?_, ?_, HOK4.out.trans' (HB6.out.mono (Nat.le_trans HG.out (Nat.le_succ g))), ?_⟩
            · rw [encs_snoc, List.append_assoc, ← HEN.out.1]; exact HXE.out trivial
            · intro n' hn'
              rw [List.mem_append, List.mem_singleton] at hn'
              rcases hn' with hn' | rfl
              · exact HLE.out n' hn'
              · exact HEN.out.2.1
            · have h1 := HLEN.out
              have h2 := HEN.out.2.2
              rw [HN.out, List.length_append, List.length_singleton]; simp only [List.length_cons] at h1 h2; omega
          have hme : rdLen g w6 < rdLen g wr := by
            rw [HR6.out.len, HRL.out]
            exact HEN.out.2.2
          go_roundw
          case rel => exact hre
          case measure => exact hme
end Go.Proofs.Ytmbnknbbfipciaa
