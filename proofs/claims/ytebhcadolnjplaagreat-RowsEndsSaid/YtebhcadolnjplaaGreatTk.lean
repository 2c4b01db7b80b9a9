/- Rows lent, with marks behind them; whether they are kept. -/
import Derived.Test.YtebhcadolnjplaaGreatTc
import Derived.Deep.MidRow
namespace Go.Proofs.YtebhcadolnjplaaGreat
open Go.RowKit
theorem blk_new {w : World} {n : Nat} {o : Obj} (h : w.heap.size = n) : (w.alloc o).heap[n]? = some o := h ▸ heap_alloc_new w o
theorem blk_old {w : World} {n : Nat} {o o' : Obj} (h : w.heap[n]? = some o) : (w.alloc o').heap[n]? = some o := by
  have hn : n < w.heap.size := (Array.getElem?_eq_some_iff.1 h).1
  rw [((Ok.refl w).alloc o').block n hn]; exact h
theorem cell_of_heap {w : World} {b ty : Nat} {cs : Array Value} {fz : Nat × Nat} (h : w.heap[b]? = some (.cells cs ty fz)) (i : Nat) : w.cell? ⟨b, i, none⟩ = cs[i]? := by
  simp [World.cell?, h]
theorem grownBy_below {w w' : World} {r : Option Nat} {B : Nat} (h : w.grownBy w' r) (hr : ∀ b, r = some b → B ≤ b) (hB : B ≤ w.heap.size) : Below B w w' :=
  ⟨h.os, h.tape, h.output, h.size, fun k hk => h.block k (by omega) (fun e => by have := hr k e.symm; omega)⟩
def mkTx (m i : Nat) : Str := ⟨#[35, UInt8.ofNat m, UInt8.ofNat (m / 256), UInt8.ofNat (m / 65536), 47, UInt8.ofNat i, UInt8.ofNat (i / 256), UInt8.ofNat (i / 65536)]⟩
def markA (m i : Nat) : Rw := ⟨mkTx m i, ⟨#[]⟩⟩
theorem u8w (n : Nat) : IntKind.u8.wrap (n : Int) = ((UInt8.ofNat n).toNat : Int) := by
  rw [IntKind.wrap_u8, UInt8.toNat_ofNat']; omega
theorem mk_at (a b c d e f : UInt8) (j : Nat) (hj : j < 8) : (#[Value.int .u8 35, .int .u8 (a.toNat : Int), .int .u8 (b.toNat : Int), .int .u8 (c.toNat : Int), .int .u8 47, .int .u8 (d.toNat : Int), .int .u8 (e.toNat : Int), .int .u8 (f.toNat : Int)] : Array Value)[j]? = some (Value.int .u8 ((([35, a, b, c, 47, d, e, f] : List UInt8).getD j 0).toNat : Int)) := by
  match j, hj with
  | 0, _ => rfl
  | 1, _ => rfl
  | 2, _ => rfl
  | 3, _ => rfl
  | 4, _ => rfl
  | 5, _ => rfl
  | 6, _ => rfl
  | 7, _ => rfl
set_option maxRecDepth 100000 in
theorem mk_cv (w : World) (a b c d e f : UInt8) : (convert 50 9 (.slice (some ⟨w.heap.size, 0, none⟩) 8 8)).run Tryz.prog (w.alloc (.cells #[.int .u8 35, .int .u8 (a.toNat : Int), .int .u8 (b.toNat : Int), .int .u8 (c.toNat : Int), .int .u8 47, .int .u8 (d.toNat : Int), .int .u8 (e.toNat : Int), .int .u8 (f.toNat : Int)] 5)) = .ok (.string ⟨#[35, a, b, c, 47, d, e, f]⟩) (w.alloc (.cells #[.int .u8 35, .int .u8 (a.toNat : Int), .int .u8 (b.toNat : Int), .int .u8 (c.toNat : Int), .int .u8 47, .int .u8 (d.toNat : Int), .int .u8 (e.toNat : Int), .int .u8 (f.toNat : Int)] 5)) := by
  have := run_convert_bytes_back (P := Tryz.prog) (w.alloc (.cells #[.int .u8 35, .int .u8 (a.toNat : Int), .int .u8 (b.toNat : Int), .int .u8 (c.toNat : Int), .int .u8 47, .int .u8 (d.toNat : Int), .int .u8 (e.toNat : Int), .int .u8 (f.toNat : Int)] 5)) 50 9 5 ⟨w.heap.size, 0, none⟩ 8 [35, a, b, c, 47, d, e, f] Tryz.underlying50 Tryz.underlying5 Tryz.underlying9 (fun j hj => by
    have hj8 : j < 8 := hj
    rw [Addr.add_lit, World.cell?_alloc_at _ _ _ _ rfl, Nat.zero_add, mk_at a b c d e f j hj8]
    simp [List.getD, hj8])
  exact this
set_option maxRecDepth 100000 in
set_option maxHeartbeats 1000000 in
theorem markText_w (m i : Nat) (_hm : m ≤ 10000000) (_hi : i ≤ 10000000) (w : World) : Calls Tryz.prog 99 #[.int .i64 (m : Int), .int .i64 (i : Int)] w (Ret w (.string (mkTx m i))) := by
  have e1 : (m : Int) / 256 = ((m / 256 : Nat) : Int) := by omega
  have e2 : (m : Int) / 65536 = ((m / 65536 : Nat) : Int) := by omega
  have e3 : (i : Int) / 256 = ((i / 256 : Nat) : Int) := by omega
  have e4 : (i : Int) / 65536 = ((i / 65536 : Nat) : Int) := by omega
  have hcv := mk_cv w (UInt8.ofNat m) (UInt8.ofNat (m / 256)) (UInt8.ofNat (m / 65536)) (UInt8.ofNat i) (UInt8.ofNat (i / 256)) (UInt8.ofNat (i / 65536))
  have w1 := u8w m
  have w2 := u8w i
  have w3 : IntKind.u8.wrap ((m : Int) / 256) = ((UInt8.ofNat (m / 256)).toNat : Int) := by rw [e1]; exact u8w _
  have w4 : IntKind.u8.wrap ((m : Int) / 65536) = ((UInt8.ofNat (m / 65536)).toNat : Int) := by rw [e2]; exact u8w _
  have w5 : IntKind.u8.wrap ((i : Int) / 256) = ((UInt8.ofNat (i / 256)).toNat : Int) := by rw [e3]; exact u8w _
  have w6 : IntKind.u8.wrap ((i : Int) / 65536) = ((UInt8.ofNat (i / 65536)).toNat : Int) := by rw [e4]; exact u8w _
  clear e1 e2 e3 e4
  unfold mkTx
  generalize UInt8.ofNat m = a at *
  generalize UInt8.ofNat (m / 256) = b at *
  generalize UInt8.ofNat (m / 65536) = c at *
  generalize UInt8.ofNat i = d at *
  generalize UInt8.ofNat (i / 256) = e at *
  generalize UInt8.ofNat (i / 65536) = f at *
  go_enter Tryz.func99, Tryz.ntmps99
  go_wp2_with fail
  go_ret
  exact ⟨rfl, (Ok.refl w).alloc _⟩
theorem frz_raw {w : World} {p ty : Nat} {cs : Array Value} (h : w.heap[p]? = some (.cells cs ty (0, 0))) (i : Nat) : w.frozen? ⟨p, i, none⟩ = false := by
  simp [World.frozen?, h]
set_option maxHeartbeats 1000000 in
theorem markA_w (m i : Nat) (hm : m ≤ 10000000) (hi : i ≤ 10000000) (w : World) : Calls Tryz.prog 53 #[.int .i64 (m : Int), .int .i64 (i : Int)] w (Ret w (.agg #[.string (markA m i).key, .string (markA m i).val])) := by
  have HT := Lib.hid (fun V => markText_w m i hm hi V)
  unfold markA
  simp only
  generalize mkTx m i = t at *
  go_enter Tryz.func53, Tryz.ntmps53
  go_wp2_with fail
  (with_reducible refine (HT.out _).mono ?_)
  rintro _ w1 ⟨rfl, o1⟩
  have hb : w1.heap[w.heap.size]? = some (.cells #[.string ⟨#[]⟩, .string ⟨#[]⟩] 48 (0, 0)) := (Below.block o1 w.heap.size (by simp)).trans (blk_new rfl)
  have K0 : w1.cell? ⟨w.heap.size, 0, none⟩ = some (.string ⟨#[]⟩) := by rw [cell_of_heap hb]; rfl
  have K1 : w1.cell? ⟨w.heap.size, 1, none⟩ = some (.string ⟨#[]⟩) := by rw [cell_of_heap hb]; rfl
  have F0 : w1.frozen? ⟨w.heap.size, 0, none⟩ = false := frz_raw hb 0
  have F1 : w1.frozen? ⟨w.heap.size, 1, none⟩ = false := frz_raw hb 1
  have HB : Hid (Below w.heap.size w w1) := Lib.hid (Below.trans (Ok.alloc (Ok.refl w) _) (Below.mono o1 (by simp)))
  clear o1 hb HT
  generalize hp : w.heap.size = p at *
  go_wp2_with fail
  have Z0 : ((w1.setCell ⟨p, 0, none⟩ (.string t)).setCell ⟨p, 1, none⟩ (.string ⟨#[]⟩)).cell? ⟨p, 0, none⟩ = some (.string t) := by go_simp
  have Z1 : ((w1.setCell ⟨p, 0, none⟩ (.string t)).setCell ⟨p, 1, none⟩ (.string ⟨#[]⟩)).cell? ⟨p, 1, none⟩ = some (.string ⟨#[]⟩) := by go_simp
  have HZ : Hid (Below p w ((w1.setCell ⟨p, 0, none⟩ (.string t)).setCell ⟨p, 1, none⟩ (.string ⟨#[]⟩))) := Lib.hid (by subst hp; exact ((Below.setCell HB.out (Nat.le_refl _) _).setCell (Nat.le_refl _) _))
  clear K0 K1 F0 F1 HB
  generalize ((w1.setCell ⟨p, 0, none⟩ (.string t)).setCell ⟨p, 1, none⟩ (.string ⟨#[]⟩)) = Z at *
  refine bodyPost_ret (by simp [results, Tryz.results53, go_sem, Z0, Z1]; try rfl) rfl ?_
  exact ⟨rfl, by subst hp; exact HZ.out⟩
def marksA (m : Nat) : List Rw := (List.range m).map (markA 1)
theorem marksA_len (m : Nat) : (marksA m).length = m := by simp [marksA]
theorem marksA_succ (m : Nat) : marksA (m + 1) = marksA m ++ [markA 1 m] := by simp [marksA, List.range_succ]
/-- Rows of any address appended; nil too. -/
theorem wpList_appRN {ops : Array Oper} {rest : List Oper} {o : Oper} {a : Act} {w : World} {Q : Exit → Act → World → Prop} (hgd : o.guard = none) (s x : Operand)
    (ho : o.op = .call { callee := .builtin .append, args := #[s, x], argTypes := #[29, 29] })
    (base : Nat) (A : Option Addr) (n c : Nat) (l : List Rw) (hs : a.eval s = .slice A n c) (hown : OwnR w base A n c l) (A2 : Option Addr) (m d : Nat) (k : List Rw) (hk : k.length = m) (hx : a.eval x = .slice A2 m d) (hnil : A2 = none → d = 0)
    (hin : RowsIn w A2 k) (hn : n + m ≤ 1000000) (hbase : base ≤ w.heap.size)
    (h : ∀ A' c' w', OwnR w' base A' (n + m) c' (l ++ k) → w.grownBy w' (Value.slice A n c).ownBlock → wpList Tryz.prog ops Q rest (a.put o.dst (.slice A' (n + m) c')) w') : wpList Tryz.prog ops Q (o :: rest) a w := by
  cases A2 with
  | none =>
    obtain rfl : k = [] := by
      cases k with
      | nil => rfl
      | cons y k => obtain ⟨_, _, e, _⟩ := hin 0 (by simp); cases e
    obtain rfl : m = 0 := hk.symm
    obtain rfl := hnil rfl
    obtain ⟨i0, hi, hz0, hz1, hz2⟩ := info_parts info105
    refine wpList_append_own_none hgd s x 29 ho base 48 i0 2 Tryz.underlying29 hi _ n (flat2 l) hs hown.2 hx ?_
    exact h A c w (by simpa using hown) ⟨rfl, rfl, rfl, Nat.le_refl _, fun _ _ _ => rfl⟩
  | some ad =>
    obtain ⟨i0, hi, hz0, hz1, hz2⟩ := info_parts info105
    have hin2 : ∀ j u, (flat2 k)[j]? = some u → w.cell? (ad.add j) = some u := by
      cases k with
      | nil => intro j u hu; simp [flat2] at hu
      | cons y k =>
        obtain ⟨b, off, e, _⟩ := hin 0 (by simp)
        simp only [Option.some.injEq] at e
        subst e
        intro j u hu
        exact hin.cell b off rfl j u hu
    refine wpList_append_own _ hgd s x 29 ho base 48 i0 _ 2 32 Tryz.underlying29 hi hz0 hz1 hz2 rfl (by decide) (.slice A n c) n (flat2 l) hs hown.2 ad m d (flat2 k) hx (by rw [flat2_len, hk]) hin2 (flat2_one k) (by unfold maxLen; omega) (by omega) hbase ?_
    intro v' w' h2 h3 _
    rw [← flat2_append] at h2
    have hv : ∃ A c, v' = .slice A (n + m) c := by
      rcases h2.2 with ⟨rfl, q⟩ | ⟨g, cap, cur, rfl, _⟩
      · exact ⟨none, 0, by rw [q]⟩
      · exact ⟨_, _, rfl⟩
    obtain ⟨A', c', rfl⟩ := hv
    exact h A' c' w' ⟨by rw [List.length_append, hown.1, hk], h2⟩ h3
theorem OwnR.form {w : World} {B : Nat} {A : Option Addr} {n c : Nat} {xs : List Rw} (h : OwnR w B A n c xs) (hp : 0 < n) : ∃ g, A = Option.some ⟨g, 0, none⟩ ∧ n ≤ c ∧ B ≤ g := by
  rcases h.2.2 with ⟨e, h5⟩ | ⟨g, cap, cur, e, r1, r2, r3, r4, r5⟩
  · omega
  · simp only [Value.slice.injEq] at e
    obtain ⟨rfl, -, rfl⟩ := e
    exact ⟨g, rfl, by omega, r1⟩
/-- What LentLines leaves: the rows, in a new list, with twelve marks behind them. -/
def LentP (w : World) (zs : List Rw) : Ending → World → Prop := fun e w' => ∃ g cap, e = .returned (.slice (some ⟨g, 0, none⟩) zs.length cap) ∧ zs.length + 12 ≤ cap ∧ w.heap.size ≤ g ∧ Ok w w' ∧ OwnR w' w.heap.size (some ⟨g, 0, none⟩) (zs.length + 12) cap (zs ++ marksA 12)
set_option maxRecDepth 100000 in
set_option maxHeartbeats 4000000 in
theorem lent_f (A : Option Addr) (n c : Nat) (zs : List Rw) (hn : zs.length = n) (hn6 : n ≤ 10000) (w : World) (hI : RowsIn w A zs) (hA0 : A = none → c = 0) : Calls Tryz.prog 29 #[.slice A n c] w (LentP w zs) := by
  have H := Lib.hid hI
  have HA0 := Lib.hid hA0
  have HN := Lib.hid hn
  clear hI hn hA0
  obtain ⟨i0, hi, hz0, hz1, hz2⟩ := info_parts info105
  have HI := Lib.hid hi
  have HZ0 := Lib.hid hz0
  have HZ1 := Lib.hid hz1
  have HZ2 := Lib.hid hz2
  clear hi hz0 hz1 hz2
  go_enter Tryz.func29, Tryz.ntmps29
  go_wp2_with (first
    | (at_make; go_must (refine wpList_make_own _ rfl _ _ 29 rfl w.heap.size 48 i0 (.agg #[.string ⟨#[]⟩, .string ⟨#[]⟩]) 2 Tryz.underlying29 HI.out HZ0.out HZ1.out .i64 .i64 _ (n + 12) rfl rfl (by first | rfl | simp | (push_cast; omega)) (by rw [HZ2.out]; omega) (by unfold maxLen; omega) (Nat.le_refl _) ?_; intro w0 hown0 hgrow0; have HOW0 : Hid (OwnR w0 w.heap.size (some ⟨w.heap.size, 0, none⟩) 0 (n + 12) []) := Lib.hid ⟨rfl, hown0⟩; have HB0 : Hid (Ok w w0) := Lib.hid ((Below.refl _ _).grown hgrow0 (Nat.le_refl _) (fun k hk => by cases hk)); clear hown0 hgrow0))
    | (at_builtin; go_must (refine wpList_appRN rfl (.tmp 9) (.tmp 10) rfl w.heap.size _ _ _ [] rfl HOW0.out A n c zs HN.out rfl HA0.out (H.out.ok HB0.out) (by simp; omega) HB0.out.size ?_; intro A1 c1 w1 hown1 hbel1; simp only [List.nil_append, Nat.zero_add] at hown1 ⊢; have HOW1 := Lib.hid hown1; have HB1 : Hid (Ok w w1) := Lib.hid (Below.trans HB0.out (grownBy_below hbel1 (fun j e => (HOW0.out.2.lt j e).1) HB0.out.size)); clear hown1 hbel1)))
  go_loopw [3, 4] (fun o i wr => ∃ (j : Nat) (A2 : Option Addr) (n2 c2 : Nat), j ≤ 12 ∧ i = .int .i64 j ∧ o = .slice A2 n2 c2 ∧ OwnR wr w.heap.size A2 n2 c2 (zs ++ marksA j) ∧ Ok w wr) (fun _ i _ => 12 - (intOf i).toNat)
  case atStart => exact ⟨0, A1, _, c1, by omega, rfl, rfl, by simpa [marksA] using HOW1.out, HB1.out⟩
  case round =>
    obtain ⟨j, A2, n2, c2, hj, rfl, rfl, hown, hok⟩ := hrel
    have HOW := Lib.hid hown
    have HOK := Lib.hid hok
    clear hown hok HOW1 HB1 HOW0 HB0
    by_cases hlt : j < 12
    · have HMS := Lib.hid (marksA_succ j)
      have HL : Hid (n2 + 1 ≤ 1000000) := Lib.hid (by have h := HOW.out.1; rw [List.length_append, marksA_len, HN.out] at h; omega)
      have hd : decide ((j : Int) < 12) = true := decide_eq_true (by omega)
      have hmk := fun w' => markA_w 1 j (by decide) (by omega) w'
      obtain ⟨⟨ykey, yval⟩, hy⟩ : ∃ y, markA 1 j = y := ⟨_, rfl⟩
      rw [hy] at hmk HMS
      simp only at hmk
      clear hy
      go_wp2_with fail
      refine (hmk _).mono ?_
      rintro e w2 ⟨rfl, o2⟩
      have HNEW : Hid (RowsIn (w2.alloc (.cells #[.string ykey, .string yval] 48)) (some ⟨w2.heap.size, 0, none⟩) [⟨ykey, yval⟩]) := Lib.hid (RowsIn.one _ _ ⟨ykey, yval⟩ (heap_alloc_new w2 _))
      have HOA : Hid (Ok w2 (w2.alloc (.cells #[.string ykey, .string yval] 48))) := Lib.hid ((Ok.refl w2).alloc _)
      have HOWA : Hid (OwnR (w2.alloc (.cells #[.string ykey, .string yval] 48)) w.heap.size A2 n2 c2 (zs ++ marksA j)) := Lib.hid ((HOW.out.ok o2).ok HOA.out)
      have HOK2 := Lib.hid (Ok.trans (Ok.trans HOK.out o2) HOA.out)
      clear o2
      go_wp2_with (at_builtin; go_must (refine wpList_appRN rfl (.tmp 16) (.tmp 19) rfl w.heap.size _ _ _ (zs ++ marksA j) rfl HOWA.out (some ⟨w2.heap.size, 0, none⟩) 1 1 [⟨ykey, yval⟩] rfl rfl (fun e => by cases e) HNEW.out HL.out HOK2.out.size ?_; intro A3 c3 w3 hown3 hbel3; have HOW3 := Lib.hid hown3; have HB3 : Hid (Ok w w3) := Lib.hid (Below.trans HOK2.out (grownBy_below hbel3 (fun j e => (HOWA.out.2.lt j e).1) HOK2.out.size)); clear hown3 hbel3))
      go_roundw
      case rel => exact ⟨j + 1, A3, _, c3, by omega, by go_num, rfl, by rw [HMS.out, ← List.append_assoc]; exact HOW3.out, HB3.out⟩
      case measure => simp [intOf]; omega
    · have hje : j = 12 := by omega
      subst hje
      have hl : (zs ++ marksA 12).length = n + 12 := by rw [List.length_append, marksA_len, HN.out]
      have hn2 : n2 = n + 12 := by rw [← HOW.out.1, hl]
      subst hn2
      obtain ⟨g, rfl, hcap, hg⟩ := HOW.out.form (by omega)
      have hi1 : (n : Int) ≤ (c2 : Int) := by omega
      have hn0 : (0 : Int) ≤ (n : Int) := by omega
      have HFIN : Hid (∀ e, e = .returned (.slice (some ⟨g, 0, none⟩) n c2) → LentP w zs e wr) := Lib.hid fun e he => ⟨g, c2, by rw [HN.out]; exact he, by rw [HN.out]; exact hcap, hg, HOK.out, by rw [HN.out]; exact HOW.out⟩
      clear hl hg hcap HOW
      go_wp2_with fail
      go_ret
      exact HFIN.out _ rfl
end Go.Proofs.YtebhcadolnjplaaGreat
