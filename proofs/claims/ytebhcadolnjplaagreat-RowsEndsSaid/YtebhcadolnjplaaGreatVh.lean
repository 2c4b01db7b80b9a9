/- A deed done to a table and to the document's own rows. -/
import Derived.Test.YtebhcadolnjplaaGreatVg
namespace Go.Proofs.YtebhcadolnjplaaGreat
open Go.RowKit

theorem Rises.pw : ∀ {l : List Rw}, Rises l → l.Pairwise fun a b => ltB a.key b.key = true
  | [], _ => List.Pairwise.nil
  | _ :: _, h => List.pairwise_cons.2 ⟨(rises_cons h).1, (rises_cons h).2.pw⟩
theorem Rises.sub {l m : List Rw} (h : Rises l) (hs : m.Sublist l) : Rises m := by
  have := h.pw.sublist hs
  intro i j hij hj
  have hi : i < m.length := by omega
  have := List.pairwise_iff_getElem.1 this i j hi hj hij
  simpa [rwA, hi, hj] using this
theorem stay_rises {s : Sp} {l : List Rw} (h : Rises l) : Rises (stay s l) := h.sub List.filter_sublist
theorem stay_len_add (s : Sp) (l : List Rw) : (stay s l).length + (meant s l).length = l.length := by
  unfold stay meant
  induction l with
  | nil => rfl
  | cons a l ih =>
    simp only [List.filter_cons]
    cases hasB s a.key <;> simp <;> omega
theorem lastIn_mem {xs : List Rw} {x : Rw} (h : LastIn xs x) : x ∈ xs := by
  obtain ⟨a, b, rfl, _⟩ := h
  simp
theorem rightL.laid {l xs l' : List Rw} (hr : Rises l) (hk : rightL l) (hx : allR xs = true) (h : LaidAll l xs l') : rightL l' := by
  intro r hm
  rcases (h.mem hr r).1 hm with q | ⟨q, _⟩
  · obtain ⟨j, hj, rfl⟩ := (mem_rwA _ _).1 (lastIn_mem q)
    exact (allR_iff xs).1 hx j hj
  · exact hk r q
theorem rightL.nil : rightL [] := fun _ h => by cases h
theorem rightL.sub {l m : List Rw} (h : rightL l) (hs : ∀ r, r ∈ m → r ∈ l) : rightL m := fun r hr => h r (hs r hr)

/-- Only blocks of F have turned, of what was there. -/
structure Chg (F : Nat → Prop) (w w' : World) : Prop where
  os : w'.os = w.os
  tape : w'.tape = w.tape
  output : w'.output = w.output
  size : w.heap.size ≤ w'.heap.size
  block : ∀ b, b < w.heap.size → ¬ F b → w'.heap[b]? = w.heap[b]?
theorem Chg.ok {F : Nat → Prop} {w w' : World} (h : Ok w w') : Chg F w w' := ⟨h.os, h.tape, h.output, h.size, fun b hb _ => h.block b hb⟩
theorem Chg.k2 {F : Nat → Prop} {p : Nat} {r : Option Nat} {w w' : World} (h : K2 p r w w') (hp : F p) (hr : ∀ k, some k = r → F k) : Chg F w w' :=
  ⟨h.os, h.tape, h.output, h.size, fun b hb hn => h.block b hb (fun e => hn (e ▸ hp)) (fun e => hn (hr b e))⟩
theorem Chg.trans {F : Nat → Prop} {a b c : World} (h : Chg F a b) (k : Chg F b c) : Chg F a c :=
  ⟨k.os.trans h.os, k.tape.trans h.tape, k.output.trans h.output, Nat.le_trans h.size k.size, fun i hi hn => (k.block i (Nat.lt_of_lt_of_le hi h.size) hn).trans (h.block i hi hn)⟩
theorem putRel_ok {l xs l' : List Rw} {k : Int} (hr : Rises l) (ht : rightL l) (hl : l.length ≤ 400) (h : PutRel l xs k l') : Rises l' ∧ rightL l' ∧ l'.length ≤ 400 := by
  rcases h with ⟨_, _, rfl⟩ | ⟨ha, l2, hla, ⟨_, _, rfl⟩ | ⟨h2, _, rfl⟩⟩
  · exact ⟨hr, ht, hl⟩
  · exact ⟨hr, ht, hl⟩
  · exact ⟨(hla.spec hr).1, rightL.laid hr ht ha hla, h2⟩
theorem lent_part {w : World} {g : Nat} {zs : List Rw} (h : RowsIn w (some ⟨g, 0, none⟩) (zs ++ marksA 12)) : RowsIn w (some ⟨g, 0, none⟩) zs := by
  have := h.take zs.length
  rwa [List.take_left] at this
theorem RowsIn.same0 {w w' : World} {A : Option Addr} {l : List Rw} {n : Nat} (hl : l.length = n) (h : RowsIn w A l) (k : 0 < n → ∀ a, A = some a → w'.heap[a.block]? = w.heap[a.block]?) : RowsIn w' A l := by
  rcases Nat.eq_zero_or_pos n with h0 | h0
  · intro j hj
    omega
  · exact h.same (k h0)
/-- A deed's own rows and span. -/
structure DeedV (F : Nat → Prop) (W : World) (d : Dd) : Prop where
  len : d.rows.length = d.n
  n6 : d.n ≤ 1200
  rows : RowsIn W d.A d.rows
  nil : d.A = none → d.c = 0
  far : 0 < d.n → ∀ a, d.A = some a → ¬ F a.block ∧ a.block < W.heap.size
def ddV (d : Dd) : Value := .agg #[.int .i64 d.kind, .slice d.A d.n d.c, .string d.sp.lo, .string d.sp.hi]
/-- What a deed leaves. -/
def ActP (F : Nat → Prop) (p m : Nat) (W : World) (e : Ending) (w' : World) : Prop := e = .returned (.bool true) ∧ ∃ (F' : Nat → Prop) (l' : List Rw), Sd F' p m l' w' ∧ (∀ b, F' b → F b ∨ W.heap.size ≤ b) ∧ Chg F W w'
theorem at_same {w w' : World} {z : Nat} {cs : Array Value} {t : Nat} (h : w.heap[z]? = some (.cells cs t (0, 0))) (k : w'.heap[z]? = w.heap[z]?) : w'.heap[z]? = some (.cells cs t (0, 0)) := k.trans h
theorem c23 {w : World} {z t : Nat} {a b c d : Value} (h : w.heap[z]? = some (.cells #[a, b, c, d] t (0, 0))) : w.cell? ⟨z, 2, none⟩ = some c ∧ w.cell? ⟨z, 3, none⟩ = some d := ⟨by rw [cell_of_heap h]; rfl, by rw [cell_of_heap h]; rfl⟩
theorem c1 {w : World} {z t : Nat} {a b c d : Value} (h : w.heap[z]? = some (.cells #[a, b, c, d] t (0, 0))) : w.cell? ⟨z, 1, none⟩ = some b := by rw [cell_of_heap h]; rfl
set_option maxRecDepth 100000 in
set_option maxHeartbeats 4000000 in
theorem act11_f (F : Nat → Prop) (p m : Nat) (l : List Rw) (d : Dd) (W : World) (h : Sd F p m l W) (hd : DeedV F W d) : Calls Tryz.prog 11 #[.pointer (some ⟨p, 0, none⟩), .pointer (some ⟨m, 0, none⟩), ddV d] W (ActP F p m W) := by
  have HS := Lib.hid h
  have HD := Lib.hid hd
  have HPK := Lib.hid (fun V => pick5 d.kind V)
  have HPL := Lib.hid (pickI_lt d.kind 5 (by decide))
  obtain ⟨kd, A, n, c, rows, lo, hi⟩ := d
  unfold ddV
  simp only at *
  have HZ0 : Hid ((W.alloc (.cells #[.int .i64 kd, .slice A n c, .string lo, .string hi] 38)).heap[W.heap.size]? = some (.cells #[.int .i64 kd, .slice A n c, .string lo, .string hi] 38 (0, 0))) := Lib.hid (heap_alloc_new W _)
  have HK0 : Hid (Ok W (W.alloc (.cells #[.int .i64 kd, .slice A n c, .string lo, .string hi] 38))) := Lib.hid ((Ok.refl W).alloc _)
  clear h hd
  generalize hpi : pickI kd 5 = pk at *
  clear hpi
  go_enter Tryz.func11, Tryz.ntmps11
  go_wp2_with fail
  obtain ⟨z, hz⟩ : ∃ z, W.heap.size = z := ⟨_, rfl⟩
  rw [hz] at HZ0 ⊢
  have HWZ := Lib.hid hz
  clear hz
  generalize W.alloc (.cells #[.int .i64 kd, .slice A n c, .string lo, .string hi] 38) = w0 at *
  (with_reducible refine (HPK.out _).mono ?_)
  rintro _ w1 ⟨rfl, o1⟩
  have HK1 := Lib.hid (Ok.trans HK0.out o1)
  have HZ1 : Hid (w1.heap[z]? = some (.cells #[.int .i64 kd, .slice A n c, .string lo, .string hi] 38 (0, 0))) := Lib.hid (at_same HZ0.out (o1.block z (Array.getElem?_eq_some_iff.1 HZ0.out).1))
  clear o1 HZ0 HPK HK0
  have HS1 := Lib.hid (HS.out.ok HK1.out)
  have HZF : Hid (∀ b, F b → b ≠ z) := Lib.hid fun b hb => by have h1 := HS.out.lt b hb; have h2 := HWZ.out; omega
  have HZL : Hid (z < w1.heap.size) := Lib.hid (Array.getElem?_eq_some_iff.1 HZ1.out).1
  have hok1 : Ok w1 w1.drew := (Ok.refl w1).drew
  obtain ⟨Ap, cp, Am, nm, cm, t1, t2, hpm, hfa, hfm⟩ := HS1.out.ex
  have HT := Lib.hid t1
  have HF := Lib.hid t2
  have hlm := t2.len
  have hl400 := HS.out.len
  clear t1 t2
  by_cases h3 : pk = 3
  · subst h3
    have H16 : Hid (∀ V, Ok w1 V → Calls Tryz.prog 16 #[.pointer (some ⟨p, 0, none⟩), .agg #[.string lo, .string hi]] V (ListP (meant ⟨lo, hi⟩ l) V)) := Lib.hid fun V k => inR_f p Ap l.length cp l ⟨lo, hi⟩ V (HT.out.ok k) (by omega)
    have H27 : Hid (∀ V, Ok w1 V → Calls Tryz.prog 27 #[.pointer (some ⟨m, 0, none⟩), .agg #[.string lo, .string hi]] V (ListP (meant ⟨lo, hi⟩ l) V)) := Lib.hid fun V k => rin_f m Am nm cm l ⟨lo, hi⟩ V (HF.out.ok k) (by omega)
    have HML : Hid ((meant ⟨lo, hi⟩ l).length ≤ 1000000) := Lib.hid (by have := List.length_filter_le (fun r => hasB ⟨lo, hi⟩ r.key) l; unfold meant; omega)
    generalize meant ⟨lo, hi⟩ l = ml at *
    have HKS : Hid (∀ V, Ok w1 V → V.cell? ⟨z, 2, none⟩ = some (.string lo) ∧ V.cell? ⟨z, 3, none⟩ = some (.string hi)) := Lib.hid fun V k => c23 (at_same HZ1.out (k.block z HZL.out))
    go_wp2_with fail
    go_region_held3 (fun w' => w'.cell? ⟨z, 2, none⟩ = some (.string lo) ∧ w'.cell? ⟨z, 3, none⟩ = some (.string hi))
      (first | assumption | exact HKS.out _ hok1 | exact HKS.out _ (Ok.trans hok1 o2) | exact HKS.out _ (Ok.trans (Ok.trans hok1 o2) o3) | exact HKS.out _ (Ok.trans (Ok.trans (Ok.trans hok1 o2) o3) o4))
      ((first
        | (go_at_call 16; (with_reducible refine (H16.out _ ?_).mono ?_); (exact hok1); rintro _ w2 ⟨A2, n2, c2, rfl, ho2, o2⟩)
        | (go_at_call 27; (with_reducible refine (H27.out _ ?_).mono ?_); (exact Ok.trans hok1 o2); rintro _ w3 ⟨A3, n3, c3, rfl, ho3, o3⟩; obtain rfl : n3 = n2 := ho3.1.symm.trans ho2.1; have hl3 := ho3.1; have hr2 := (ho2.ok o3).rows; have hr3 := ho3.rows; have hb3 : n3 ≤ 1000000 := hl3 ▸ HML.out)
        | (go_at_call 24; (with_reducible refine (same_f A2 A3 _ c2 c3 ml hl3 hb3 _ hr2 hr3).mono ?_); rintro _ w4 ⟨rfl, o4⟩)))
    all_goals go_wp2_with fail
    all_goals go_ret
    all_goals exact ⟨rfl, F, l, HS1.out.ok (Ok.trans (Ok.trans (Ok.trans hok1 o2) o3) o4), fun b hb => .inl hb, Chg.ok (Ok.trans HK1.out (Ok.trans (Ok.trans (Ok.trans hok1 o2) o3) o4))⟩
  · by_cases h4 : pk = 4
    · subst h4
      have H21 : Hid (Calls Tryz.prog 21 #[.pointer (some ⟨p, 0, none⟩), .agg #[.string lo, .string hi]] w1.drew (TakeRP ⟨lo, hi⟩ p Ap l.length cp l w1.drew)) := Lib.hid (takeR_f p Ap l.length cp l ⟨lo, hi⟩ w1.drew (HT.out.ok hok1) (by omega))
      have H28 : Hid (∀ V, RfA m Am nm cm l V → Calls Tryz.prog 28 #[.pointer (some ⟨m, 0, none⟩), .agg #[.string lo, .string hi]] V (TakeDP ⟨lo, hi⟩ m l V)) := Lib.hid fun V k => rtake_f m Am nm cm l ⟨lo, hi⟩ V k (by omega)
      have HML : Hid ((meant ⟨lo, hi⟩ l).length ≤ 1000000) := Lib.hid (by have := List.length_filter_le (fun r => hasB ⟨lo, hi⟩ r.key) l; unfold meant; omega)
      have HSL : Hid (Rises (stay ⟨lo, hi⟩ l) ∧ rightL (stay ⟨lo, hi⟩ l) ∧ (stay ⟨lo, hi⟩ l).length ≤ 400) := Lib.hid ⟨stay_rises HS1.out.ri, HS1.out.rt.sub (fun r hr => (List.mem_filter.1 hr).1), by have := stay_len_add ⟨lo, hi⟩ l; omega⟩
      unfold TakeRP at H21
      unfold TakeDP at H28
      generalize meant ⟨lo, hi⟩ l = ml at *
      generalize stay ⟨lo, hi⟩ l = sl at *
      have hls : w1.drew.heap.size = w1.heap.size := rfl
      have hap : ∀ a, Ap = some a → a.block < w1.heap.size := fun a e => HS1.out.lt _ (hfa a e).2
      have HM2 : Hid (∀ V, K2 p (Value.slice Ap l.length cp).ownBlock w1.drew V → RfA m Am nm cm l V) := Lib.hid fun V k => by
        have hne : ∀ b, F b → b ≠ p → (∀ a, Ap = some a → b ≠ a.block) → V.heap[b]? = w1.drew.heap[b]? := fun b hb h1 h2 => k.block b (HS1.out.lt b hb) h1 (fun e => by
          cases Ap with
          | none => cases e
          | some a => simp only [Value.ownBlock, Option.some.injEq] at e; exact h2 a rfl e)
        refine (HF.out.ok hok1).same (hne m HS1.out.fm (fun e => hpm e.symm) (fun a e => fun q => (hfa a e).1 q.symm)) fun a e => hne _ (hfm a e).2.1 (hfm a e).1 (fun a' e' => (hfm a e).2.2 a' e')
      have HC1 : Hid (∀ V, K2 p (Value.slice Ap l.length cp).ownBlock w1.drew V → Chg F w1.drew V ∧ V.heap[z]? = w1.drew.heap[z]?) := Lib.hid fun V k => by
        have hr : ∀ k, some k = (Value.slice Ap l.length cp).ownBlock → F k := fun k e => by
          cases Ap with
          | none => cases e
          | some a => simp only [Value.ownBlock, Option.some.injEq] at e; rw [e]; exact (hfa a rfl).2
        have hc := Chg.k2 (F := F) k HS1.out.fp hr
        exact ⟨hc, hc.block z HZL.out (fun e => HZF.out z e rfl)⟩
      have HC2 : Hid (∀ V V' : World, K2 m none V V' → z < V.heap.size → Chg F V V' ∧ V'.heap[z]? = V.heap[z]?) := Lib.hid fun V V' k hz => by
        have hc := Chg.k2 (F := F) k HS1.out.fm (fun k e => by cases e)
        exact ⟨hc, hc.block z hz (fun e => HZF.out z e rfl)⟩
      have HKZ : Hid (∀ V : World, V.heap[z]? = w1.drew.heap[z]? → V.cell? ⟨z, 2, none⟩ = some (.string lo) ∧ V.cell? ⟨z, 3, none⟩ = some (.string hi)) := Lib.hid fun V k => c23 (at_same HZ1.out k)
      have HMS : Hid (m < w1.drew.heap.size) := Lib.hid (HS1.out.lt m HS1.out.fm)
      go_wp2_with fail
      go_region_held3 (fun w' => w'.cell? ⟨z, 2, none⟩ = some (.string lo) ∧ w'.cell? ⟨z, 3, none⟩ = some (.string hi))
        (first | assumption | exact HKZ.out _ rfl | exact HKZ.out _ hz2 | exact HKZ.out _ hz3 | exact HKZ.out _ hz4)
        ((first
          | (go_at_call 21; (with_reducible refine H21.out.mono ?_); rintro _ w2 ⟨A2, n2, c2, rfl, ho2, ht2, k2⟩; have hm2 := HM2.out _ k2; have hc2 := (HC1.out _ k2).1; have hz2 := (HC1.out _ k2).2; have hl2 := ho2.1; have hs2 := k2.size)
          | (go_at_call 28; (with_reducible refine (H28.out _ ?_).mono ?_); (exact hm2); rintro _ w3 ⟨A3, n3, c3, A4, n4, c4, rfl, ho3, hm3, ho4, k3⟩; obtain rfl : n3 = n2 := ho3.1.symm.trans hl2; have hl3 := ho3.1; have hr3 := ho3.rows; have hb3 : n3 ≤ 1000000 := hl3 ▸ HML.out; have hzl : z < w2.heap.size := (Nat.lt_of_lt_of_le HZL.out hs2); have hc3 := (HC2.out _ _ k3 hzl).1; have hz3 := (HC2.out _ _ k3 hzl).2.trans hz2; have hr2 := (ho2.k2 k3 (fun a e => ⟨by have h1 := (ho2.2.lt a.block (by rw [e]; rfl)).1; have h2 := HMS.out; omega, by simp⟩)).rows; have ht3 := ht2.same (k3.block p (Nat.lt_of_lt_of_le (HS1.out.lt p HS1.out.fp) hs2) hpm (by simp)) (fun a e => k3.block a.block (Nat.lt_of_lt_of_le (hap a e) hs2) (hfa a e).1 (by simp)))
          | (go_at_call 24; (with_reducible refine (same_f A2 A3 _ c2 c3 ml hl3 hb3 _ hr2 hr3).mono ?_); rintro _ w4 ⟨rfl, o4⟩; have hz4 := (Below.block o4 z (Nat.lt_of_lt_of_le hzl k3.size)).trans hz3)))
      all_goals go_wp2_with fail
      all_goals go_ret
      all_goals
        have hfr : ∀ a, A4 = some a → w2.heap.size ≤ a.block ∧ a.block < w3.heap.size := fun a e => ho4.2.lt a.block (by rw [e]; rfl)
        refine ⟨rfl, fun b => F b ∨ (∃ a, A4 = some a ∧ a.block = b), sl, ⟨⟨Ap, cp, A4, n4, c4, ht3.ok o4, hm3.ok o4, hpm, fun a e => ⟨(hfa a e).1, .inl (hfa a e).2⟩, fun a e => ?_⟩, .inl HS1.out.fp, .inl HS1.out.fm, fun b hb => ?_, HSL.out.1, HSL.out.2.1, HSL.out.2.2⟩, fun b hb => ?_, ((Chg.ok (Ok.trans HK1.out hok1)).trans hc2).trans (hc3.trans (Chg.ok o4))⟩
        · have h1 := (hfr a e).1
          refine ⟨fun q => ?_, .inr ⟨a, e, rfl⟩, fun a' e' q => ?_⟩
          · have := HS1.out.lt p HS1.out.fp; omega
          · have := hap a' e'; omega
        · have h4 := o4.size
          have h3 := k3.size
          rcases hb with hb | ⟨a, e, rfl⟩
          · have := HS1.out.lt b hb; omega
          · have := (hfr a e).2; omega
        · rcases hb with hb | ⟨a, e, rfl⟩
          · exact .inl hb
          · have h5 := (hfr a e).1
            have h6 := HK1.out.size
            exact .inr (by omega)
    · have d3 : (pk == 3) = false := beq_eq_false_iff_ne.2 h3
      have d4 : (pk == 4) = false := beq_eq_false_iff_ne.2 h4
      have hn6 : n ≤ 1200 := HD.out.n6
      have hrl : rows.length = n := HD.out.len
      have hnil : A = none → c = 0 := HD.out.nil
      have HRI := Lib.hid HD.out.rows
      have HFA : Hid (0 < n → ∀ a, A = some a → ¬ F a.block ∧ a.block < W.heap.size) := Lib.hid HD.out.far
      have z1 : w1.cell? ⟨z, 1, none⟩ = some (.slice A n c) := c1 HZ1.out
      have HLF := Lib.hid (lent_f A n c rows hrl (by omega) w1 (HRI.out.ok HK1.out) hnil)
      go_wp2_with fail
      (with_reducible refine HLF.out.mono ?_)
      clear HLF
      rintro _ w2 ⟨g, cap, rfl, hcap, hg, o2, ho2⟩
      rw [hrl] at hcap ⊢
      have HLR := Lib.hid ho2.rows
      have HG1 := Lib.hid hg
      have HG2 : Hid (g < w2.heap.size) := Lib.hid ((ho2.2.lt g rfl).2)
      have HO2 := Lib.hid o2
      clear ho2 hg o2 z1
      have hok2 : Ok w2 w2.drew := (Ok.refl w2).drew
      have HT2 := Lib.hid (HT.out.ok (Ok.trans HO2.out hok2))
      have HF2 := Lib.hid (HF.out.ok (Ok.trans HO2.out hok2))
      have HA2 : Hid (RowsIn w2.drew A rows) := Lib.hid (HRI.out.ok (Ok.trans HK1.out (Ok.trans HO2.out hok2)))
      have HL2 : Hid (RowsIn w2.drew (some ⟨g, 0, none⟩) (rows ++ marksA 12)) := Lib.hid (HLR.out.ok hok2)
      have HZ2 : Hid (w2.drew.heap[z]? = some (.cells #[.int .i64 kd, .slice A n c, .string lo, .string hi] 38 (0, 0))) := Lib.hid (at_same HZ1.out (Ok.trans HO2.out hok2 |>.block z HZL.out))
      have HSZ2 : Hid (w1.heap.size ≤ w2.drew.heap.size) := Lib.hid (Ok.trans HO2.out hok2).size
      have HLT : Hid (∀ b, F b → b < w1.heap.size) := Lib.hid HS1.out.lt
      have HW1 : Hid (W.heap.size ≤ w1.heap.size) := Lib.hid HK1.out.size
      have H18 : Hid (Calls Tryz.prog 18 #[.pointer (some ⟨p, 0, none⟩), .slice (some ⟨g, 0, none⟩) n cap] w2.drew (PutT p Ap l rows w2.drew)) := Lib.hid (put_tt p Ap cp l (some ⟨g, 0, none⟩) n cap rows w2.drew HT2.out hl400 HS1.out.ri hrl (by omega) (lent_part HL2.out))
      have H19 : Hid (∀ V, RfA m Am nm cm l V → RowsIn V A rows → Calls Tryz.prog 19 #[.pointer (some ⟨m, 0, none⟩), .slice A n c] V (PutD m Am l rows V)) := Lib.hid fun V k1 k2 => put_dd m Am nm cm l A n c rows V k1 (by omega) HS1.out.ri hrl (by omega) k2
      have H30 : Hid (∀ V, RowsIn V (some ⟨g, 0, none⟩) (rows ++ marksA 12) → RowsIn V A rows → Calls Tryz.prog 30 #[.slice (some ⟨g, 0, none⟩) n cap, .slice A n c] V (Ret V (.bool true))) := Lib.hid fun V k1 k2 => kept_f g cap A n c rows hrl (by omega) V hcap k1 k2
      unfold PutT at H18
      unfold PutD at H19
      have HX3 : Hid (∀ V, K2 p none w2.drew V → RfA m Am nm cm l V ∧ RowsIn V A rows ∧ RowsIn V (some ⟨g, 0, none⟩) (rows ++ marksA 12) ∧ V.heap[z]? = some (.cells #[.int .i64 kd, .slice A n c, .string lo, .string hi] 38 (0, 0)) ∧ Chg F w2.drew V) := Lib.hid fun V k => by
        have hb : ∀ b, b < w2.drew.heap.size → b ≠ p → V.heap[b]? = w2.drew.heap[b]? := fun b h1 h2 => k.block b h1 h2 (by simp)
        have hpp := HLT.out p HS1.out.fp
        have hs := HSZ2.out
        refine ⟨HF2.out.same (hb m (Nat.lt_of_lt_of_le (HLT.out m HS1.out.fm) hs) (fun e => hpm e.symm)) (fun a e => hb a.block (Nat.lt_of_lt_of_le (HLT.out _ (hfm a e).2.1) hs) (hfm a e).1), RowsIn.same0 hrl HA2.out fun h0 a e => hb a.block ?_ ?_, HL2.out.same fun a e => ?_, at_same HZ2.out (hb z (Nat.lt_of_lt_of_le HZL.out hs) (fun e => HZF.out p HS1.out.fp e.symm)), Chg.k2 k HS1.out.fp (fun k e => by cases e)⟩
        · have h1 := (HFA.out h0 a e).2; have h2 := HW1.out; omega
        · intro q; exact (HFA.out h0 a e).1 (q ▸ HS1.out.fp)
        · obtain rfl : a = ⟨g, 0, none⟩ := (Option.some.inj e).symm
          exact hb g HG2.out (by have := HG1.out; intro q; have : g = p := q; omega)
      have HX4 : Hid (∀ V V', w2.drew.heap.size ≤ V.heap.size → RowsIn V A rows → RowsIn V (some ⟨g, 0, none⟩) (rows ++ marksA 12) → V.heap[z]? = some (.cells #[.int .i64 kd, .slice A n c, .string lo, .string hi] 38 (0, 0)) → K2 m none V V' → RowsIn V' A rows ∧ RowsIn V' (some ⟨g, 0, none⟩) (rows ++ marksA 12) ∧ V'.heap[z]? = some (.cells #[.int .i64 kd, .slice A n c, .string lo, .string hi] 38 (0, 0)) ∧ Chg F V V') := Lib.hid fun V V' hv k1 k2 k3 k => by
        have hb : ∀ b, b < V.heap.size → b ≠ m → V'.heap[b]? = V.heap[b]? := fun b h1 h2 => k.block b h1 h2 (by simp)
        have hmm := HLT.out m HS1.out.fm
        have hs := HSZ2.out
        refine ⟨RowsIn.same0 hrl k1 fun h0 a e => hb a.block ?_ ?_, k2.same fun a e => ?_, at_same k3 (hb z (by have := HZL.out; omega) (fun e => HZF.out m HS1.out.fm e.symm)), Chg.k2 k HS1.out.fm (fun k e => by cases e)⟩
        · have h1 := (HFA.out h0 a e).2; have h2 := HW1.out; omega
        · intro q; exact (HFA.out h0 a e).1 (q ▸ HS1.out.fm)
        · obtain rfl : a = ⟨g, 0, none⟩ := (Option.some.inj e).symm
          have h5 : w2.drew.heap.size = w2.heap.size := rfl
          exact hb g (by have := HG2.out; omega) (by have := HG1.out; intro q; have : g = m := q; omega)
      have hz2 := c1 HZ2.out
      go_wp2_with fail
      go_region_held3 (fun w' => w'.cell? ⟨z, 1, none⟩ = some (.slice A n c))
        (first | assumption | exact hz2 | exact c1 hz3 | exact c1 hz4 | exact Ok.cell o5 (c1 hz4))
        ((first
          | (go_at_call 18; (with_reducible refine H18.out.mono ?_); rintro _ w3 ⟨k, l1, A3, c3, rfl, hrel, ht3, hfr3, k3⟩; have hke : (k == k) = true := (by simp); have hx3 := HX3.out _ k3; have hm3 := hx3.1; have ha3 := hx3.2.1; have hg3 := hx3.2.2.1; have hz3 := hx3.2.2.2.1; have hc3 := hx3.2.2.2.2)
          | (go_at_call 19; (with_reducible refine (H19.out _ ?_ ?_).mono ?_); (exact hm3); (exact ha3); rintro _ w4 ⟨k', l2, A4, n4, c4, rfl, hrel2, hm4, hfr4, k4⟩; obtain ⟨rfl, rfl⟩ := PutRel.uniq HS1.out.ri hrel2 hrel; have hx4 := HX4.out _ _ k3.size ha3 hg3 hz3 k4; have ha4 := hx4.1; have hg4 := hx4.2.1; have hz4 := hx4.2.2.1; have hc4 := hx4.2.2.2)
          | (go_at_call 30; (with_reducible refine (H30.out _ ?_ ?_).mono ?_); (exact hg4); (exact ha4); rintro _ w5 ⟨rfl, o5⟩)))
      all_goals go_wp2_with fail
      all_goals go_ret
      all_goals
        have hpr := putRel_ok HS1.out.ri HS1.out.rt hl400 hrel
        have hs2 := HSZ2.out
        have hs3 := k3.size
        have hs4 := k4.size
        have hpl := HLT.out p HS1.out.fp
        have hml := HLT.out m HS1.out.fm
        have h3b : ∀ a, A3 = some a → a.block < w3.heap.size := fun a e => (ht3.own.2.lt a.block (by rw [e]; rfl)).2
        have h3n : ∀ a, A3 = some a → a.block ≠ m := fun a e => by
          rcases hfr3 with q | q
          · exact (hfa a (q ▸ e)).1
          · have := q a e; omega
        have ht4 := ht3.same (k4.block p (by omega) hpm (by simp)) (fun a e => k4.block a.block (h3b a e) (h3n a e) (by simp))
        refine ⟨rfl, fun b => F b ∨ (∃ a, A3 = some a ∧ a.block = b ∧ W.heap.size ≤ b) ∨ (∃ a, A4 = some a ∧ a.block = b ∧ W.heap.size ≤ b ∧ b < w4.heap.size), _, ⟨⟨A3, c3, A4, n4, c4, ht4.ok o5, hm4.ok o5, hpm, fun a e => ⟨h3n a e, ?_⟩, fun a e => ?_⟩, .inl HS1.out.fp, .inl HS1.out.fm, fun b hb => ?_, hpr.1, hpr.2.1, hpr.2.2⟩, fun b hb => ?_, ((Chg.ok (Ok.trans HK1.out (Ok.trans HO2.out hok2))).trans hc3).trans (hc4.trans (Chg.ok o5))⟩
        · rcases hfr3 with q | q
          · exact .inl (hfa a (q ▸ e)).2
          · exact .inr (.inl ⟨a, e, rfl, by have := q a e; have := HW1.out; omega⟩)
        · rcases hfr4 with q | q
          · have h6 := hfm a (q ▸ e)
            refine ⟨h6.1, .inl h6.2.1, fun a' e' => ?_⟩
            rcases hfr3 with q3 | q3
            · exact h6.2.2 a' (q3 ▸ e')
            · have := q3 a' e'; have := HLT.out _ h6.2.1; omega
          · have h7 := (q a e).1
            have h8 := (q a e).2
            refine ⟨by omega, .inr (.inr ⟨a, e, rfl, by have := HW1.out; omega, h8⟩), fun a' e' => by have := h3b a' e'; omega⟩
        · have h9 := o5.size
          rcases hb with hb | ⟨a, e, rfl, -⟩ | ⟨a, e, rfl, -, hb⟩
          · have := HLT.out b hb; omega
          · have := h3b a e; omega
          · omega
        · rcases hb with hb | ⟨a, e, rfl, hb⟩ | ⟨a, e, rfl, hb, -⟩
          · exact .inl hb
          · exact .inr hb
          · exact .inr hb
end Go.Proofs.YtebhcadolnjplaaGreat
