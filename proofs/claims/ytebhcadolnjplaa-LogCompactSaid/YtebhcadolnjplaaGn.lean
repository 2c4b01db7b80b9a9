/- Put and Take of a log. -/
import Derived.Test.YtebhcadolnjplaaGm
namespace Go.Proofs.Ytebhcadolnjplaa
open Go.RowKit

theorem high22 (A : Option Addr) (n c q : Nat) (hq : q ≤ n) (wx : World) : (Instr.slice 22 (.slice A n c) (some (.int .i64 (q : Int))) none none).run Try.prog wx = .ok (.slice (if c = q then A else A.map (·.add (q * 7))) (n - q) (c - q)) wx := by
  rw [run_slice_l wx 22 A n c un22 .i64 (q : Int) (Int.natCast_nonneg _) (by omega), el22, Try.sizeOf44]
  simp [Result.andThen, sliced]
/-- What Put answers, and leaves. -/
def PutMP (S : Nat → Prop) (L : LG) (l : List En) (w : World) (e : Ending) (w' : World) : Prop := e = .returned (.int .i64 (L.i + ((L.es.length : Int) + (l.length : Int)))) ∧ ∃ L', Grown S L l w L' w'
set_option maxRecDepth 100000 in
theorem putM_f (S : Nat → Prop) (L : LG) (A : Option Addr) (n c : Nat) (l : List En) (hn : l.length = n) (w : World) (h : LogAt (Sof S L) L w) (hS : ∀ b, S b → b < w.heap.size) (hi : EnsIn (Sof S L) w A l) (hm : ∀ j, j < n → EnLe (enA l j))
    (hl : L.es.length + n ≤ 1000) (hx : L.xs.length + n ≤ 1000) : Calls Try.prog 16 #[.pointer (some ⟨L.p, 0, none⟩), .slice A n c] w (PutMP S L l w) := by
  have hno := none_f L.p w h.box.c8
  have HP : Hid (∀ w1, Ok w w1 → _) := Lib.hid fun w1 (o : Ok w w1) => put_f S L A n c l hn w1 (h.ok o) (fun b hb => Nat.lt_of_lt_of_le (hS b hb) o.size) (hi.kp (Kp.of (S := fun _ => False) o) (fun _ f => f.elim)) hm hl hx
  have HLT := Lib.hid h.lt
  clear h hi hm
  go_enter Try.func16, Try.ntmps16
  go_wp2_with fail
  refine hno.mono ?_
  rintro _ w1 ⟨rfl, o1⟩
  have hp := HP.out w1 o1
  have HO := Lib.hid o1
  clear HP o1
  go_wp2_with fail
  refine hp.mono ?_
  clear hp
  rintro _ w2 ⟨rfl, L', hg⟩
  have hla := last_f L'.p L'.i L'.AE L'.es.length L'.cE w2 hg.log.box.c0 hg.log.box.c6 hg.log.lo hg.log.hi (Nat.le_trans hg.log.le (by decide))
  rw [hg.ext.p, hg.ext.i, hg.ext.es, List.length_append] at hla
  have HG := Lib.hid hg
  clear hg
  go_wp2_with fail
  refine hla.mono ?_
  clear hla
  rintro _ w3 ⟨rfl, o3⟩
  go_wp2_with fail
  go_ret
  refine ⟨by rw [hn]; rfl, L', (HG.out.ok o3).log, HG.out.ext, ((Kp.of HO.out).then HG.out.kp (fun _ _ e => e)).ok o3, fun b hb => (HG.out.new b hb).elim .inl (fun q => .inr (Nat.le_trans HO.out.size q))⟩
/-- The log behind a Take that laid entries. -/
structure Taken (S : Nat → Prop) (L : LG) (es : List En) (n : Nat) (w : World) (L' : LG) (w' : World) : Prop where
  log : LogAt (Sof S L') L' w'
  p : L'.p = L.p
  i : L'.i = L.i
  t : L'.t = L.t
  s : L'.s = L.s
  es : L'.es = es
  xs : L'.xs.length ≤ L.xs.length + n
  kp : Kp (Ow L.p L.AE L.AC) w w'
  new : ∀ b, Ow L'.p L'.AE L'.AC b → Ow L.p L.AE L.AC b ∨ w.heap.size ≤ b
/-- Does the entry k of what is taken stand at its place? -/
def Stands (L : LG) (m : Nat) (l : List En) (k : Nat) : Prop := m + k < L.es.length ∧ (enA L.es (m + k)).term = (enA l k).term
def TakeP (S : Nat → Prop) (L : LG) (m : Nat) (l : List En) (w : World) (e : Ending) (w' : World) : Prop :=
  ∃ k, k ≤ l.length ∧ (∀ j, j < k → Stands L m l j) ∧
    ((k = l.length ∧ e = .returned (.tuple #[.int .i64 0, .bool true]) ∧ Ok w w') ∨
     (k < l.length ∧ ¬ Stands L m l k ∧ e = .returned (.tuple #[.int .i64 (L.i + m + 1 + k), .bool true]) ∧ ∃ L', Taken S L (L.es.take (m + k) ++ l.drop k) l.length w L' w'))
set_option maxRecDepth 100000 in
theorem take_no (S : Nat → Prop) (L : LG) (x : Int) (v : Value) (w : World) (h : LogAt S L w) (hx : x ≤ L.i ∨ L.i + L.es.length + 1 < x) : Calls Try.prog 12 #[.pointer (some ⟨L.p, 0, none⟩), .int .i64 x, v] w (Ret w (.tuple #[.int .i64 0, .bool false])) := by
  have hno := none_f L.p w h.box.c8
  have HC0 := Lib.hid h.box.c0
  have HLA : Hid (∀ w1, Ok w w1 → _) := Lib.hid fun w1 (o : Ok w w1) => last_f L.p L.i L.AE L.es.length L.cE w1 (o.cell h.box.c0) (o.cell h.box.c6) h.lo h.hi (Nat.le_trans h.le (by decide))
  have h0 := h.lo
  have h1 := h.hi
  have h2 := h.le
  have e1 : IntKind.i64.wrap (L.i + (L.es.length : Int) + 1) = L.i + (L.es.length : Int) + 1 := IntWalk.i64_in _ (by omega)
  clear h
  go_enter Try.func12, Try.ntmps12
  go_upto_region 1 with fail
  by_cases hx1 : x ≤ L.i
  · have d1 : decide (x ≤ L.i) = true := decide_eq_true hx1
    go_wp2_with fail
    refine hno.mono ?_
    rintro _ w1 ⟨rfl, o1⟩
    have c0 := o1.cell HC0.out
    go_wp2_with fail
    refine bodyPost_ret (v := .tuple #[.int .i64 0, .bool false]) (by simp [results, Try.results12, go_sem]; try rfl) rfl ?_
    exact ⟨rfl, o1⟩
  · have d1 : decide (x ≤ L.i) = false := decide_eq_false hx1
    have d2 : decide (x > L.i + (L.es.length : Int) + 1) = true := decide_eq_true (by omega)
    go_wp2_with fail
    refine hno.mono ?_
    rintro _ w1 ⟨rfl, o1⟩
    have c0 := o1.cell HC0.out
    have hla := HLA.out w1 o1
    have HO := Lib.hid o1
    clear o1
    go_wp2_with fail
    refine hla.mono ?_
    rintro _ w2 ⟨rfl, o2⟩
    go_wp2_with fail
    refine bodyPost_ret (v := .tuple #[.int .i64 0, .bool false]) (by simp [results, Try.results12, go_sem]; try rfl) rfl ?_
    exact ⟨rfl, HO.out.trans o2⟩
theorem EnsIn.drop {T : Nat → Prop} {w : World} {A : Option Addr} {l : List En} (h : EnsIn T w A l) (k : Nat) : EnsIn T w (A.map (·.add (k * 7))) (l.drop k) := fun j hj => by
  rw [List.length_drop] at hj
  obtain ⟨b, off, r, rfl, hb, hr, hc⟩ := h (k + j) (by omega)
  refine ⟨b, off + k * 7, r, by simp [Addr.add], hb, ?_, fun q hq => ?_⟩
  · have e : enA (l.drop k) j = enA l (k + j) := by simp [enA]
    rw [e]; exact hr
  · have := hc q hq
    rwa [show off + (k + j) * 7 + q = off + k * 7 + j * 7 + q from by omega] at this
set_option maxRecDepth 100000 in
set_option maxHeartbeats 4000000 in
theorem take_f (S : Nat → Prop) (L : LG) (m : Nat) (A : Option Addr) (n c : Nat) (l : List En) (hn : l.length = n) (hnc : n ≤ c) (w : World) (h : LogAt (Sof S L) L w) (hS : ∀ b, S b → b < w.heap.size) (hi : EnsIn (Sof S L) w A l) (hmm : ∀ j, j < n → EnLe (enA l j))
    (hm : m ≤ L.es.length) (hl : L.es.length + n ≤ 1000) (hx : L.xs.length + n ≤ 1000) : Calls Try.prog 12 #[.pointer (some ⟨L.p, 0, none⟩), .int .i64 (L.i + m + 1), .slice A n c] w (TakeP S L m l w) := by
  have hno := none_f L.p w h.box.c8
  have HC0 := Lib.hid h.box.c0
  have HLA : Hid (∀ w1, Ok w w1 → _) := Lib.hid fun w1 (o : Ok w w1) => last_f L.p L.i L.AE L.es.length L.cE w1 (o.cell h.box.c0) (o.cell h.box.c6) h.lo h.hi (Nat.le_trans h.le (by decide))
  have h0 := h.lo
  have h1 := h.hi
  have h2 := h.le
  have HL := Lib.hid h
  have HS := Lib.hid hS
  have HI := Lib.hid hi
  have HM := Lib.hid hmm
  have HN := Lib.hid hn
  have e1 : IntKind.i64.wrap (L.i + (L.es.length : Int) + 1) = L.i + (L.es.length : Int) + 1 := IntWalk.i64_in _ (by omega)
  have d1 : decide (L.i + (m : Int) + 1 ≤ L.i) = false := decide_eq_false (by omega)
  have d2 : decide (L.es.length < m) = false := decide_eq_false (by omega)
  clear h hS hi hmm hn
  go_enter Try.func12, Try.ntmps12
  go_wp2_with fail
  refine hno.mono ?_
  clear hno
  rintro _ w1 ⟨rfl, o1⟩
  have c0 := o1.cell HC0.out
  have hla := HLA.out w1 o1
  have HO := Lib.hid o1
  clear o1 HLA HC0
  go_wp2_with fail
  refine hla.mono ?_
  clear hla c0
  rintro _ w2 ⟨rfl, o2⟩
  have HO2 := Lib.hid (HO.out.trans o2)
  clear o2 HO
  go_wp2_with fail
  clear d1 d2 e1
  go_loopw [8] (fun i wr => ∃ k : Nat, k ≤ n ∧ i = .int .i64 k ∧ (∀ j, j < k → Stands L m l j) ∧ Ok w wr) (fun i _ => n - (intOf i).toNat)
  case atStart => exact ⟨0, Nat.zero_le _, rfl, fun j hj => absurd hj (Nat.not_lt_zero _), HO2.out⟩
  case round =>
    obtain ⟨k, hk, rfl, hst, okr⟩ := hrel
    have HST := Lib.hid hst
    have HOK := Lib.hid okr
    clear hst okr HO2
    have HMK : Hid (m + k ≤ L.es.length) := Lib.hid (by
      rcases Nat.eq_zero_or_pos k with rfl | hp
      · exact hm
      · have := (HST.out (k - 1) (by omega)).1
        omega)
    have e1 : IntKind.i64.wrap (L.i + (m : Int) + 1 + (k : Int)) = L.i + (m : Int) + 1 + (k : Int) := IntWalk.i64_in _ (by omega)
    have EQ : Hid (L.i + (m : Int) + 1 + (k : Int) = L.i + ((m + k : Nat) : Int) + 1) := Lib.hid (by push_cast; omega)
    by_cases hlt : k < n
    · have d1 : decide ((k : Int) < (n : Int)) = true := decide_eq_true (by omega)
      have d2 : ((k : Int) == (n : Int)) = false := beq_eq_false_iff_ne.2 (by omega)
      obtain ⟨b, off, r, rfl, hb, hr, hc⟩ := HI.out.kp (Kp.of (S := fun _ => False) HOK.out) (fun _ f => f.elim) k (by rw [HN.out]; exact hlt)
      have q0 : wr.cell? ⟨b, off + k * 7, none⟩ = some (.int .i64 r.term) := hc 0 (by decide)
      have HT : Hid (r.term = (enA l k).term) := Lib.hid hr.term
      have hi0 : (0 : Int) ≤ (k : Int) := Int.natCast_nonneg _
      have hi1 : (k : Int) < (n : Int) := by omega
      clear hb hr hc
      by_cases hs : Stands L m l k
      · have hti := termIs_at (Sof S L) L (m + k) r.term wr (HL.out.ok HOK.out) hs.1
        rw [← EQ.out, decide_eq_true (hs.2.trans HT.out.symm)] at hti
        have HNX : Hid (∀ j, j < k + 1 → Stands L m l j) := Lib.hid fun j hj => by
          by_cases hjk : j < k
          · exact HST.out j hjk
          · obtain rfl : j = k := by omega
            exact hs
        clear hs
        go_wp2_with fail
        refine hti.mono ?_
        clear hti q0
        rintro _ w3 ⟨rfl, o3⟩
        go_wp2_with fail
        refine ⟨⟨k + 1, hlt, rfl, HNX.out, HOK.out.trans o3⟩, ?_⟩
        show n - ((k : Int) + 1).toNat < n - (k : Int).toNat
        omega
      · have hti : Calls Try.prog 57 #[.pointer (some ⟨L.p, 0, none⟩), .int .i64 (L.i + (m : Int) + 1 + (k : Int)), .int .i64 r.term] wr (Ret wr (.bool false)) := by
          by_cases hj : m + k < L.es.length
          · have hti := termIs_at (Sof S L) L (m + k) r.term wr (HL.out.ok HOK.out) hj
            rw [← EQ.out, decide_eq_false (fun e => hs ⟨hj, e.trans HT.out⟩)] at hti
            exact hti
          · refine termIs_no (Sof S L) L _ r.term wr (HL.out.ok HOK.out) ?_
            have e : decide (L.i + (m : Int) + 1 + (k : Int) ≤ L.i + (L.es.length : Int)) = false := decide_eq_false (by omega)
            simp only [hasB, e, Bool.and_false]
        have HNS := Lib.hid hs
        clear hs
        go_wp2_with fail
        refine hti.mono ?_
        clear hti q0
        rintro _ w3 ⟨rfl, o3⟩
        have HO3 := Lib.hid (HOK.out.trans o3)
        clear o3 HOK
        have hcut := cut_f (Sof S L) L (m + k) w3 (HL.out.ok HO3.out) HMK.out
        rw [← EQ.out] at hcut
        go_wp2_with fail
        refine hcut.mono ?_
        clear hcut
        rintro _ w4 ⟨rfl, zs, hcu⟩
        have HCU := Lib.hid hcu
        clear hcu
        have hsl := high22 (some ⟨b, off, none⟩) n c k (Nat.le_of_lt hlt)
        rw [if_neg (by omega)] at hsl
        have HKP : Hid (Kp (Ow L.p L.AE L.AC) w w4) := Lib.hid ((Kp.of HO3.out).then HCU.out.kp (fun _ _ e => e))
        have he1 : ∀ j, j < n - k → EnLe (enA (l.drop k) j) := fun j hj => by
          have e : enA (l.drop k) j = enA l (k + j) := by simp [enA]
          rw [e]
          exact HM.out _ (by omega)
        have he2 : ((L.cutE (m + k)).cutX zs).es.length + (n - k) ≤ 1000 := by
          have e : ((L.cutE (m + k)).cutX zs).es.length = (L.es.take (m + k)).length := rfl
          rw [e, List.length_take]
          omega
        have he3 : ((L.cutE (m + k)).cutX zs).xs.length + (n - k) ≤ 1000 := by
          have e : ((L.cutE (m + k)).cutX zs).xs.length = zs.length := rfl
          rw [e]
          have := HCU.out.len
          omega
        have hput := put_f S ((L.cutE (m + k)).cutX zs) ((some ⟨b, off, none⟩ : Option Addr).map (·.add (k * 7))) (n - k) (c - k) (l.drop k) (by rw [List.length_drop, HN.out]) w4 HCU.out.log (fun b hb => Nat.lt_of_lt_of_le (HS.out b hb) HKP.out.size) ((HI.out.kp HKP.out (fun b hb => .inr hb)).drop k) he1 he2 he3
        clear he1 he2 he3
        have hput : Calls Try.prog 59 #[.pointer (some ⟨L.p, 0, none⟩), .slice ((some ⟨b, off, none⟩ : Option Addr).map (·.add (k * 7))) (n - k) (c - k)] w4 (PutP S ((L.cutE (m + k)).cutX zs) (l.drop k) w4) := hput
        generalize (some ⟨b, off, none⟩ : Option Addr).map (·.add (k * 7)) = A' at hsl hput
        clear hi0 hi1 d1
        go_wp2_with fail
        refine hput.mono ?_
        clear hput hsl
        rintro _ w5 ⟨rfl, L', hg⟩
        have HG := Lib.hid hg
        clear hg
        go_wp2_with fail
        refine bodyPost_ret (v := .tuple #[.int .i64 (L.i + (m : Int) + 1 + (k : Int)), .bool true]) (by simp [results, Try.results12, go_sem]; try rfl) rfl ?_
        refine ⟨k, by rw [HN.out]; exact hk, HST.out, .inr ⟨by rw [HN.out]; exact hlt, HNS.out, rfl, L', HG.out.log, HG.out.ext.p, HG.out.ext.i, HG.out.ext.t, HG.out.ext.s, HG.out.ext.es, ?_, HKP.out.then HG.out.kp (fun _ _ e => e), fun b hb => (HG.out.new b hb).elim .inl (fun q => .inr (Nat.le_trans HKP.out.size q))⟩⟩
        have h1 := HG.out.ext.xs
        have h2 := HCU.out.len
        rw [List.length_drop] at h1
        have e : ((L.cutE (m + k)).cutX zs).xs.length = zs.length := rfl
        rw [e] at h1
        omega
    · have d1 : decide ((k : Int) < (n : Int)) = false := decide_eq_false (by omega)
      obtain rfl : k = n := by omega
      go_wp2_with fail
      refine bodyPost_ret (v := .tuple #[.int .i64 0, .bool true]) (by simp [results, Try.results12, go_sem]; try rfl) rfl ?_
      exact ⟨k, by rw [HN.out]; exact Nat.le_refl _, HST.out, .inl ⟨HN.out.symm, rfl, HOK.out⟩⟩
end Go.Proofs.Ytebhcadolnjplaa
