/- The document's reader, with the block that its bytes lie in. -/
import Derived.Test.YtolfdncmlfnbdaaHf
import Derived.Test.YtolfdncmlfnbdaaHh
namespace Go.Proofs.Ytolfdncmlfnbdaa
open Go.RowKit

/-- Bytes that lie in block q. -/
def BytesQ (q : Nat) (w : World) (v : Value) (xs : List B8) : Prop := BytesIn w v xs ∧ ∀ A n c, v = .slice (some A) n c → 0 < xs.length → A.block = q
theorem BytesQ.nil (q : Nat) (w : World) : BytesQ q w (.slice none 0 0) [] := ⟨BytesIn.nil w, fun _ _ _ e => by cases e⟩
theorem add_block (a : Addr) (N : Nat) : (a.add N).block = a.block := by unfold Addr.add; split <;> rfl
theorem bytesQ_drop {q : Nat} {w : World} {A : Option Addr} {n c N : Nat} {xs : List B8} (h : BytesQ q w (.slice A n c) xs) (hN : N ≤ xs.length) : BytesQ q w (.slice (if c = N then A else A.map (·.add N)) (n - N) (c - N)) (xs.drop N) := by
  refine ⟨bytes_drop h.1 hN, fun A' n' c' e h0 => ?_⟩
  have h1 : 0 < xs.length := by rw [List.length_drop] at h0; omega
  simp only [Value.slice.injEq] at e
  cases A with
  | none => have := e.1; split at this <;> cases this
  | some a =>
    have h2 := h.2 a n c rfl h1
    have h3 := e.1
    split at h3
    · rw [← Option.some.inj h3]; exact h2
    · have h4 : a.add N = A' := by simpa using h3
      rw [← h4, add_block]; exact h2
/-- A document's reader at block m, its bytes in block q. -/
def RfQ (q : Nat) (W0 : World) (m : Nat) (w : World) (xs : List B8) (f : Bool) : Prop :=
  W0.heap.size ≤ m ∧ Ok W0 w ∧ (∃ v, BytesQ q W0 v xs ∧ w.cell? ⟨m, 0, none⟩ = some v) ∧ w.cell? ⟨m, 1, none⟩ = some (.bool f) ∧ w.frozen? ⟨m, 0, none⟩ = false ∧ w.frozen? ⟨m, 1, none⟩ = false
theorem RfQ.set {q : Nat} {W0 : World} {m : Nat} {w : World} {xs ys : List B8} {f f' : Bool} {v : Value} (h : RfQ q W0 m w xs f) (hy : BytesQ q W0 v ys) {w' : World} (ho : Only m w w')
    (h0 : w'.cell? ⟨m, 0, none⟩ = some v) (h1 : w'.cell? ⟨m, 1, none⟩ = some (.bool f')) (h3 : w'.frozen? ⟨m, 0, none⟩ = false) (h4 : w'.frozen? ⟨m, 1, none⟩ = false) : RfQ q W0 m w' ys f' :=
  ⟨h.1, Below.trans h.2.1 (ho.below h.1), ⟨v, hy, h0⟩, h1, h3, h4⟩
def RfPostQ (q : Nat) (W0 : World) (m : Nat) (w : World) (res : Value) (ys : List B8) (f : Bool) (e : Ending) (w' : World) : Prop := e = .returned res ∧ RfQ q W0 m w' ys f ∧ Only m w w'
def RowFQ (q : Nat) (W0 : World) (g : Nat) (w : World) (zs ys : List B8) (f : Bool) (e : Ending) (w' : World) : Prop := ∃ v, e = .returned v ∧ BytesIn w' v zs ∧ RfQ q W0 g w' ys f ∧ Alo g w w'
theorem RfQ.ok {q : Nat} {W0 : World} {m : Nat} {w w' : World} {xs : List B8} {f : Bool} (h : RfQ q W0 m w xs f) (k : Ok w w') : RfQ q W0 m w' xs f := by
  obtain ⟨h1, h2, ⟨v, hv, h0⟩, h3, h4, h5⟩ := h
  have hm : m < w.heap.size := World.block_lt_of_cell? _ _ h0
  exact ⟨h1, Ok.trans h2 k, ⟨v, hv, k.cell h0⟩, k.cell h3, by rw [Below.frozen k (p := ⟨m, 0, none⟩) hm]; exact h4, by rw [Below.frozen k (p := ⟨m, 1, none⟩) hm]; exact h5⟩
theorem RfQ.lt {q : Nat} {W0 : World} {m : Nat} {w : World} {xs : List B8} {f : Bool} (h : RfQ q W0 m w xs f) : m < w.heap.size := by
  obtain ⟨v, _, h0⟩ := h.2.2.1
  exact World.block_lt_of_cell? _ _ h0
set_option maxHeartbeats 400000 in
theorem rfail_q (q : Nat) (W0 : World) (m : Nat) (w : World) (xs : List B8) (f : Bool) (h : RfQ q W0 m w xs f) :
    Calls Try.prog 97 #[.pointer (some ⟨m, 0, none⟩)] w (RfPostQ q W0 m w (.tuple #[]) [] true) := by
  have HR := Lib.hid h
  obtain ⟨_, _, ⟨v, _, h0⟩, h1, h3, h4⟩ := h
  have HF : Hid (RfPostQ q W0 m w (.tuple #[]) [] true (.returned (.tuple #[])) ((w.setCell ⟨m, 1, none⟩ (.bool true)).setCell ⟨m, 0, none⟩ (.slice none 0 0))) := Lib.hid
    ⟨rfl, HR.out.set (BytesQ.nil q W0) (((Only.refl m w).set 1 _).set 0 _) (by go_simp) (by go_simp) (by go_simp) (by go_simp), ((Only.refl m w).set 1 _).set 0 _⟩
  go_enter Try.func97, Try.ntmps97
  go_wp2
  go_end0
  exact HF.out

set_option maxRecDepth 100000 in
set_option maxHeartbeats 2000000 in
theorem rnum_q (q : Nat) (W0 : World) (g : Nat) (w : World) (xs : List B8) (f : Bool) (m : Int) (h : RfQ q W0 g w xs f) :
    Calls Try.prog 28 #[.pointer (some ⟨g, 0, none⟩), .int .i64 m] w (RfPostQ q W0 g w (.int .i64 ((numZ m xs f).1 : Int)) (numZ m xs f).2.1 (numZ m xs f).2.2) := by
  have HR := Lib.hid h
  obtain ⟨_, hok, ⟨v, hv, h0⟩, h1, h3, h4⟩ := h
  cases f with
  | true =>
    have e : numZ m xs true = (0, xs, true) := rfl
    rw [e]
    clear e
    go_enter Try.func28, Try.ntmps28
    go_wp2
    go_ret
    exact ⟨rfl, HR.out, Only.refl _ _⟩
  | false =>
    obtain ⟨A, c, rfl, _⟩ := hv.1.form
    have HV := Lib.hid hv
    have HG := Lib.hid (get_w _ xs w (hok.bytes hv.1))
    have hcr : xs.length ≤ c := by
      rcases hv.1 with ⟨rfl, _⟩ | ⟨_, _, _, e, hc, _⟩
      · simp
      · simp only [Value.slice.injEq] at e; omega
    have hcase := rd_getz m xs
    have HNM : Hid (numZ m xs false = (resN (rdZ m xs), resL (rdZ m xs), resF (rdZ m xs))) := Lib.hid rfl
    generalize rdZ m xs = R at hcase HNM
    generalize getM xs = P at HG hcase
    obtain ⟨n, N⟩ := P
    simp only at HG hcase
    generalize numZ m xs false = Z at HNM ⊢
    clear hv hok
    rcases hcase with ⟨hbad, hR⟩ | ⟨hb1, hb2, hb3, hR⟩
    · have HZ : Hid (Z = (0, [], true)) := Lib.hid (by rw [HNM.out, hR]; rfl)
      clear hR HNM
      by_cases hN : N = 0
      · have d1 : ((N : Int) == 0) = true := beq_iff_eq.2 (by omega)
        clear hN hbad
        go_enter Try.func28, Try.ntmps28
        go_wp2_with fail
        refine HG.out.mono ?_
        rintro _ w1 ⟨rfl, rfl⟩
        go_wp2_with fail
        refine (rfail_q q W0 g _ _ _ HR.out).mono ?_
        rintro _ w2 ⟨rfl, hr2, ho2⟩
        have HR2 := Lib.hid hr2
        have HO2 := Lib.hid ho2
        clear hr2 ho2
        go_wp2_with fail
        go_ret
        rw [HZ.out]
        exact ⟨rfl, HR2.out, HO2.out⟩
      · have d1 : ((N : Int) == 0) = false := beq_eq_false_iff_ne.2 (by omega)
        have d2 : decide ((m : Int) < (n : Int)) = true := decide_eq_true (by rcases hbad with h | h <;> omega)
        have d3 : decide (m < n) = true := decide_eq_true (by rcases hbad with h | h <;> omega)
        clear hN hbad
        go_enter Try.func28, Try.ntmps28
        go_wp2_with fail
        refine HG.out.mono ?_
        rintro _ w1 ⟨rfl, rfl⟩
        go_wp2_with fail
        refine (rfail_q q W0 g _ _ _ HR.out).mono ?_
        rintro _ w2 ⟨rfl, hr2, ho2⟩
        have HR2 := Lib.hid hr2
        have HO2 := Lib.hid ho2
        clear hr2 ho2
        go_wp2_with fail
        go_ret
        rw [HZ.out]
        exact ⟨rfl, HR2.out, HO2.out⟩
    · have HZ : Hid (Z = (n, xs.drop N, false)) := Lib.hid (by rw [HNM.out, hR]; rfl)
      have d1 : ((N : Int) == 0) = false := beq_eq_false_iff_ne.2 (by omega)
      have d2 : decide ((m : Int) < (n : Int)) = false := decide_eq_false (by omega)
      have d3 : decide (m < n) = false := decide_eq_false (by omega)
      have HD : Hid (BytesQ q W0 (.slice (if c = N then A else A.map (·.add N)) (xs.length - N) (c - N)) (xs.drop N)) := Lib.hid (bytesQ_drop HV.out hb3)
      have HF : Hid (∀ V, BytesQ q W0 V (xs.drop N) → RfQ q W0 g (w.setCell ⟨g, 0, none⟩ V) (xs.drop N) false) := Lib.hid fun V hV =>
        HR.out.set hV ((Only.refl g w).set 0 _) (by go_simp) (by go_simp) (by go_simp) (by go_simp)
      clear hR HNM
      generalize hl : xs.length = l at *
      have HL := Lib.hid hl
      clear hl
      have hNl : N ≤ l := by omega
      have hNc : N ≤ c := by omega
      have hN0 : (0 : Int) ≤ (N : Int) := by omega
      have hN1 : (N : Int) ≤ (l : Int) := by omega
      have hN2 : (N : Int) ≤ (c : Int) := by omega
      clear hb1 hb2 hb3
      cases A with
      | none =>
        have HD2 : Hid (BytesQ q W0 (.slice none (l - N) (c - N)) (xs.drop N)) := Lib.hid (by
          have := HD.out
          split at this <;> exact this)
        go_enter Try.func28, Try.ntmps28
        go_wp2_with fail
        refine HG.out.mono ?_
        rintro _ w1 ⟨rfl, rfl⟩
        go_wp2_with fail
        go_ret
        rw [HZ.out]
        exact ⟨rfl, HF.out _ HD2.out, (Only.refl g w).set 0 _⟩
      | some a =>
        by_cases hcN : c = N
        · have HD2 : Hid (BytesQ q W0 (.slice (some a) 0 0) (xs.drop N)) := Lib.hid (by
            have := HD.out
            rwa [if_pos hcN, show l - N = 0 by omega, show c - N = 0 by omega] at this)
          subst hcN
          go_enter Try.func28, Try.ntmps28
          go_wp2_with fail
          refine HG.out.mono ?_
          rintro _ w1 ⟨rfl, rfl⟩
          go_wp2_with fail
          go_ret
          rw [HZ.out]
          exact ⟨rfl, HF.out _ HD2.out, (Only.refl g w).set 0 _⟩
        · have HD2 : Hid (BytesQ q W0 (.slice (some (a.add N)) (l - N) (c - N)) (xs.drop N)) := Lib.hid (by
            have := HD.out
            rwa [if_neg hcN] at this)
          go_enter Try.func28, Try.ntmps28
          go_wp2_with fail
          refine HG.out.mono ?_
          rintro _ w1 ⟨rfl, rfl⟩
          go_wp2_with fail
          go_ret
          rw [HZ.out]
          exact ⟨rfl, HF.out _ HD2.out, (Only.refl g w).set 0 _⟩
set_option maxRecDepth 100000 in
set_option maxHeartbeats 2000000 in
theorem Row_q (q : Nat) (W0 : World) (g : Nat) (w : World) (xs : List B8) (f : Bool) (m : Int) (h : RfQ q W0 g w xs f) :
    Calls Try.prog 32 #[.pointer (some ⟨g, 0, none⟩), .int .i64 m] w (RowFQ q W0 g w (rowZ m xs f).1 (rowZ m xs f).2.1 (rowZ m xs f).2.2) := by
  have HN := Lib.hid (rnum_q q W0 g w xs f m h)
  have HFAIL := Lib.hid (rowZ_fail m xs f)
  have HFEW := Lib.hid (rowZ_few m xs f)
  have HLIVE := Lib.hid (rowZ_live m xs f)
  clear h
  generalize rowZ m xs f = R at *
  generalize numZ m xs f = Z at *
  obtain ⟨N, ys, ff⟩ := Z
  simp only at HN HFEW HFAIL HLIVE
  go_enter Try.func32, Try.ntmps32
  go_wp2_with fail
  refine HN.out.mono ?_
  rintro _ w1 ⟨rfl, hr, ho⟩
  have HR := Lib.hid hr
  have HO := Lib.hid ho
  obtain ⟨_, _, ⟨v, hv, h0⟩, h1, h3, h4⟩ := hr
  have hgs := HR.out.lt
  clear ho HN
  cases ff with
  | true =>
    have HZ := Lib.hid (HFAIL.out rfl)
    clear HFEW HLIVE HFAIL hv
    go_wp2_with fail
    go_ret
    rw [HZ.out]
    exact ⟨_, rfl, BytesIn.nil _, HR.out, Alo.only HO.out⟩
  | false =>
  obtain ⟨A, c, rfl, hbm⟩ := hv.1.form
  obtain ⟨l, hl⟩ : ∃ l, ys.length = l := ⟨_, rfl⟩
  rw [hl] at hv h0 hbm HFEW HLIVE
  have HL := Lib.hid hl
  have HBM := Lib.hid hbm
  clear hbm
  have HV := Lib.hid hv
  have hlc : l ≤ c := by
    rcases hv.1 with ⟨rfl, _⟩ | ⟨_, _, _, e, hc, _⟩
    · simp at hl; omega
    · simp only [Value.slice.injEq] at e; omega
  clear hv hl HFAIL
  by_cases hlt : l < N
  · have HZ := Lib.hid (HFEW.out hlt)
    have d1 : decide ((l : Int) < (N : Int)) = true := decide_eq_true (by omega)
    have d3 : decide (l < N) = true := decide_eq_true (by omega)
    clear HFEW HLIVE hlt
    go_wp2_with fail
    refine (rfail_q q W0 g _ _ _ HR.out).mono ?_
    rintro _ w2 ⟨rfl, hr2, ho2⟩
    have HR2 := Lib.hid hr2
    have HO2 := Lib.hid ho2
    clear hr2 ho2
    go_wp2_with fail
    go_ret
    rw [HZ.out]
    exact ⟨_, rfl, BytesIn.nil _, HR2.out, Alo.only (HO.out.trans HO2.out)⟩
  · have HZ := Lib.hid (HLIVE.out rfl hlt)
    have d1 : decide ((l : Int) < (N : Int)) = false := decide_eq_false (by omega)
    have d3 : decide (l < N) = false := decide_eq_false (by omega)
    have HT := Lib.hid (bytes_take HV.out.1 (show N ≤ ys.length by have := HL.out; omega))
    have HD := Lib.hid (bytesQ_drop HV.out (show N ≤ ys.length by have := HL.out; omega))
    have HTL : Hid ((ys.take N).length = N) := Lib.hid (by rw [List.length_take]; have := HL.out; omega)
    have hNl : N ≤ l := by omega
    have hNc : N ≤ c := by omega
    have hN0 : (0 : Int) ≤ (N : Int) := by omega
    have hN1 : (N : Int) ≤ (l : Int) := by omega
    have hN2 : (N : Int) ≤ (c : Int) := by omega
    generalize hts : ys.take N = ts at *
    generalize hds : ys.drop N = ds at *
    clear hts hds HFEW HLIVE hlt
    have HO1 := Lib.hid (own_zero w1)
    have HOK1 : Hid (Ok w1 (w1.alloc (.cells #[] 5))) := Lib.hid ((Ok.refl w1).alloc _)
    have HT1 : Hid (BytesIn (w1.alloc (.cells #[] 5)) (.slice A N c) ts) := Lib.hid (HOK1.out.bytes (HR.out.2.1.bytes HT.out))
    have HEND : Hid (∀ (A' : Option Addr) (c' : Nat) (w3 : World) (V : Value), OwnN w3 w1.heap.size (.slice A' N c') ts → Ok w1 w3 → BytesQ q W0 V ds → RowFQ q W0 g w R.1 R.2.1 R.2.2 (.returned (.slice A' N c')) (w3.setCell ⟨g, 0, none⟩ V)) := Lib.hid fun A' c' w3 V h1 h2 h3 => by
      have hr3 := HR.out.ok h2
      have hlt3 : ∀ b, (Value.slice A' N c').ownBlock = some b → b ≠ g := fun b hb => by
        have := (World.ownsRow.lt h1 b hb).1; omega
      obtain ⟨_, _, ⟨v, _, k0⟩, k1, k3, k4⟩ := hr3
      rw [HZ.out]
      refine ⟨_, rfl, (h1.bytes (by rw [HTL.out]; have := HBM.out; omega)).same fun b hb => Below.heap_setCell _ _ _ _ (hlt3 b hb), ?_, (Alo.only HO.out).trans ((Alo.ok h2).trans (Alo.only ((Only.refl g w3).set 0 _)))⟩
      exact (HR.out.ok h2).set h3 ((Only.refl g w3).set 0 _) (by go_simp) (by go_simp) (by go_simp) (by go_simp)
    have HSL : Hid ([] ++ ts = ts) := Lib.hid rfl
    clear HZ HR HO
    cases A with
    | none =>
      have HD2 : Hid (BytesQ q W0 (.slice none (l - N) (c - N)) ds) := Lib.hid (by
        have := HD.out
        split at this <;> exact this)
      go_wp2_with (at_builtin; go_must (refine wpList_app rfl (.tmp 23) (.tmp 29) rfl w1.heap.size (.slice (some ⟨w1.heap.size, 0, none⟩) 0 0) [] ts (.slice none N c) rfl rfl HO1.out HT1.out (by rw [HTL.out]; have := HBM.out; simp only [List.length_nil]; omega) HOK1.out.size ?_; rw [List.length_nil, HTL.out, Nat.zero_add, HSL.out]; intro A' c' w3 hown3 hbel3; have hok3 : Ok w1 w3 := Below.trans HOK1.out hbel3; have HOW := Lib.hid hown3; have c0 := hok3.cell h0; have f0 : w3.frozen? ⟨g, 0, none⟩ = false := (by rw [Below.frozen hok3 (p := ⟨g, 0, none⟩) hgs]; exact h3); have HOK3 := Lib.hid hok3; clear hown3 hbel3 hok3))
      go_ret
      exact HEND.out _ _ _ _ HOW.out HOK3.out HD2.out
    | some a =>
      by_cases hcN : c = N
      · have HD2 : Hid (BytesQ q W0 (.slice (some a) 0 0) ds) := Lib.hid (by
          have := HD.out
          rwa [if_pos hcN, show l - N = 0 by omega, show c - N = 0 by omega] at this)
        subst hcN
        go_wp2_with (at_builtin; go_must (refine wpList_app rfl (.tmp 23) (.tmp 29) rfl w1.heap.size (.slice (some ⟨w1.heap.size, 0, none⟩) 0 0) [] ts (.slice (some a) c c) rfl rfl HO1.out HT1.out (by rw [HTL.out]; have := HBM.out; simp only [List.length_nil]; omega) HOK1.out.size ?_; rw [List.length_nil, HTL.out, Nat.zero_add, HSL.out]; intro A' c' w3 hown3 hbel3; have hok3 : Ok w1 w3 := Below.trans HOK1.out hbel3; have HOW := Lib.hid hown3; have c0 := hok3.cell h0; have f0 : w3.frozen? ⟨g, 0, none⟩ = false := (by rw [Below.frozen hok3 (p := ⟨g, 0, none⟩) hgs]; exact h3); have HOK3 := Lib.hid hok3; clear hown3 hbel3 hok3))
        go_ret
        exact HEND.out _ _ _ _ HOW.out HOK3.out HD2.out
      · have HD2 : Hid (BytesQ q W0 (.slice (some (a.add N)) (l - N) (c - N)) ds) := Lib.hid (by
          have := HD.out
          rwa [if_neg hcN] at this)
        go_wp2_with (at_builtin; go_must (refine wpList_app rfl (.tmp 23) (.tmp 29) rfl w1.heap.size (.slice (some ⟨w1.heap.size, 0, none⟩) 0 0) [] ts (.slice (some a) N c) rfl rfl HO1.out HT1.out (by rw [HTL.out]; have := HBM.out; simp only [List.length_nil]; omega) HOK1.out.size ?_; rw [List.length_nil, HTL.out, Nat.zero_add, HSL.out]; intro A' c' w3 hown3 hbel3; have hok3 : Ok w1 w3 := Below.trans HOK1.out hbel3; have HOW := Lib.hid hown3; have c0 := hok3.cell h0; have f0 : w3.frozen? ⟨g, 0, none⟩ = false := (by rw [Below.frozen hok3 (p := ⟨g, 0, none⟩) hgs]; exact h3); have HOK3 := Lib.hid hok3; clear hown3 hbel3 hok3))
        go_ret
        exact HEND.out _ _ _ _ HOW.out HOK3.out HD2.out
set_option maxRecDepth 100000 in
set_option maxHeartbeats 1000000 in
theorem rFlag_q (q : Nat) (W0 : World) (g : Nat) (w : World) (xs : List B8) (f : Bool) (h : RfQ q W0 g w xs f) :
    Calls Try.prog 30 #[.pointer (some ⟨g, 0, none⟩)] w (RfPostQ q W0 g w (.bool (flagZ xs f).1) (flagZ xs f).2.1 (flagZ xs f).2.2) := by
  have HR := Lib.hid h
  obtain ⟨_, hok, ⟨v, hv, h0⟩, h1, h3, h4⟩ := h
  cases f with
  | true =>
    have e : flagZ xs true = (false, xs, true) := rfl
    rw [e]
    clear e
    go_enter Try.func30, Try.ntmps30
    go_wp2
    go_ret
    exact ⟨rfl, HR.out, Only.refl _ _⟩
  | false =>
    cases xs with
    | nil =>
      have e : flagZ [] false = (false, [], true) := rfl
      rw [e]
      obtain ⟨A, c, rfl, _⟩ := hv.1.form
      clear e hv hok
      go_enter Try.func30, Try.ntmps30
      go_wp2_with fail
      refine (rfail_q q W0 g _ _ _ HR.out).mono ?_
      rintro _ w2 ⟨rfl, hr2, ho2⟩
      have HR2 := Lib.hid hr2
      have HO2 := Lib.hid ho2
      clear hr2 ho2
      go_wp2_with fail
      go_ret
      exact ⟨rfl, HR2.out, HO2.out⟩
    | cons y r =>
      have HON := Lib.hid (ub_one y)
      have hV := hv
      obtain ⟨b, o, c, rfl, hlc, hc, ht⟩ := bytes_tail hv.1
      have C1 := hok.cell hc
      have hbq : b = q := hV.2 _ _ _ rfl (by simp)
      have HT : Hid (∀ A, (A = (if c = 1 then some (⟨b, o, none⟩ : Addr) else some ⟨b, o + 1, none⟩)) → BytesQ q W0 (.slice A r.length (c - 1)) r) := Lib.hid (fun A hA => ⟨ht A hA, fun A' n' c' e _ => by
        rw [hA] at e
        split at e
        · simp only [Value.slice.injEq, Option.some.injEq] at e
          rw [← e.1]; exact hbq
        · simp only [Value.slice.injEq, Option.some.injEq] at e
          rw [← e.1]; exact hbq⟩)
      clear hbq
      have hlm : r.length + 1 ≤ 140737488351232 := by
        obtain ⟨_, _, _, hl⟩ := hV.1.form
        simpa using hl
      have hz : ((r.length : Int) + 1 == 0) = false := by rw [beq_eq_false_iff_ne]; omega
      by_cases hy : y.toNat ≤ 1
      · have hd : decide ((1 : Int) < ub y) = false := decide_eq_false (by unfold ub; omega)
        have HF : Hid (flagZ (y :: r) false = (flagV (y :: r), r, false)) := Lib.hid (by simp [flagZ, flagR, flagF, hy])
        rw [HF.out]
        have HG : Hid (∀ A c', BytesQ q W0 (.slice A r.length c') r → RfPostQ q W0 g w (.bool (flagV (y :: r))) r false (.returned (.bool (ub y == 1))) (w.setCell ⟨g, 0, none⟩ (.slice A r.length c'))) := Lib.hid fun A c' hA =>
          ⟨by rw [HON.out]; rfl, HR.out.set hA ((Only.refl g w).set 0 _) (by go_simp) (by go_simp) (by go_simp) (by go_simp), (Only.refl g w).set 0 _⟩
        clear hy ht hV hv hc hok HF
        by_cases hc1 : c = 1
        · obtain rfl := hc1
          have hx0 : r = [] := List.length_eq_zero_iff.1 (by omega)
          subst hx0
          have HB : Hid (BytesQ q W0 (.slice (some ⟨b, o, none⟩) 0 0) []) := Lib.hid (by
            have := HT.out _ rfl
            rwa [if_pos rfl] at this)
          clear hz
          simp only [List.length_nil, Nat.zero_add] at h0
          go_enter Try.func30, Try.ntmps30
          go_wp2_with fail
          go_ret
          exact HG.out _ _ HB.out
        · have HB : Hid (BytesQ q W0 (.slice (some ⟨b, o + 1, none⟩) r.length (c - 1)) r) := Lib.hid (by
            have := HT.out _ rfl
            rwa [if_neg hc1] at this)
          have hc2 : 1 < c := by omega
          go_enter Try.func30, Try.ntmps30
          go_wp2_with fail
          go_ret
          exact HG.out _ _ HB.out
      · have hd : decide ((1 : Int) < ub y) = true := decide_eq_true (by unfold ub; omega)
        have HF : Hid (flagZ (y :: r) false = (false, [], true)) := Lib.hid (by
          have : ¬ y = 1#8 := fun e => hy (by subst e; decide)
          simp [flagZ, flagV, flagR, flagF, hy, this])
        rw [HF.out]
        clear hy ht hV hv hc hok
        go_enter Try.func30, Try.ntmps30
        go_wp2_with fail
        refine (rfail_q q W0 g _ _ _ HR.out).mono ?_
        rintro _ w2 ⟨rfl, hr2, ho2⟩
        have HR2 := Lib.hid hr2
        have HO2 := Lib.hid ho2
        clear hr2 ho2
        go_wp2_with fail
        go_ret
        exact ⟨rfl, HR2.out, HO2.out⟩
set_option maxHeartbeats 400000 in
theorem rend_q (q : Nat) (W0 : World) (g : Nat) (w : World) (xs : List B8) (f : Bool) (h : RfQ q W0 g w xs f) :
    Calls Try.prog 36 #[.pointer (some ⟨g, 0, none⟩)] w fun e w' => e = .returned (.int .i64 (endOf xs f)) ∧ w = w' := by
  obtain ⟨v, hv, h0⟩ := h.2.2.1
  obtain ⟨A, c, rfl, _⟩ := hv.1.form
  have h1 := h.2.2.2.1
  clear hv h
  cases f with
  | true =>
    go_enter Try.func36, Try.ntmps36
    go_wp2
    go_ret
    exact ⟨rfl, rfl⟩
  | false =>
    by_cases hl : 0 < xs.length
    · have HE : Hid (endOf xs false = 4) := Lib.hid (by simp [endOf, hl])
      have hd : decide (0 < xs.length) = true := decide_eq_true hl
      have hd2 : decide ((0 : Int) < (xs.length : Int)) = true := decide_eq_true (by omega)
      go_enter Try.func36, Try.ntmps36
      go_wp2
      go_ret
      exact ⟨by rw [HE.out]; rfl, rfl⟩
    · have HE : Hid (endOf xs false = 0) := Lib.hid (by unfold endOf; rw [decide_eq_false hl]; rfl)
      have hd : decide (0 < xs.length) = false := decide_eq_false hl
      have hd2 : decide ((0 : Int) < (xs.length : Int)) = false := decide_eq_false (by omega)
      go_enter Try.func36, Try.ntmps36
      go_wp2
      go_ret
      exact ⟨by rw [HE.out]; rfl, rfl⟩

/-- A world with its first blocks only. -/
def cutW (w : World) (m : Nat) : World := { w with heap := w.heap.extract 0 m }
theorem cutW_at (w : World) (m k : Nat) (hk : k < m) : (cutW w m).heap[k]? = w.heap[k]? := by
  unfold cutW
  simp only [Array.getElem?_extract]
  split
  · simp
  · rw [Array.getElem?_eq_none (by omega)]
theorem cutW_size (w : World) (m : Nat) : (cutW w m).heap.size ≤ m := by
  unfold cutW; simp; omega
theorem cutW_ok (w : World) (m : Nat) (hm : m ≤ w.heap.size) : Ok (cutW w m) w :=
  ⟨rfl, rfl, rfl, Nat.le_trans (cutW_size w m) hm, fun k hk => (cutW_at w m k (Nat.lt_of_lt_of_le hk (cutW_size w m))).symm⟩
theorem cell_eq {w w' : World} {a : Addr} (h : w'.heap[a.block]? = w.heap[a.block]?) : w'.cell? a = w.cell? a := World.cell?_of_block h
theorem BytesQ.at {q : Nat} {w w' : World} {v : Value} {xs : List B8} (h : BytesQ q w v xs) (k : w'.heap[q]? = w.heap[q]?) : BytesQ q w' v xs := by
  refine ⟨?_, h.2⟩
  rcases h.1 with t | ⟨b, o, cc, e, hn, hm, hc⟩
  · exact .inl t
  · refine .inr ⟨b, o, cc, e, hn, hm, fun i hi => ?_⟩
    have hb : b = q := h.2 _ _ _ e (by omega)
    have e1 : w'.cell? ⟨b, o + i, none⟩ = w.cell? ⟨b, o + i, none⟩ := cell_eq (a := ⟨b, o + i, none⟩) (show w'.heap[b]? = w.heap[b]? from hb ▸ k)
    rw [e1]
    exact hc i hi
/-- The document's reader, whatever the world was. -/
def RfS (q m : Nat) (w : World) (xs : List B8) (f : Bool) : Prop := q < m ∧ m < w.heap.size ∧ (∃ v, BytesQ q w v xs ∧ w.cell? ⟨m, 0, none⟩ = some v) ∧ w.cell? ⟨m, 1, none⟩ = some (.bool f) ∧ w.frozen? ⟨m, 0, none⟩ = false ∧ w.frozen? ⟨m, 1, none⟩ = false
theorem RfS.rf {q m : Nat} {w : World} {xs : List B8} {f : Bool} (h : RfS q m w xs f) : RfQ q (cutW w m) m w xs f := by
  obtain ⟨h1, h2, ⟨v, hv, h0⟩, h3, h4, h5⟩ := h
  exact ⟨cutW_size w m, cutW_ok w m (Nat.le_of_lt h2), ⟨v, hv.at (cutW_at w m q h1), h0⟩, h3, h4, h5⟩
theorem RfQ.s {q m : Nat} {W0 w : World} {xs : List B8} {f : Bool} (h : RfQ q W0 m w xs f) (hq : q < m) : RfS q m w xs f := by
  have hl := h.lt
  obtain ⟨h1, h2, ⟨v, hv, h0⟩, h3, h4, h5⟩ := h
  refine ⟨hq, hl, ⟨v, ⟨h2.bytes hv.1, hv.2⟩, h0⟩, h3, h4, h5⟩
theorem frozen_eq {w w' : World} {a : Addr} (h : w'.heap[a.block]? = w.heap[a.block]?) : w'.frozen? a = w.frozen? a := by unfold World.frozen?; rw [h]
theorem RfS.same {q m : Nat} {w w' : World} {xs : List B8} {f : Bool} (h : RfS q m w xs f) (kq : w'.heap[q]? = w.heap[q]?) (km : w'.heap[m]? = w.heap[m]?) (ks : w.heap.size ≤ w'.heap.size) : RfS q m w' xs f := by
  obtain ⟨h1, h2, ⟨v, hv, h0⟩, h3, h4, h5⟩ := h
  exact ⟨h1, Nat.lt_of_lt_of_le h2 ks, ⟨v, hv.at kq, by rw [cell_eq (a := ⟨m, 0, none⟩) km]; exact h0⟩, by rw [cell_eq (a := ⟨m, 1, none⟩) km]; exact h3, by rw [frozen_eq (a := ⟨m, 0, none⟩) km]; exact h4, by rw [frozen_eq (a := ⟨m, 1, none⟩) km]; exact h5⟩
theorem RfS.ok {q m : Nat} {w w' : World} {xs : List B8} {f : Bool} (h : RfS q m w xs f) (k : Ok w w') : RfS q m w' xs f :=
  h.same (k.block q (Nat.lt_trans h.1 h.2.1)) (k.block m h.2.1) k.size
theorem RfS.only {q m g : Nat} {w w' : World} {xs : List B8} {f : Bool} (h : RfS q m w xs f) (k : Only g w w') (hq : q ≠ g) (hm : m ≠ g) : RfS q m w' xs f :=
  h.same (k.2.2.2.2 q hq) (k.2.2.2.2 m hm) (Nat.le_of_eq k.2.2.2.1.symm)
theorem RfS.alo {q m g : Nat} {w w' : World} {xs : List B8} {f : Bool} (h : RfS q m w xs f) (k : Alo g w w') (hq : q ≠ g) (hm : m ≠ g) : RfS q m w' xs f :=
  h.same (k.block q hq (Nat.lt_trans h.1 h.2.1)) (k.block m hm h.2.1) k.size
theorem Rd.same {W0 : World} {g : Nat} {w w' : World} {xs : List B8} {f : Bool} (h : Rd W0 g w xs f) (k : Ok W0 w') (kg : w'.heap[g]? = w.heap[g]?) : Rd W0 g w' xs f := by
  obtain ⟨h1, h2, ⟨v, hv, h0⟩, h3, h6, h4, h5⟩ := h
  exact ⟨h1, k, ⟨v, hv, by rw [cell_eq (a := ⟨g, 0, none⟩) kg]; exact h0⟩, by rw [cell_eq (a := ⟨g, 1, none⟩) kg]; exact h3, by rw [cell_eq (a := ⟨g, 2, none⟩) kg]; exact h6, by rw [frozen_eq (a := ⟨g, 0, none⟩) kg]; exact h4, by rw [frozen_eq (a := ⟨g, 1, none⟩) kg]; exact h5⟩
theorem Rd.lt {W0 : World} {g : Nat} {w : World} {xs : List B8} {f : Bool} (h : Rd W0 g w xs f) : g < w.heap.size := by
  obtain ⟨v, _, h0⟩ := h.2.2.1
  exact World.block_lt_of_cell? _ _ h0
theorem Rd.alo {W0 : World} {g m : Nat} {w w' : World} {xs : List B8} {f : Bool} (h : Rd W0 g w xs f) (k : Alo m w w') (hm : g < m) : Rd W0 g w' xs f :=
  h.same (Below.trans h.2.1 (k.below (Nat.le_trans h.1 (Nat.le_of_lt hm)) h.2.1.size)) (k.block g (Nat.ne_of_lt hm) h.lt)
def RfSP (q m : Nat) (w : World) (res : Value) (ys : List B8) (f : Bool) (e : Ending) (w' : World) : Prop := e = .returned res ∧ RfS q m w' ys f ∧ Only m w w'
theorem rnum_s (q m : Nat) (w : World) (xs : List B8) (f : Bool) (z : Int) (h : RfS q m w xs f) :
    Calls Try.prog 28 #[.pointer (some ⟨m, 0, none⟩), .int .i64 z] w (RfSP q m w (.int .i64 ((numZ z xs f).1 : Int)) (numZ z xs f).2.1 (numZ z xs f).2.2) :=
  (rnum_q q _ m w xs f z h.rf).mono fun _ _ ⟨h1, h2, h3⟩ => ⟨h1, h2.s h.1, h3⟩
theorem rflag_s (q m : Nat) (w : World) (xs : List B8) (f : Bool) (h : RfS q m w xs f) :
    Calls Try.prog 30 #[.pointer (some ⟨m, 0, none⟩)] w (RfSP q m w (.bool (flagZ xs f).1) (flagZ xs f).2.1 (flagZ xs f).2.2) :=
  (rFlag_q q _ m w xs f h.rf).mono fun _ _ ⟨h1, h2, h3⟩ => ⟨h1, h2.s h.1, h3⟩
def RowS (q m : Nat) (w : World) (zs ys : List B8) (f : Bool) (e : Ending) (w' : World) : Prop := ∃ v, e = .returned v ∧ BytesIn w' v zs ∧ RfS q m w' ys f ∧ Alo m w w'
theorem rrow_s (q m : Nat) (w : World) (xs : List B8) (f : Bool) (z : Int) (h : RfS q m w xs f) :
    Calls Try.prog 32 #[.pointer (some ⟨m, 0, none⟩), .int .i64 z] w (RowS q m w (rowZ z xs f).1 (rowZ z xs f).2.1 (rowZ z xs f).2.2) :=
  (Row_q q _ m w xs f z h.rf).mono fun _ _ ⟨v, h1, h2, h3, h4⟩ => ⟨v, h1, h2, h3.s h.1, h4⟩
theorem rend_s (q m : Nat) (w : World) (xs : List B8) (f : Bool) (h : RfS q m w xs f) :
    Calls Try.prog 36 #[.pointer (some ⟨m, 0, none⟩)] w fun e w' => e = .returned (.int .i64 (endOf xs f)) ∧ w = w' := rend_q q _ m w xs f h.rf
end Go.Proofs.Ytolfdncmlfnbdaa
