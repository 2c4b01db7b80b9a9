/- Frames in memory; frames put, walked. -/
import Derived.Test.YtpebnlddmjfomaaDoorFc
namespace Go.Proofs.YtpebnlddmjfomaaDoor
open Go.RowKit
def FramesAt (w : World) (A : Option Addr) (l : List Fr) : Prop := ∀ j, j < l.length → ∃ b off, A = some ⟨b, off, none⟩ ∧ w.cell? ⟨b, off + j * 2, none⟩ = some (.int .i64 (atF l j).kind) ∧ ∃ v, w.cell? ⟨b, off + j * 2 + 1, none⟩ = some v ∧ BytesIn w v (atF l j).data
theorem FramesAt.ok {w w' : World} {A : Option Addr} {l : List Fr} (h : FramesAt w A l) (k : Ok w w') : FramesAt w' A l := fun j hj => by
  obtain ⟨b, off, e, h0, v, h1, h2⟩ := h j hj
  exact ⟨b, off, e, k.cell h0, v, k.cell h1, k.bytes h2⟩
theorem rows2_of (w : World) (v v' : Value) (xs xs' : List B8) (g c : Nat) (hc : w.cell? ⟨g, 0, none⟩ = some v) (hc' : w.cell? ⟨g, 1, none⟩ = some v') (h : BytesIn w v xs) (h' : BytesIn w v' xs') : RowsIn w (.slice (some ⟨g, 0, none⟩) 2 c) [xs, xs'] :=
  .inr ⟨g, 0, c, rfl, by simp, fun r hr => match r, hr with
    | 0, _ => ⟨v, hc, h⟩
    | 1, _ => ⟨v', hc', h'⟩⟩
def putErr : List Fr → Int
  | [] => 0
  | f :: l => if rightFB f = 0 then putErr l else rightFB f
theorem putErr_bad : ∀ (l : List Fr) (k : Nat), k < l.length → (∀ j, j < k → rightFB (atF l j) = 0) → rightFB (atF l k) ≠ 0 → putErr l = rightFB (atF l k)
  | [], _, h, _, _ => absurd h (Nat.not_lt_zero _)
  | f :: l, 0, _, _, hb => by
    have e : atF (f :: l) 0 = f := rfl
    rw [e] at hb ⊢
    unfold putErr
    rw [if_neg hb]
  | f :: l, k + 1, h, hg, hb => by
    have e0 : rightFB f = 0 := hg 0 (Nat.succ_pos k)
    have e : atF (f :: l) (k + 1) = atF l k := rfl
    rw [e] at hb ⊢
    unfold putErr
    rw [if_pos e0]
    exact putErr_bad l k (Nat.lt_of_succ_lt_succ h) (fun j hj => hg (j + 1) (Nat.succ_lt_succ hj)) hb
theorem putErr_all : ∀ (l : List Fr), putErr l = 0 ↔ ∀ f ∈ l, RightF f
  | [] => ⟨fun _ f hf => absurd hf List.not_mem_nil, fun _ => rfl⟩
  | f :: l => by
    unfold putErr
    constructor
    · intro h
      split at h
      · rename_i h0
        intro g hg
        rcases List.mem_cons.1 hg with rfl | hg
        · exact (rightFB_iff _).1 h0
        · exact (putErr_all l).1 h g hg
      · rename_i h0
        exact absurd h h0
    · intro h
      rw [if_pos ((rightFB_iff f).2 (h f (List.mem_cons_self ..)))]
      exact (putErr_all l).2 fun g hg => h g (List.mem_cons_of_mem _ hg)
theorem right_all {l : List Fr} (h : ∀ j, j < l.length → rightFB (atF l j) = 0) : ∀ f ∈ l, RightF f := fun f hf => by
  obtain ⟨j, hj, e⟩ := List.mem_iff_getElem.1 hf
  have e2 : atF l j = f := by simp [atF, List.getD, hj, e]
  rw [← e2]
  exact (rightFB_iff _).1 (h j hj)
def putM (l : List Fr) : List B8 := if putErr l = 0 then putL l else []
def PutP (w : World) (l : List Fr) (e : Ending) (w' : World) : Prop := ∃ A c, e = .returned (.tuple #[.slice A (putM l).length c, .int .i64 (putErr l)]) ∧ OwnN w' w.heap.size (.slice A (putM l).length c) (putM l) ∧ Ok w w'
theorem put_take (l : List Fr) (k : Nat) (h : k < l.length) : putL (l.take (k + 1)) = putL (l.take k) ++ bytesF (atF l k) := by
  have e : atF l k = l[k] := by simp [atF, List.getD, h]
  rw [List.take_succ_eq_append_getElem h, putL_append, putL_cons, putL_nil, List.append_nil, e]
theorem put_take_len (l : List Fr) (k : Nat) : (putL (l.take k)).length ≤ (putL l).length := upto_le l k
theorem Ok.rows {w w' : World} (k : Ok w w') {v : Value} {ll : List (List B8)} (h : RowsIn w v ll) : RowsIn w' v ll := h.below k
theorem Tab.ok {w w' : World} (h : Tab w) (k : Ok w w') : Tab w' := h.below k (World.block_lt_of_cell? w _ (h 0 (by decide)))
theorem cell_of_heap {w : World} {b ty : Nat} {cs : Array Value} {fz : Nat × Nat} (h : w.heap[b]? = some (.cells cs ty fz)) (i : Nat) : w.cell? ⟨b, i, none⟩ = cs[i]? := by
  rw [cell_of_row _ _ _ _ _ _ h]
theorem PutP.bad {w w2 : World} {l : List Fr} {ec : Int} (h : ¬ putErr l = 0) (e : putErr l = ec) (ho : Ok w w2) : PutP w l (.returned (.tuple #[.slice none 0 0, .int .i64 ec])) w2 := by
  have hm : putM l = [] := by unfold putM; rw [if_neg h]
  refine ⟨none, 0, by rw [hm, e]; rfl, by rw [hm]; exact OwnN.nil _ _, ho⟩
theorem PutP.good {w w2 : World} {l : List Fr} {A : Option Addr} {n c : Nat} (h : ∀ f ∈ l, RightF f) (hn : (putL l).length = n) (ho : OwnN w2 w.heap.size (.slice A n c) (putL l)) (k : Ok w w2) : PutP w l (.returned (.tuple #[.slice A n c, .int .i64 0])) w2 := by
  have h0 := (putErr_all l).2 h
  have hm : putM l = putL l := by unfold putM; rw [if_pos h0]
  subst hn
  exact ⟨A, c, by rw [hm, h0], by rw [hm]; exact ho, k⟩
theorem OwnN.len {w : World} {B : Nat} {A : Option Addr} {n c : Nat} {xs : List B8} (h : OwnN w B (.slice A n c) xs) : n = xs.length := by
  obtain ⟨A', c', e⟩ := h.form
  simp only [Value.slice.injEq] at e
  exact e.2.1
/-- The sum of a head and data. -/
theorem sumF_w (v : Value) (k n : Nat) (d : List B8) (hd : d.length = n) (W : World) (hr : RowsIn W v [headB k n, d]) (ht : Tab W) : Calls Tryd.prog 22 #[v] W (Ret W (.int .u32 (sumF k d : Nat))) := by
  have h := sum0_v v _ W hr ht
  subst hd
  exact h
set_option maxRecDepth 100000 in
set_option maxHeartbeats 4000000 in
theorem put_w (A : Option Addr) (n c : Nat) (l : List Fr) (hn : l.length = n) (hn6 : n ≤ 1000000) (hlen : (putL l).length ≤ 1000000000) (w : World) (ht : Tab w) (hI : FramesAt w A l) :
    Calls Tryd.prog 10 #[.slice A n c] w (PutP w l) := by
  have HI := Lib.hid hI
  have HN := Lib.hid hn
  have HT := Lib.hid ht
  have HL := Lib.hid hlen
  clear hI hn ht hlen
  go_enter Tryd.func10, Tryd.ntmps10
  go_wp2_with fail
  go_loopw [13] (fun i wr => ∃ k : Nat, k ≤ n ∧ i = .int .i64 k ∧ (∀ j, j < k → rightFB (atF l j) = 0) ∧ Ok w wr) (fun i _ => n - (intOf i).toNat)
  case atStart => exact ⟨0, Nat.zero_le _, rfl, fun j hj => absurd hj (Nat.not_lt_zero _), Ok.refl _⟩
  case round =>
    obtain ⟨k, hk, rfl, hg, okr⟩ := hrel
    have HOKR := Lib.hid okr
    have HG := Lib.hid hg
    clear okr hg
    by_cases hlt : k < n
    · have d1 : decide ((k : Int) < (n : Int)) = true := decide_eq_true (by omega)
      obtain ⟨b, off, rfl, C0, v, C1, HB⟩ := (HI.out.ok HOKR.out) k (by rw [HN.out]; exact hlt)
      obtain ⟨A', c', rfl, -⟩ := HB.form
      have HR := Lib.hid (fun V => right_w (atF l k) A' _ c' rfl V)
      have HBAD := Lib.hid (fun h => putErr_bad l k (by rw [HN.out]; exact hlt) HG.out h)
      have HGS : Hid (rightFB (atF l k) = 0 → ∀ j, j < k + 1 → rightFB (atF l j) = 0) := Lib.hid fun h j hj => by
        rcases Nat.lt_succ_iff_lt_or_eq.1 hj with h2 | rfl
        · exact HG.out j h2
        · exact h
      generalize (atF l k).data.length = m at *
      generalize (atF l k).kind = kd at *
      have hi0 : (0 : Int) ≤ (k : Int) := Int.natCast_nonneg _
      have hi1 : (k : Int) < (n : Int) := by omega
      clear HB
      go_wp2_with fail
      (with_reducible refine (HR.out _).mono ?_)
      rintro _ w2 ⟨rfl, o2⟩
      have HO2 : Hid (Ok w w2) := Lib.hid (Ok.trans (HOKR.out.alloc _) o2)
      clear o2
      by_cases h0 : rightFB (atF l k) = 0
      · have d2 : (rightFB (atF l k) != 0) = false := by simp [h0]
        have HGK := Lib.hid (HGS.out h0)
        clear h0 HBAD HGS
        generalize rightFB (atF l k) = ec at *
        go_wp2_with fail
        refine ⟨⟨k + 1, hlt, by go_num, HGK.out, HO2.out⟩, by simp [intOf]; omega⟩
      · have d2 : (rightFB (atF l k) != 0) = true := by simp [h0]
        have HPE := Lib.hid (HBAD.out h0)
        have HZ : Hid (¬ putErr l = 0) := Lib.hid (by rw [HPE.out]; exact h0)
        clear h0 HBAD HGS
        generalize rightFB (atF l k) = ec at *
        go_wp2_with fail
        go_ret2
        exact PutP.bad HZ.out HPE.out HO2.out
    · have d1 : decide ((k : Int) < (n : Int)) = false := decide_eq_false (by omega)
      have HALL : Hid (∀ f ∈ l, RightF f) := Lib.hid (right_all fun j hj => HG.out j (by rw [HN.out] at hj; omega))
      clear HG
      go_wp2_with fail
      obtain ⟨w1, hw1⟩ : ∃ x, x = wr := ⟨_, rfl⟩
      subst hw1
      go_loopw [7, 25] (fun v i wr => ∃ (k : Nat) (A' : Option Addr) (n' c' : Nat), k ≤ n ∧ i = .int .i64 k ∧ v = .slice A' n' c' ∧ OwnN wr w.heap.size (.slice A' n' c') (putL (l.take k)) ∧ Ok w wr) (fun _ i _ => n - (intOf i).toNat)
      case atStart => exact ⟨0, none, 0, 0, Nat.zero_le _, rfl, rfl, OwnN.nil _ _, HOKR.out⟩
      case round =>
        obtain ⟨k2, A', n', c', hk2, rfl, rfl, hown, okr⟩ := hrel
        have HOK2 := Lib.hid okr
        have HOW := Lib.hid hown
        have HNL := Lib.hid hown.len
        clear okr hown
        by_cases hlt2 : k2 < n
        · have e1 : decide ((k2 : Int) < (n : Int)) = true := decide_eq_true (by omega)
          obtain ⟨b, off, rfl, C0, v, C1, hB⟩ := HI.out k2 (by rw [HN.out]; exact hlt2)
          have HB := Lib.hid hB
          replace C0 := Ok.cell HOK2.out C0
          replace C1 := Ok.cell HOK2.out C1
          obtain ⟨A2, c2, rfl, -⟩ := hB.form
          have hfr := HALL.out _ (atF_mem l k2 (by rw [HN.out]; exact hlt2))
          obtain ⟨kn, hkn, hkd⟩ : ∃ kn : Nat, kn < 256 ∧ (atF l k2).kind = (kn : Int) := ⟨(atF l k2).kind.toNat, by have := hfr.1; have := hfr.2.1; omega, by have := hfr.1; omega⟩
          have hdl := hfr.2.2
          have hpt := put_take l k2 (by rw [HN.out]; exact hlt2)
          have hle := put_take_len l (k2 + 1)
          rw [hpt, List.length_append] at hle
          unfold bytesF at hpt hle
          rw [hkd, Int.toNat_natCast] at hpt hle
          rw [hkd] at C0
          have HPT := Lib.hid hpt
          generalize (atF l k2).data = d at *
          generalize (atF l k2).kind = kd at *
          have HDL : Hid (d.length = d.length) := Lib.hid rfl
          obtain ⟨m, hm⟩ : ∃ m, m = d.length := ⟨_, rfl⟩
          have HM := Lib.hid hm.symm
          rw [← hm] at hdl C1 HB hpt hle HPT
          clear hm hkd hfr hpt hB HDL
          have hle2 : (putL (l.take k2)).length + 9 + m ≤ 1000000000 := by
            have := HL.out
            have := HM.out
            simp only [List.length_append, headB_len, four_len] at hle
            omega
          clear hle
          have HX : Hid ((putL (l.take k2)).length + 9 + m ≤ 1000000000) := Lib.hid hle2
          have HHD := Lib.hid (fun V => head_w kn m hkn (by omega) V)
          have hi0 : (0 : Int) ≤ (k2 : Int) := Int.natCast_nonneg _
          have hi1 : (k2 : Int) < (n : Int) := by omega
          clear hle2 hdl hkn
          have G9 : Hid ((wr.alloc (.cells #[.int .i64 (kn : Int), .slice A2 m c2] 28)).heap[wr.heap.size]? = some (.cells #[.int .i64 (kn : Int), .slice A2 m c2] 28)) := Lib.hid (heap_alloc_new wr _)
          have HOKA : Hid (Ok w (wr.alloc (.cells #[.int .i64 (kn : Int), .slice A2 m c2] 28))) := Lib.hid (HOK2.out.alloc _)
          have HOWA : Hid (OwnN (wr.alloc (.cells #[.int .i64 (kn : Int), .slice A2 m c2] 28)) w.heap.size (.slice A' n' c') (putL (l.take k2))) := Lib.hid (HOW.out.ok ((Ok.refl _).alloc _))
          have HSZ : Hid (wr.heap.size < (wr.alloc (.cells #[.int .i64 (kn : Int), .slice A2 m c2] 28)).heap.size) := Lib.hid (by simp)
          go_wp2_with fail
          generalize wr.alloc (.cells #[.int .i64 (kn : Int), .slice A2 m c2] 28) = wA at *
          (with_reducible refine (HHD.out _).mono ?_)
          rintro _ wB ⟨AH, cH, rfl, hoH, oB⟩
          have G9B : Hid (wB.heap[wr.heap.size]? = some (.cells #[.int .i64 (kn : Int), .slice A2 m c2] 28)) := Lib.hid ((oB.block _ HSZ.out).trans G9.out)
          have HOKB := Lib.hid (Ok.trans HOKA.out oB)
          have HOWB := Lib.hid (HOWA.out.ok oB)
          have HHB := Lib.hid hoH
          have HRB : Hid (∀ k, (Value.slice A' n' c').ownBlock = some k → k < wA.heap.size) := Lib.hid (fun k hk => (HOWA.out.below k hk).2)
          have HSB : Hid (wr.heap.size < wB.heap.size) := Lib.hid (Nat.lt_of_lt_of_le HSZ.out oB.size)
          have HBW : Hid (w.heap.size ≤ wB.heap.size) := Lib.hid HOKB.out.size
          have c9B : wB.cell? ⟨wr.heap.size, 1, none⟩ = some (.slice A2 m c2) := cell_of_heap G9B.out 1
          clear hoH oB HHD G9 HOKA HOWA HSZ
          have HXB : Hid ((putL (l.take k2)).length + (headB kn m).length ≤ 140737488351232) := Lib.hid (by have := HX.out; rw [headB_len]; omega)
          rw [headB_len] at HHB
          have HHY : Hid (BytesIn wB (.slice AH 5 cH) (headB kn m)) := Lib.hid (HHB.out.bytes (by rw [headB_len]; decide))
          go_wp2_with (at_builtin; go_must (refine wpList_appG rfl (.tmp 35) (.tmp 36) rfl w.heap.size _ (putL (l.take k2)) (headB kn m) _ rfl rfl HOWB.out HHY.out HXB.out HBW.out ?_; intro A3 n3 c3 wC hoC hbC hgC; have GC : Hid (wC.heap[wr.heap.size]? = some (.cells #[.int .i64 (kn : Int), .slice A2 m c2] 28)) := Lib.hid ((hgC.block _ HSB.out (HOWB.out.not_ty G9B.out (by decide))).trans G9B.out); have c91 : wC.cell? ⟨wr.heap.size, 1, none⟩ = some (.slice A2 m c2) := cell_of_heap GC.out 1; have HHC : Hid (BytesIn wC (.slice AH 5 cH) (headB kn m)) := Lib.hid (HHB.out.bytes_grown (by rw [headB_len]; decide) hgC HRB.out); have HOKC : Hid (Ok w wC) := Lib.hid (Below.trans HOKB.out hbC); have HOWC := Lib.hid hoC; clear hoC hbC hgC))
          have HSUM : Hid (Calls Tryd.prog 22 #[.slice (some ⟨wC.heap.size, 0, none⟩) 2 2] (wC.alloc (.cells #[.slice AH (headB kn m).length cH, .slice A2 m c2] 23)) (Ret (wC.alloc (.cells #[.slice AH (headB kn m).length cH, .slice A2 m c2] 23)) (.int .u32 (sumF kn d : Nat)))) :=
            Lib.hid (sumF_w _ kn m d HM.out _ (rows2_of _ _ _ _ _ _ _ (by go_cell) (by go_cell) (((Ok.refl wC).alloc _).bytes (show BytesIn wC (.slice AH (headB kn m).length cH) (headB kn m) from HHC.out)) ((HOKC.out.alloc _).bytes HB.out)) (HT.out.ok (HOKC.out.alloc _)))
          have HSN := Lib.hid (sumF_lt kn d)
          have HPT2 : Hid (putL (l.take (k2 + 1)) = putL (l.take k2) ++ headB kn m ++ four (sumF kn d) ++ d) := Lib.hid (by rw [HPT.out]; simp only [List.append_assoc])
          clear HPT
          generalize sumF kn d = sn at *
          have HF4 := Lib.hid (fun V => four_w sn HSN.out V)
          (with_reducible refine HSUM.out.mono ?_)
          rintro _ wE ⟨rfl, oE⟩
          have okCE : Ok wC wE := Ok.trans ((Ok.refl wC).alloc _) oE
          have HOKE := Lib.hid (Ok.trans HOKC.out okCE)
          have HOWE := Lib.hid (HOWC.out.ok okCE)
          have GE : Hid (wE.heap[wr.heap.size]? = some (.cells #[.int .i64 (kn : Int), .slice A2 m c2] 28)) := Lib.hid ((okCE.block _ (Array.getElem?_eq_some_iff.1 GC.out).1).trans GC.out)
          clear oE okCE HSUM HOKC HOWC GC c91 c9B HHC HHY HHB HOWB HOKB G9B HSB HRB HBW HXB
          go_wp2_with fail
          (with_reducible refine (HF4.out _).mono ?_)
          rintro _ _ ⟨rfl, rfl⟩
          have HY4 : Hid (BytesIn (wE.alloc (.cells ((four sn).map bv).toArray 5)) (.slice (some ⟨wE.heap.size, 0, none⟩) 4 4) (four sn)) := Lib.hid ((own_new wE (four sn) 4 rfl (by decide)).bytes (show (4 : Nat) ≤ 140737488351232 by decide))
          have HOKF : Hid (Ok w (wE.alloc (.cells ((four sn).map bv).toArray 5))) := Lib.hid (HOKE.out.alloc _)
          have HOWF : Hid (OwnN (wE.alloc (.cells ((four sn).map bv).toArray 5)) w.heap.size (.slice A3 n3 c3) (putL (l.take k2) ++ headB kn m)) := Lib.hid (HOWE.out.ok ((Ok.refl _).alloc _))
          have GF : Hid ((wE.alloc (.cells ((four sn).map bv).toArray 5)).heap[wr.heap.size]? = some (.cells #[.int .i64 (kn : Int), .slice A2 m c2] 28)) := Lib.hid ((((Ok.refl wE).alloc (.cells ((four sn).map bv).toArray 5)).block _ (Array.getElem?_eq_some_iff.1 GE.out).1).trans GE.out)
          generalize wE.alloc (.cells ((four sn).map bv).toArray 5) = wF at *
          have HXF : Hid ((putL (l.take k2) ++ headB kn m).length + (four sn).length ≤ 140737488351232) := Lib.hid (by have := HX.out; rw [List.length_append, headB_len, four_len]; omega)
          have HXG : Hid ((putL (l.take k2) ++ headB kn m ++ four sn).length + d.length ≤ 140737488351232) := Lib.hid (by have := HX.out; have := HM.out; rw [List.length_append, List.length_append, headB_len, four_len]; omega)
          have HFW : Hid (w.heap.size ≤ wF.heap.size) := Lib.hid HOKF.out.size
          clear HOKE HOWE GE
          go_wp2_with (at_builtin; first | (refine wpList_appG rfl (.tmp 46) (.tmp 48) rfl w.heap.size _ (putL (l.take k2) ++ headB kn m ++ four sn) d _ rfl rfl HOWG.out HDG.out HXG.out HGW.out ?_; intro A5 n5 c5 wH hoH hbH hgH; have HOKH : Hid (Ok w wH) := Lib.hid (Below.trans HOKG.out hbH); have HOWH := Lib.hid hoH; clear hoH hbH hgH) | (go_must (refine wpList_appG rfl (.tmp 38) (.tmp 44) rfl w.heap.size _ (putL (l.take k2) ++ headB kn m) (four sn) _ rfl rfl HOWF.out HY4.out HXF.out HFW.out ?_; intro A4 n4 c4 wG hoG hbG hgG; have GG : Hid (wG.heap[wr.heap.size]? = some (.cells #[.int .i64 (kn : Int), .slice A2 m c2] 28)) := Lib.hid ((hgG.block _ (Array.getElem?_eq_some_iff.1 GF.out).1 (HOWF.out.not_ty GF.out (by decide))).trans GF.out); have cG : wG.cell? ⟨wr.heap.size, 1, none⟩ = some (.slice A2 m c2) := cell_of_heap GG.out 1; have HOKG : Hid (Ok w wG) := Lib.hid (Below.trans HOKF.out hbG); have HOWG := Lib.hid hoG; have HDG : Hid (BytesIn wG (.slice A2 m c2) d) := Lib.hid (HOKG.out.bytes HB.out); have HGW : Hid (w.heap.size ≤ wG.heap.size) := Lib.hid HOKG.out.size; clear hoG hbG hgG)))
          refine ⟨⟨k2 + 1, A5, n5, c5, hlt2, by go_num, rfl, ?_, HOKH.out⟩, by simp [intOf]; omega⟩
          rw [HPT2.out]
          exact HOWH.out
        · have e1 : decide ((k2 : Int) < (n : Int)) = false := decide_eq_false (by omega)
          have htk : l.take k2 = l := List.take_of_length_le (by rw [HN.out]; omega)
          have HOF : Hid (OwnN wr w.heap.size (.slice A' n' c') (putL l)) := Lib.hid (by have := HOW.out; rw [htk] at this; exact this)
          have HNF : Hid ((putL l).length = n') := Lib.hid (by have := HNL.out; rw [htk] at this; exact this.symm)
          clear HOW HNL htk
          go_wp2_with fail
          go_ret2
          exact PutP.good HALL.out HNF.out HOF.out HOK2.out
end Go.Proofs.YtpebnlddmjfomaaDoor
