/- The writer's numbers, flags, texts and rows, any row of each at once, whether it is spoilt or not. -/
import Derived.Test.YtolfdncmlfnbdaaXi
import Derived.Test.YtolfdncmlfnbdaaXj
namespace Go.Proofs.Ytolfdncmlfnbdaa
open Go.RowKit

def fB (b : Bool) : B8 := if b then 1#8 else 0#8
def encR (x : List B8) : List B8 := enc x.length ++ x
def encsR (l : List (List B8)) : List B8 := (l.map encR).flatten
theorem encsR_take (l : List (List B8)) (k : Nat) (h : k < l.length) : encsR (l.take (k + 1)) = encsR (l.take k) ++ encR (l.getD k []) := by
  rw [List.take_succ_eq_append_getElem h, encsR, encsR, List.map_append, List.flatten_append]
  congr 1
  simp [h]
theorem fB_take (l : List Bool) (k : Nat) (h : k < l.length) : (l.take (k + 1)).map fB = (l.take k).map fB ++ [fB (l.getD k false)] := by
  rw [List.take_succ_eq_append_getElem h, List.map_append]
  congr 1
  simp [h]
theorem encsT_le (l : List ByteArray) (k : Nat) : (encsT (l.take k)).length ≤ (encsT l).length := by
  have h : encsT l = encsT (l.take k) ++ encsT (l.drop k) := by
    conv => lhs; rw [← List.take_append_drop k l]
    rw [encsT, List.map_append, List.flatten_append]; rfl
  rw [h, List.length_append]; omega
theorem encsR_le (l : List (List B8)) (k : Nat) : (encsR (l.take k)).length ≤ (encsR l).length := by
  have h : encsR l = encsR (l.take k) ++ encsR (l.drop k) := by
    conv => lhs; rw [← List.take_append_drop k l]
    rw [encsR, List.map_append, List.flatten_append]; rfl
  rw [h, List.length_append]; omega

def WnP (sp : Bool) (g : Nat) (W : World) (res : Value) (ys : List B8) (e : Ending) (w' : World) : Prop := e = .returned res ∧ Wn sp g w' ys ∧ Below g W w'
theorem WnP.of {sp : Bool} {P : Nat → Prop} {g : Nat} {W w' : World} {res : Value} {ys : List B8} {e : Ending} (h : WsPost sp P g W res ys e w') : WnP sp g W res ys e w' := by
  obtain ⟨h1, ⟨A, c, h2⟩, h3, _⟩ := h
  exact ⟨h1, ⟨A, c, h2.1, fun _ hf => hf.elim⟩, h3⟩
theorem Wn.of {sp : Bool} {P : Nat → Prop} {g : Nat} {W : World} {v : Value} {ys : List B8} (h : Ws sp P g W v ys) : Wn sp g W ys := by
  obtain ⟨A, c, rfl⟩ := h.form
  exact ⟨A, c, h.1, fun _ hf => hf.elim⟩
theorem number_z (sp : Bool) (g : Nat) (xs : List B8) (n : Int) (W : World) (hw : Wn sp g W xs) (hx : xs.length ≤ 140737488350000) :
    Calls Try.prog 84 #[.pointer (some ⟨g, 0, none⟩), .int .i64 n] W (WnP (sp || badN n) g W (.tuple #[]) (xs ++ encI n)) := by
  obtain ⟨A, c, h⟩ := hw
  exact (number_any sp _ g _ xs n W h hx).mono fun e w' k => WnP.of k
theorem none_z (sp : Bool) (g : Nat) (xs : List B8) (W : World) (hw : Wn sp g W xs) :
    Calls Try.prog 83 #[.pointer (some ⟨g, 0, none⟩)] W fun e w' => e = .returned (.bool false) ∧ W = w' := by
  obtain ⟨A, c, h⟩ := hw
  exact none_s sp _ g _ xs W h
theorem text_z (sp : Bool) (g : Nat) (xs : List B8) (s : ByteArray) (W : World) (hw : Wn sp g W xs) (hs : s.size ≤ 1000000000) (hx : xs.length ≤ 140000000000000) :
    Calls Try.prog 86 #[.pointer (some ⟨g, 0, none⟩), .string s] W (WnP sp g W (.tuple #[]) (xs ++ encT s)) := by
  obtain ⟨A, c, h⟩ := hw
  have h0 := text_s sp _ g _ xs s W h (fun b hb => hb.elim) hs hx
  rw [List.append_assoc] at h0
  exact h0.mono fun e w' k => WnP.of k
theorem done_nz (g : Nat) (xs : List B8) (W : World) (hw : Wn true g W xs) :
    Calls Try.prog 18 #[.pointer (some ⟨g, 0, none⟩)] W fun e w' => e = .returned (.tuple #[.slice none 0 0, .int .i64 2]) ∧ W = w' := by
  obtain ⟨A, c, h⟩ := hw
  exact done_bad _ g _ xs W h
theorem Wn.wr {g : Nat} {w : World} {xs : List B8} (h : Wn false g w xs) : ∃ A c, Wr g w (.slice A xs.length c) xs := by
  obtain ⟨A, c, h⟩ := h
  exact ⟨A, c, h.wr⟩
set_option maxRecDepth 100000 in
set_option maxHeartbeats 1000000 in
theorem row_s (sp : Bool) (P : Nat → Prop) (hP : ∀ b, ¬ P b) (g : Nat) (v : Value) (xs ys : List B8) (V : Value) (W : World) (hw : Ws sp P g W v xs) (hy : BytesIn W V ys) (hB : ∀ A c, V = .slice (some A) ys.length c → 0 < ys.length → A.block < g) (hs : ys.length ≤ 1000000000) (hx : xs.length ≤ 140000000000000) :
    Calls Try.prog 87 #[.pointer (some ⟨g, 0, none⟩), V] W (WsPost sp P g W (.tuple #[]) (xs ++ enc ys.length ++ ys)) := by
  obtain ⟨A0, c0, rfl, _⟩ := hy.form
  have HY := Lib.hid hy
  have HW := Lib.hid hw
  have HBB := Lib.hid hB
  clear hw hy hB
  have HEL := Lib.hid (enc_len ys.length)
  generalize hn : ys.length = n at *
  have HN := Lib.hid hn
  clear hn
  go_enter Try.func87, Try.ntmps87
  go_wp2_with fail
  refine (number_s sp P g v xs n _ HW.out (by omega) (by omega)).mono ?_
  rintro e w1 ⟨rfl, ⟨A, c, hw1⟩, hb1, _⟩
  have hc0 := hw1.1.1
  have hf0 := hw1.1.2.2.2.2.1
  have hsz := hw1.size
  have HW1 := Lib.hid hw1
  have HB1 := Lib.hid hb1
  have HY1 : Hid (BytesIn w1 (.slice A0 n c0) ys) := Lib.hid (by
    rcases HY.out with t | ⟨b, o, cc, e, hn, hm, hc⟩
    · exact .inl t
    · refine .inr ⟨b, o, cc, e, hn, hm, fun i hi => ?_⟩
      have hlt : b < g := by
        simp only [Value.slice.injEq] at e
        obtain ⟨rfl, h2, rfl⟩ := e
        exact HBB.out _ _ rfl (by have := HN.out; omega)
      rw [hb1.cell (p := ⟨b, o + i, none⟩) hlt]
      exact hc i hi)
  clear hw1 hb1
  generalize hL : (xs ++ enc n).length = L at *
  have HL := Lib.hid hL
  have HLL : Hid (L ≤ 140000000000010) := Lib.hid (by rw [← hL, List.length_append]; have := HEL.out; omega)
  clear hL
  go_wp2_with (at_builtin; go_must (refine wpList_app rfl (.tmp 12) (.tmp 13) rfl (g + 1) (.slice A L c) (xs ++ enc n) ys (.slice A0 n c0) rfl rfl HW1.out.1.2.1 HY1.out (by rw [HL.out, HN.out]; have := HLL.out; omega) (by omega) ?_; intro A' c' w2 hown2 hbel2; have HOWN2 := Lib.hid hown2; have HBEL2 := Lib.hid hbel2; clear hown2 hbel2; rw [HL.out, HN.out]; have hcg : w2.cell? ⟨g, 0, none⟩ = some (.slice A L c) := (by rw [HBEL2.out.cell (p := ⟨g, 0, none⟩) (Nat.lt_succ_self g)]; exact HW1.out.1.1); have hfg : w2.frozen? ⟨g, 0, none⟩ = false := (by rw [HBEL2.out.frozen (p := ⟨g, 0, none⟩) (Nat.lt_succ_self g)]; exact HW1.out.1.2.2.2.2.1); clear hc0 hf0))
  have HG : Hid (Ws sp P g (w2.setCell ⟨g, 0, none⟩ (.slice A' (L + n) c')) (.slice A' (L + n) c') ((xs ++ enc n) ++ ys) ∧ Below g w1 (w2.setCell ⟨g, 0, none⟩ (.slice A' (L + n) c'))) := Lib.hid (by
    have h3 := HOWN2.out
    rw [HL.out, HN.out] at h3
    exact (fun q => ⟨q.1, q.2.1⟩) (HW1.out.grow HBEL2.out h3 (fun b hb => (hP b hb).elim)))
  go_end0
  refine ⟨rfl, ⟨A', c', ?_⟩, HB1.out.trans HG.out.2, fun b hb => (hP b hb).elim⟩
  rw [List.length_append, HL.out, HN.out]
  exact HG.out.1

set_option maxRecDepth 100000 in
set_option maxHeartbeats 1000000 in
theorem flag_s (sp : Bool) (P : Nat → Prop) (hP : ∀ b, ¬ P b) (g : Nat) (v : Value) (xs : List B8) (b : Bool) (W : World) (hw : Ws sp P g W v xs) (hx : xs.length ≤ 140000000000000) :
    Calls Try.prog 85 #[.pointer (some ⟨g, 0, none⟩), .bool b] W (WsPost sp P g W (.tuple #[]) (xs ++ [fB b])) := by
  obtain ⟨A, c, rfl⟩ := hw.form
  have hc0 := hw.1.1
  have hf0 := hw.1.2.2.2.2.1
  have hsz := hw.size
  have HW := Lib.hid hw
  clear hw
  generalize hL : xs.length = L at *
  have HL := Lib.hid hL
  clear hL
  cases b
  all_goals
    simp only [fB, if_true, Bool.false_eq_true, if_false]
    have HX : Hid (L ≤ 140000000000000) := Lib.hid hx
    have HOKA : ∀ k : Nat, Hid (Ok W (W.alloc (.cells #[.int .u8 (k : Int)] 5))) := fun k => Lib.hid ((Ok.refl W).alloc _)
    have HOW : ∀ k : Nat, Hid (OwnN (W.alloc (.cells #[.int .u8 (k : Int)] 5)) (g + 1) (.slice A L c) xs) := fun k => Lib.hid (World.ownsRow.alloc HW.out.1.2.1 _)
    have HCG : ∀ k : Nat, Hid ((W.alloc (.cells #[.int .u8 (k : Int)] 5)).cell? ⟨g, 0, none⟩ = some (.slice A L c)) := fun k => Lib.hid ((HOKA k).out.cell HW.out.1.1)
    have HFG : ∀ k : Nat, Hid ((W.alloc (.cells #[.int .u8 (k : Int)] 5)).frozen? ⟨g, 0, none⟩ = false) := fun k => Lib.hid (by rw [Below.frozen (HOKA k).out (p := ⟨g, 0, none⟩) hsz]; exact HW.out.1.2.2.2.2.1)
  · have HNEW : Hid (BytesIn (W.alloc (.cells #[.int .u8 0] 5)) (.slice (some ⟨W.heap.size, 0, none⟩) 1 1) [0#8]) := Lib.hid (bytes_new W _ _ 5 _ _ _ 1 rfl rfl (by decide) (by simp) rfl)
    have HOKA0 := HOKA 0
    have HOW0 := HOW 0
    have HCG0 := HCG 0
    have HFG0 := HFG 0
    clear HOKA HOW HCG HFG
    go_enter Try.func85, Try.ntmps85
    go_wp2_with (at_builtin; go_must (refine wpList_app rfl (.tmp 18) (.tmp 19) rfl (g + 1) (.slice A L c) xs [0#8] (.slice (some ⟨W.heap.size, 0, none⟩) 1 1) rfl rfl HOW0.out HNEW.out (by have := HX.out; have := HL.out; simp only [List.length_singleton]; omega) (by rw [World.size_alloc]; omega) ?_; intro A' c' w2 hown2 hbel2; have HOWN2 := Lib.hid hown2; have HBEL2 := Lib.hid hbel2; clear hown2 hbel2; rw [HL.out]; have hcg : w2.cell? ⟨g, 0, none⟩ = some (.slice A L c) := (by rw [HBEL2.out.cell (p := ⟨g, 0, none⟩) (Nat.lt_succ_self g)]; exact HCG0.out); have hfg : w2.frozen? ⟨g, 0, none⟩ = false := (by rw [HBEL2.out.frozen (p := ⟨g, 0, none⟩) (Nat.lt_succ_self g)]; exact HFG0.out)))
    have HG : Hid (Ws sp P g (w2.setCell ⟨g, 0, none⟩ (.slice A' (L + 1) c')) (.slice A' (L + 1) c') (xs ++ [0#8]) ∧ Below g W (w2.setCell ⟨g, 0, none⟩ (.slice A' (L + 1) c'))) := Lib.hid (by
      have h3 := HOWN2.out
      rw [HL.out] at h3
      have hbb : Below (g + 1) W w2 := (Below.mono HOKA0.out (show g + 1 ≤ W.heap.size from hsz)).trans HBEL2.out
      exact (fun q => ⟨q.1, q.2.1⟩) (HW.out.grow hbb h3 (fun b hb => (hP b hb).elim)))
    go_end0
    refine ⟨rfl, ⟨A', c', ?_⟩, HG.out.2, fun b hb => (hP b hb).elim⟩
    rw [List.length_append, HL.out]
    exact HG.out.1
  · have HNEW : Hid (BytesIn (W.alloc (.cells #[.int .u8 1] 5)) (.slice (some ⟨W.heap.size, 0, none⟩) 1 1) [1#8]) := Lib.hid (bytes_new W _ _ 5 _ _ _ 1 rfl rfl (by decide) (by simp) rfl)
    have HOKA0 := HOKA 1
    have HOW0 := HOW 1
    have HCG0 := HCG 1
    have HFG0 := HFG 1
    clear HOKA HOW HCG HFG
    go_enter Try.func85, Try.ntmps85
    go_wp2_with (at_builtin; go_must (refine wpList_app rfl (.tmp 9) (.tmp 10) rfl (g + 1) (.slice A L c) xs [1#8] (.slice (some ⟨W.heap.size, 0, none⟩) 1 1) rfl rfl HOW0.out HNEW.out (by have := HX.out; have := HL.out; simp only [List.length_singleton]; omega) (by rw [World.size_alloc]; omega) ?_; intro A' c' w2 hown2 hbel2; have HOWN2 := Lib.hid hown2; have HBEL2 := Lib.hid hbel2; clear hown2 hbel2; rw [HL.out]; have hcg : w2.cell? ⟨g, 0, none⟩ = some (.slice A L c) := (by rw [HBEL2.out.cell (p := ⟨g, 0, none⟩) (Nat.lt_succ_self g)]; exact HCG0.out); have hfg : w2.frozen? ⟨g, 0, none⟩ = false := (by rw [HBEL2.out.frozen (p := ⟨g, 0, none⟩) (Nat.lt_succ_self g)]; exact HFG0.out)))
    have HG : Hid (Ws sp P g (w2.setCell ⟨g, 0, none⟩ (.slice A' (L + 1) c')) (.slice A' (L + 1) c') (xs ++ [1#8]) ∧ Below g W (w2.setCell ⟨g, 0, none⟩ (.slice A' (L + 1) c'))) := Lib.hid (by
      have h3 := HOWN2.out
      rw [HL.out] at h3
      have hbb : Below (g + 1) W w2 := (Below.mono HOKA0.out (show g + 1 ≤ W.heap.size from hsz)).trans HBEL2.out
      exact (fun q => ⟨q.1, q.2.1⟩) (HW.out.grow hbb h3 (fun b hb => (hP b hb).elim)))
    go_end0
    refine ⟨rfl, ⟨A', c', ?_⟩, HG.out.2, fun b hb => (hP b hb).elim⟩
    rw [List.length_append, HL.out]
    exact HG.out.1


theorem flag_z (sp : Bool) (g : Nat) (xs : List B8) (b : Bool) (W : World) (hw : Wn sp g W xs) (hx : xs.length ≤ 140000000000000) :
    Calls Try.prog 85 #[.pointer (some ⟨g, 0, none⟩), .bool b] W (WnP sp g W (.tuple #[]) (xs ++ [fB b])) := by
  obtain ⟨A, c, h⟩ := hw
  exact (flag_s sp _ (fun _ h => h) g _ xs b W h hx).mono fun e w' k => WnP.of k
/-- Bytes that lie below a block. -/
def LowB (g : Nat) (V : Value) (ys : List B8) : Prop := ∀ A c, V = .slice (some A) ys.length c → 0 < ys.length → A.block < g
theorem row_z (sp : Bool) (g : Nat) (xs ys : List B8) (V : Value) (W : World) (hw : Wn sp g W xs) (hy : BytesIn W V ys) (hB : LowB g V ys) (hs : ys.length ≤ 1000000000) (hx : xs.length ≤ 140000000000000) :
    Calls Try.prog 87 #[.pointer (some ⟨g, 0, none⟩), V] W (WnP sp g W (.tuple #[]) (xs ++ encR ys)) := by
  obtain ⟨A, c, h⟩ := hw
  have h0 := row_s sp _ (fun _ h => h) g _ xs ys V W h hy hB hs hx
  rw [List.append_assoc] at h0
  exact h0.mono fun e w' k => WnP.of k

theorem BytesIn.low {w w' : World} {g : Nat} {V : Value} {ys : List B8} (h : BytesIn w V ys) (hl : LowB g V ys) (hb : Below g w w') : BytesIn w' V ys := by
  rcases h with t | ⟨b, o, cc, e, hn, hm, hc⟩
  · exact .inl t
  · refine .inr ⟨b, o, cc, e, hn, hm, fun i hi => ?_⟩
    rw [hb.cell (p := ⟨b, o + i, none⟩) (show b < g from hl ⟨b, o, none⟩ _ e (by omega))]
    exact hc i hi

set_option maxRecDepth 100000 in
set_option maxHeartbeats 2000000 in
theorem nums_z (sp : Bool) (g : Nat) (xs : List B8) (W : World) (hw : Wn sp g W xs) (l : List Int) (A0 : Option Addr) (n c : Nat) (hn : l.length = n) (hnm : n ≤ 1000000) (hxs : xs.length ≤ 100000000)
    (hcell : ∀ k, k < n → ∃ b o, A0 = some ⟨b, o, none⟩ ∧ b < g ∧ W.cell? ⟨b, o + k, none⟩ = some (.int .i64 (l.getD k 0))) :
    Calls Try.prog 14 #[.pointer (some ⟨g, 0, none⟩), .slice A0 n c] W (WnP (sp || (l).any badN) g W (.pointer (some ⟨g, 0, none⟩)) (xs ++ encsI l)) := by
  have HW := Lib.hid hw
  have HC := Lib.hid hcell
  have HN := Lib.hid hn
  clear hw hcell hn
  go_enter Try.func14, Try.ntmps14
  go_wp2_with fail
  refine (none_z sp g xs _ HW.out).mono ?_
  rintro e w1 ⟨rfl, rfl⟩
  go_wp2_with fail
  go_loopw [12] (fun i wr => ∃ k : Nat, k ≤ n ∧ i = .int .i64 k ∧ Wn (sp || ((l.take k)).any badN) g wr (xs ++ encsI (l.take k)) ∧ Below g W wr) (fun i _ => n - (intOf i).toNat)
  case atStart => exact ⟨0, Nat.zero_le _, rfl, by simpa [encsI, encsT, encsR] using HW.out, Below.refl _ _⟩
  case round =>
    obtain ⟨k, hk, rfl, hwr, hbe⟩ := hrel
    by_cases hlt : k < n
    · have HE := Lib.hid (encsI_take l k (by rw [HN.out]; exact hlt))
      have HL : Hid ((encsI (l.take k)).length ≤ 1000000000) := Lib.hid (by have := encsI_len (l.take k); rw [List.length_take] at this; omega)
      have HWR := Lib.hid hwr
      have HBE := Lib.hid hbe
      clear hwr hbe
      have HBD := Lib.hid (bad_take l k (by rw [HN.out]; exact hlt))
      obtain ⟨b, o, rfl, hbg, hc0⟩ := HC.out k hlt
      have hc' : wr.cell? ⟨b, o + k, none⟩ = some (.int .i64 (l.getD k 0)) := by rw [HBE.out.cell (p := ⟨b, o + k, none⟩) hbg]; exact hc0
      clear hc0
      generalize l.getD k 0 = m at *
      go_wp2_with fail
      refine (number_z _ g (xs ++ encsI (l.take k)) m _ HWR.out (by have := HL.out; rw [List.length_append]; omega)).mono ?_
      rintro e w2 ⟨rfl, hwx, hb2⟩
      have HWX := Lib.hid hwx
      have HB2 := Lib.hid hb2
      clear hwx hb2
      go_wp2_with fail
      go_roundw
      case rel => exact ⟨k + 1, by omega, by go_num, by rw [HE.out, HBD.out, ← List.append_assoc, ← Bool.or_assoc]; exact HWX.out, HBE.out.trans HB2.out⟩
      case measure => simp [intOf]; omega
    · have hke : k = n := by omega
      subst hke
      have HWR : Hid (Wn (sp || (l).any badN) g wr (xs ++ encsI l)) := Lib.hid (by
        rwa [List.take_of_length_le (by rw [HN.out]; exact Nat.le_refl _)] at hwr)
      have HBE := Lib.hid hbe
      clear hwr hbe
      go_wp2_with fail
      go_ret
      exact ⟨rfl, HWR.out, HBE.out⟩

set_option maxRecDepth 100000 in
set_option maxHeartbeats 2000000 in
theorem flags_z (sp : Bool) (g : Nat) (xs : List B8) (W : World) (hw : Wn sp g W xs) (l : List Bool) (A0 : Option Addr) (n c : Nat) (hn : l.length = n) (hnm : n ≤ 1000000) (hxs : xs.length ≤ 100000000)
    (hcell : ∀ k, k < n → ∃ b o, A0 = some ⟨b, o, none⟩ ∧ b < g ∧ W.cell? ⟨b, o + k, none⟩ = some (.bool (l.getD k false))) :
    Calls Try.prog 15 #[.pointer (some ⟨g, 0, none⟩), .slice A0 n c] W (WnP (sp) g W (.pointer (some ⟨g, 0, none⟩)) (xs ++ (l).map fB)) := by
  have HW := Lib.hid hw
  have HC := Lib.hid hcell
  have HN := Lib.hid hn
  clear hw hcell hn
  go_enter Try.func15, Try.ntmps15
  go_wp2_with fail
  refine (none_z sp g xs _ HW.out).mono ?_
  rintro e w1 ⟨rfl, rfl⟩
  go_wp2_with fail
  go_loopw [12] (fun i wr => ∃ k : Nat, k ≤ n ∧ i = .int .i64 k ∧ Wn (sp) g wr (xs ++ ((l.take k)).map fB) ∧ Below g W wr) (fun i _ => n - (intOf i).toNat)
  case atStart => exact ⟨0, Nat.zero_le _, rfl, by simpa [encsI, encsT, encsR] using HW.out, Below.refl _ _⟩
  case round =>
    obtain ⟨k, hk, rfl, hwr, hbe⟩ := hrel
    by_cases hlt : k < n
    · have HE := Lib.hid (fB_take l k (by rw [HN.out]; exact hlt))
      have HL : Hid ((((l.take k)).map fB).length ≤ 1000000000) := Lib.hid (by rw [List.length_map, List.length_take]; omega)
      have HWR := Lib.hid hwr
      have HBE := Lib.hid hbe
      clear hwr hbe
      obtain ⟨b, o, rfl, hbg, hc0⟩ := HC.out k hlt
      have hc' : wr.cell? ⟨b, o + k, none⟩ = some (.bool (l.getD k false)) := by rw [HBE.out.cell (p := ⟨b, o + k, none⟩) hbg]; exact hc0
      clear hc0
      generalize l.getD k false = m at *
      go_wp2_with fail
      refine (flag_z _ g (xs ++ (l.take k).map fB) m _ HWR.out (by have := HL.out; rw [List.length_append]; omega)).mono ?_
      rintro e w2 ⟨rfl, hwx, hb2⟩
      have HWX := Lib.hid hwx
      have HB2 := Lib.hid hb2
      clear hwx hb2
      go_wp2_with fail
      go_roundw
      case rel => exact ⟨k + 1, by omega, by go_num, by rw [HE.out, ← List.append_assoc]; exact HWX.out, HBE.out.trans HB2.out⟩
      case measure => simp [intOf]; omega
    · have hke : k = n := by omega
      subst hke
      have HWR : Hid (Wn (sp) g wr (xs ++ (l).map fB)) := Lib.hid (by
        rwa [List.take_of_length_le (by rw [HN.out]; exact Nat.le_refl _)] at hwr)
      have HBE := Lib.hid hbe
      clear hwr hbe
      go_wp2_with fail
      go_ret
      exact ⟨rfl, HWR.out, HBE.out⟩

set_option maxRecDepth 100000 in
set_option maxHeartbeats 2000000 in
theorem texts_z (sp : Bool) (g : Nat) (xs : List B8) (W : World) (hw : Wn sp g W xs) (l : List ByteArray) (A0 : Option Addr) (n c : Nat) (hn : l.length = n) (hnm : n ≤ 1000000) (hxs : xs.length ≤ 100000000) (hen : (encsT l).length ≤ 100000000) (hsz : ∀ k, k < n → (l.getD k ⟨#[]⟩).size ≤ 1000000000)
    (hcell : ∀ k, k < n → ∃ b o, A0 = some ⟨b, o, none⟩ ∧ b < g ∧ W.cell? ⟨b, o + k, none⟩ = some (.string (l.getD k ⟨#[]⟩))) :
    Calls Try.prog 16 #[.pointer (some ⟨g, 0, none⟩), .slice A0 n c] W (WnP (sp) g W (.pointer (some ⟨g, 0, none⟩)) (xs ++ encsT l)) := by
  have HW := Lib.hid hw
  have HC := Lib.hid hcell
  have HN := Lib.hid hn
  have HEN := Lib.hid hen
  have HSZ := Lib.hid hsz
  clear hen hsz
  clear hw hcell hn
  go_enter Try.func16, Try.ntmps16
  go_wp2_with fail
  refine (none_z sp g xs _ HW.out).mono ?_
  rintro e w1 ⟨rfl, rfl⟩
  go_wp2_with fail
  go_loopw [12] (fun i wr => ∃ k : Nat, k ≤ n ∧ i = .int .i64 k ∧ Wn (sp) g wr (xs ++ encsT (l.take k)) ∧ Below g W wr) (fun i _ => n - (intOf i).toNat)
  case atStart => exact ⟨0, Nat.zero_le _, rfl, by simpa [encsI, encsT, encsR] using HW.out, Below.refl _ _⟩
  case round =>
    obtain ⟨k, hk, rfl, hwr, hbe⟩ := hrel
    by_cases hlt : k < n
    · have HE := Lib.hid (encsT_take l k (by rw [HN.out]; exact hlt))
      have HL : Hid ((encsT (l.take k)).length ≤ 1000000000) := Lib.hid (by have h1 := encsT_le l k; have h2 := HEN.out; omega)
      have HWR := Lib.hid hwr
      have HBE := Lib.hid hbe
      clear hwr hbe
      obtain ⟨b, o, rfl, hbg, hc0⟩ := HC.out k hlt
      have hc' : wr.cell? ⟨b, o + k, none⟩ = some (.string (l.getD k ⟨#[]⟩)) := by rw [HBE.out.cell (p := ⟨b, o + k, none⟩) hbg]; exact hc0
      clear hc0
      have HM := Lib.hid (HSZ.out k hlt)
      generalize l.getD k ⟨#[]⟩ = m at *
      go_wp2_with fail
      refine (text_z _ g (xs ++ encsT (l.take k)) m _ HWR.out HM.out (by have := HL.out; rw [List.length_append]; omega)).mono ?_
      rintro e w2 ⟨rfl, hwx, hb2⟩
      have HWX := Lib.hid hwx
      have HB2 := Lib.hid hb2
      clear hwx hb2
      go_wp2_with fail
      go_roundw
      case rel => exact ⟨k + 1, by omega, by go_num, by rw [HE.out, ← List.append_assoc]; exact HWX.out, HBE.out.trans HB2.out⟩
      case measure => simp [intOf]; omega
    · have hke : k = n := by omega
      subst hke
      have HWR : Hid (Wn (sp) g wr (xs ++ encsT l)) := Lib.hid (by
        rwa [List.take_of_length_le (by rw [HN.out]; exact Nat.le_refl _)] at hwr)
      have HBE := Lib.hid hbe
      clear hwr hbe
      go_wp2_with fail
      go_ret
      exact ⟨rfl, HWR.out, HBE.out⟩

set_option maxRecDepth 100000 in
set_option maxHeartbeats 2000000 in
theorem rows_z (sp : Bool) (g : Nat) (xs : List B8) (W : World) (hw : Wn sp g W xs) (l : List (List B8)) (A0 : Option Addr) (n c : Nat) (hn : l.length = n) (hnm : n ≤ 1000000) (hxs : xs.length ≤ 100000000) (hen : (encsR l).length ≤ 100000000) (hsz : ∀ k, k < n → (l.getD k []).length ≤ 1000000000)
    (hcell : ∀ k, k < n → ∃ b o V, A0 = some ⟨b, o, none⟩ ∧ b < g ∧ W.cell? ⟨b, o + k, none⟩ = some V ∧ BytesIn W V (l.getD k []) ∧ LowB g V (l.getD k [])) :
    Calls Try.prog 17 #[.pointer (some ⟨g, 0, none⟩), .slice A0 n c] W (WnP (sp) g W (.pointer (some ⟨g, 0, none⟩)) (xs ++ encsR l)) := by
  have HW := Lib.hid hw
  have HC := Lib.hid hcell
  have HN := Lib.hid hn
  have HEN := Lib.hid hen
  have HSZ := Lib.hid hsz
  clear hen hsz
  clear hw hcell hn
  go_enter Try.func17, Try.ntmps17
  go_wp2_with fail
  refine (none_z sp g xs _ HW.out).mono ?_
  rintro e w1 ⟨rfl, rfl⟩
  go_wp2_with fail
  go_loopw [12] (fun i wr => ∃ k : Nat, k ≤ n ∧ i = .int .i64 k ∧ Wn (sp) g wr (xs ++ encsR (l.take k)) ∧ Below g W wr) (fun i _ => n - (intOf i).toNat)
  case atStart => exact ⟨0, Nat.zero_le _, rfl, by simpa [encsI, encsT, encsR] using HW.out, Below.refl _ _⟩
  case round =>
    obtain ⟨k, hk, rfl, hwr, hbe⟩ := hrel
    by_cases hlt : k < n
    · have HE := Lib.hid (encsR_take l k (by rw [HN.out]; exact hlt))
      have HL : Hid ((encsR (l.take k)).length ≤ 1000000000) := Lib.hid (by have h1 := encsR_le l k; have h2 := HEN.out; omega)
      have HWR := Lib.hid hwr
      have HBE := Lib.hid hbe
      clear hwr hbe
      obtain ⟨b, o, V, rfl, hbg, hc0, hby, hlw⟩ := HC.out k hlt
      have hc' : wr.cell? ⟨b, o + k, none⟩ = some V := by rw [HBE.out.cell (p := ⟨b, o + k, none⟩) hbg]; exact hc0
      clear hc0
      have HBY := Lib.hid (hby.low hlw HBE.out)
      have HLW := Lib.hid hlw
      have HM := Lib.hid (HSZ.out k hlt)
      obtain ⟨AV, cV, rfl, _⟩ := hby.form
      clear hby hlw
      generalize l.getD k [] = m at *
      go_wp2_with fail
      refine (row_z _ g (xs ++ encsR (l.take k)) m _ _ HWR.out HBY.out HLW.out HM.out (by have := HL.out; rw [List.length_append]; omega)).mono ?_
      rintro e w2 ⟨rfl, hwx, hb2⟩
      have HWX := Lib.hid hwx
      have HB2 := Lib.hid hb2
      clear hwx hb2
      go_wp2_with fail
      go_roundw
      case rel => exact ⟨k + 1, by omega, by go_num, by rw [HE.out, ← List.append_assoc]; exact HWX.out, HBE.out.trans HB2.out⟩
      case measure => simp [intOf]; omega
    · have hke : k = n := by omega
      subst hke
      have HWR : Hid (Wn (sp) g wr (xs ++ encsR l)) := Lib.hid (by
        rwa [List.take_of_length_le (by rw [HN.out]; exact Nat.le_refl _)] at hwr)
      have HBE := Lib.hid hbe
      clear hwr hbe
      go_wp2_with fail
      go_ret
      exact ⟨rfl, HWR.out, HBE.out⟩
end Go.Proofs.Ytolfdncmlfnbdaa
