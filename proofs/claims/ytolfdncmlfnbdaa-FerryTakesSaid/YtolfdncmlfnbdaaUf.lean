/- Configurations kept, and written over; how a change begins, and goes on, as the document tells it. -/
import Derived.Test.YtolfdncmlfnbdaaUe
import Derived.Deep.RegionHeld3
import Derived.Outline
namespace Go.Proofs.Ytolfdncmlfnbdaa
open Go.RowKit

theorem sameC_refl (c : Cfg) : sameC c c = true := by
  unfold sameC; rw [sameB_refl, sameB_refl, sameB_refl, sameB_refl]; rfl

set_option maxRecDepth 100000 in
set_option maxHeartbeats 8000000 in
theorem keptConfig_w (v v2 : Value) (c : Cfg) (B : Nat) (W : World) (h : LentC W B v c) (h2 : CfgIn W v2 c) :
    Calls Try.prog 59 #[v, v2] W fun e w' => e = .returned (.bool true) ∧ Ok W w' := by
  have HS := Lib.hid h.cfg
  have HT := Lib.hid h2
  obtain ⟨a, b, d, f, rfl, h1, h2', h3, h4⟩ := h
  obtain ⟨E0, k0, rfl⟩ := h1.form
  obtain ⟨E1, k1, rfl⟩ := h2'.form
  obtain ⟨E2, k2, rfl⟩ := h3.form
  obtain ⟨E3, k3, rfl⟩ := h4.form
  obtain ⟨A0, c0, A1, c1, A2, c2, A3, c3, rfl, i1, i2, i3, i4⟩ := h2.forms
  have L1 := Lib.hid h1
  have L2 := Lib.hid h2'
  have L3 := Lib.hid h3
  have L4 := Lib.hid h4
  have I1 := Lib.hid i1
  have I2 := Lib.hid i2
  have I3 := Lib.hid i3
  have I4 := Lib.hid i4
  clear h1 h2' h3 h4 h2 i1 i2 i3 i4
  have HX0 := Lib.hid (At.one W (.cells #[.slice A0 c.vs.length c0, .slice A1 c.os.length c1, .slice A2 c.ls.length c2, .slice A3 c.ws.length c3] 71) (.slice E0 c.vs.length k0) (.slice E1 c.os.length k1) (.slice E2 c.ls.length k2) (.slice E3 c.ws.length k3) 71)
  have HY0 := Lib.hid (At.two W #[.slice E0 c.vs.length k0, .slice E1 c.os.length k1, .slice E2 c.ls.length k2, .slice E3 c.ws.length k3] (.slice A0 c.vs.length c0) (.slice A1 c.os.length c1) (.slice A2 c.ls.length c2) (.slice A3 c.ws.length c3) 71 71)
  have HOK0 : Hid (Ok W ((W.alloc (.cells #[.slice E0 c.vs.length k0, .slice E1 c.os.length k1, .slice E2 c.ls.length k2, .slice E3 c.ws.length k3] 71)).alloc (.cells #[.slice A0 c.vs.length c0, .slice A1 c.os.length c1, .slice A2 c.ls.length c2, .slice A3 c.ws.length c3] 71))) := Lib.hid (((Ok.refl W).alloc _).alloc _)
  generalize c.vs.length = n0 at *
  generalize c.os.length = n1 at *
  generalize c.ls.length = n2 at *
  generalize c.ws.length = n3 at *
  go_enter Try.func59, Try.ntmps59
  obtain ⟨hc0, hc1, hc2, hc3⟩ := HX0.out
  obtain ⟨hd0, hd1, hd2, hd3⟩ := HY0.out
  go_wp2_with fail
  clear hc0 hc1 hc2 hc3 hd0 hd1 hd2 hd3
  generalize ((W.alloc (.cells #[.slice E0 n0 k0, .slice E1 n1 k1, .slice E2 n2 k2, .slice E3 n3 k3] 71)).alloc (.cells #[.slice A0 n0 c0, .slice A1 n1 c1, .slice A2 n2 c2, .slice A3 n3 c3] 71)) = W1 at *
  refine (sameConfig_q _ _ c c W1 (HOK0.out.cfg HS.out) (HOK0.out.cfg HT.out)).mono ?_
  rintro e w1 ⟨rfl, hok⟩
  rw [sameC_refl]
  have HK1 : Hid (Ok W1 w1) := Lib.hid hok
  clear hok
  obtain ⟨hc0, hc1, hc2, hc3⟩ := HX0.out.ok HK1.out
  obtain ⟨hd0, hd1, hd2, hd3⟩ := HY0.out.ok HK1.out
  go_wp2_with fail
  clear hc0 hc1 hc2 hc3 hd0 hd1 hd2 hd3
  refine (keptInts_w _ _ c.vs w1 B (L1.out.ok (HOK0.out.trans HK1.out)) ((HOK0.out.trans HK1.out).ints I1.out)).mono ?_
  rintro e w2 ⟨rfl, hok⟩
  have HK2 : Hid (Ok W1 w2) := Lib.hid (HK1.out.trans hok)
  clear hok
  obtain ⟨hc0, hc1, hc2, hc3⟩ := HX0.out.ok HK2.out
  obtain ⟨hd0, hd1, hd2, hd3⟩ := HY0.out.ok HK2.out
  go_wp2_with fail
  clear hc0 hc1 hc2 hc3 hd0 hd1 hd2 hd3
  refine (keptInts_w _ _ c.os w2 B (L2.out.ok (HOK0.out.trans HK2.out)) ((HOK0.out.trans HK2.out).ints I2.out)).mono ?_
  rintro e w3 ⟨rfl, hok⟩
  have HK3 : Hid (Ok W1 w3) := Lib.hid (HK2.out.trans hok)
  clear hok
  obtain ⟨hc0, hc1, hc2, hc3⟩ := HX0.out.ok HK3.out
  obtain ⟨hd0, hd1, hd2, hd3⟩ := HY0.out.ok HK3.out
  go_wp2_with fail
  clear hc0 hc1 hc2 hc3 hd0 hd1 hd2 hd3
  refine (keptInts_w _ _ c.ls w3 B (L3.out.ok (HOK0.out.trans HK3.out)) ((HOK0.out.trans HK3.out).ints I3.out)).mono ?_
  rintro e w4 ⟨rfl, hok⟩
  have HK4 : Hid (Ok W1 w4) := Lib.hid (HK3.out.trans hok)
  clear hok
  obtain ⟨hc0, hc1, hc2, hc3⟩ := HX0.out.ok HK4.out
  obtain ⟨hd0, hd1, hd2, hd3⟩ := HY0.out.ok HK4.out
  go_wp2_with fail
  clear hc0 hc1 hc2 hc3 hd0 hd1 hd2 hd3
  refine (keptInts_w _ _ c.ws w4 B (L4.out.ok (HOK0.out.trans HK4.out)) ((HOK0.out.trans HK4.out).ints I4.out)).mono ?_
  rintro e w5 ⟨rfl, hok⟩
  have HK5 : Hid (Ok W1 w5) := Lib.hid (HK4.out.trans hok)
  clear hok
  go_wp2_with fail
  go_ret
  exact ⟨rfl, HOK0.out.trans HK5.out⟩

/-- A block of cells that may be written: as many, none frozen. -/
def RowB (w : World) (g c : Nat) : Prop := (∀ j, j < c → ∃ x, w.cell? ⟨g, j, none⟩ = some x) ∧ ∀ j, j < c → w.frozen? ⟨g, j, none⟩ = false
theorem RowB.set {w : World} {g c : Nat} (h : RowB w g c) (p : Addr) (x : Value) : RowB (w.setCell p x) g c :=
  ⟨fun j hj => by obtain ⟨y, hy⟩ := h.1 j hj; exact cell_stays hy, fun j hj => by rw [World.frozen?_setCell]; exact h.2 j hj⟩
theorem RowB.ok {w w' : World} {g c : Nat} (h : RowB w g c) (k : Ok w w') : RowB w' g c :=
  ⟨fun j hj => by obtain ⟨y, hy⟩ := h.1 j hj; exact ⟨y, k.cell hy⟩, fun j hj => by
    obtain ⟨y, hy⟩ := h.1 j hj
    rw [Below.frozen k (p := ⟨g, j, none⟩) (World.block_lt_of_cell? _ _ hy)]; exact h.2 j hj⟩
/-- All rows that could be written still can. -/
def Stay (w w' : World) : Prop := ∀ g c, RowB w g c → RowB w' g c
/-- What lies from block L on is as it was. -/
def Far (L : Nat) (w w' : World) : Prop := ∀ b o v, L ≤ b → w.cell? ⟨b, o, none⟩ = some v → w'.cell? ⟨b, o, none⟩ = some v
theorem Far.at {L : Nat} {w w' : World} (h : Far L w w') {g : Nat} {v0 v1 v2 v3 : Value} (k : At w g v0 v1 v2 v3) (hg : L ≤ g) : At w' g v0 v1 v2 v3 := ⟨h _ _ _ hg k.1, h _ _ _ hg k.2.1, h _ _ _ hg k.2.2.1, h _ _ _ hg k.2.2.2⟩
/-- A row that may be written over, from block B on, below block L. -/
def RowV (w : World) (B L : Nat) (v : Value) : Prop := v = .slice none 0 0 ∨ ∃ g n c, v = .slice (some ⟨g, 0, none⟩) n c ∧ B ≤ g ∧ g < L ∧ n ≤ c ∧ n ≤ 100000 ∧ c ≤ 9223372036854775807 ∧ RowB w g c
theorem RowV.stay {w w' : World} {B L : Nat} {v : Value} (h : RowV w B L v) (k : Stay w w') : RowV w' B L v := by
  rcases h with rfl | ⟨g, n, c, rfl, h0, h1, h2, h3, h5, h4⟩
  · exact .inl rfl
  · exact .inr ⟨g, n, c, rfl, h0, h1, h2, h3, h5, k _ _ h4⟩
theorem OwnL.row {w : World} {B : Nat} {v : Value} {xs : List Int} (h : OwnL w B v xs) : RowV w B w.heap.size v := by
  have hl := h.2
  rcases h.1.2 with ⟨rfl, _⟩ | ⟨g, cap, cur, rfl, hB, hg, h1, h2, h3, h4⟩
  · exact .inl rfl
  · refine .inr ⟨g, _, cap, rfl, hB, (Array.getElem?_eq_some_iff.1 hg).1, h1, by omega, by unfold maxLen at h2; omega, fun j hj => ?_, fun j _ => ?_⟩
    · rw [cell_of_row _ _ _ _ _ _ hg]; exact ⟨cur[j]'(by omega), by simp⟩
    · rw [World.frozen?, hg]; simp
def OverP (B L : Nat) (w : World) (e : Ending) (w' : World) : Prop := e = .returned (.tuple #[]) ∧ Below B w w' ∧ Stay w w' ∧ Far L w w'

set_option maxRecDepth 100000 in
set_option maxHeartbeats 8000000 in
theorem overInts_w (v : Value) (B L : Nat) (w : World) (h : RowV w B L v) : Calls Try.prog 120 #[v] w (OverP B L w) := by
  rcases h with rfl | ⟨g, n, c, rfl, hB, hgL, hnc, hn, hcm, hR⟩
  · go_enter Try.func120, Try.ntmps120
    go_wp2_with fail
    go_loopw [3] (fun i wr => i = .int .i64 0 ∧ wr = w) (fun _ _ => 0)
    case atStart => exact ⟨rfl, rfl⟩
    case round =>
      obtain ⟨rfl, rfl⟩ := hrel
      go_wp2_with fail
      go_end0
      exact ⟨rfl, Below.refl _ _, fun _ _ h => h, fun _ _ _ _ h => h⟩
  · have HR := Lib.hid hR
    clear hR
    have s1 : wrap64 ((n : Int) + 12) = (n : Int) + 12 := by simp only [wrap64]; omega
    by_cases hcn : (n : Int) + 12 < (c : Int)
    · obtain ⟨k, hk⟩ : ∃ k : Nat, (n : Int) + 12 = (k : Int) := ⟨n + 12, by omega⟩
      rw [hk] at hcn s1
      have d1 : decide ((k : Int) < (c : Int)) = true := decide_eq_true hcn
      have d2 : decide (k < c) = true := decide_eq_true (by omega)
      have hk0 : (0 : Int) ≤ (k : Int) := Int.natCast_nonneg _
      have hki : (k : Int) ≤ (c : Int) := by omega
      go_enter Try.func120, Try.ntmps120
      go_wp2_with fail
      go_loopw [3] (fun i wr => ∃ j : Nat, j ≤ k ∧ i = .int .i64 j ∧ Below B w wr ∧ Stay w wr ∧ Far L w wr) (fun i _ => k - (intOf i).toNat)
      case atStart => exact ⟨0, Nat.zero_le _, rfl, Below.refl _ _, fun _ _ h => h, fun _ _ _ _ h => h⟩
      case round =>
        obtain ⟨j, hj, rfl, hbel, hst, hfar⟩ := hrel
        have HBL := Lib.hid hbel
        have HST := Lib.hid hst
        have HFR := Lib.hid hfar
        clear hbel hst hfar
        by_cases hlt : j < k
        · obtain ⟨hcs, hfs⟩ := HST.out _ _ HR.out
          obtain ⟨x, hx⟩ := hcs j (by omega)
          have hf := hfs j (by omega)
          clear hcs hfs
          have hj0 : (0 : Int) ≤ (j : Int) := Int.natCast_nonneg _
          have hj1 : (j : Int) < (k : Int) := by omega
          have hmk := fun w' => mark_w 2 j (by omega) (by omega) w'
          have HFIN : Hid (∀ y, Below B w (wr.setCell ⟨g, j, none⟩ y) ∧ Stay w (wr.setCell ⟨g, j, none⟩ y) ∧ Far L w (wr.setCell ⟨g, j, none⟩ y)) := Lib.hid fun y =>
            ⟨Below.setCell HBL.out hB _, fun _ _ h => (HST.out _ _ h).set _ _, fun b o v hb h => cell_set (by omega) (HFR.out b o v hb h)⟩
          go_wp2_with fail
          refine (hmk _).mono ?_
          rintro e w2 ⟨rfl, rfl⟩
          go_wp2_with fail
          go_roundw
          case rel => exact ⟨j + 1, by omega, by go_num, (HFIN.out _).1, (HFIN.out _).2.1, (HFIN.out _).2.2⟩
          case measure => simp [intOf]; omega
        · have hje : j = k := by omega
          subst hje
          go_wp2_with fail
          go_end0
          exact ⟨rfl, HBL.out, HST.out, HFR.out⟩
    · have d1 : decide ((n : Int) + 12 < (c : Int)) = false := decide_eq_false hcn
      have hc0 : (0 : Int) ≤ (c : Int) := Int.natCast_nonneg _
      go_enter Try.func120, Try.ntmps120
      go_wp2_with fail
      go_loopw [3] (fun i wr => ∃ j : Nat, j ≤ c ∧ i = .int .i64 j ∧ Below B w wr ∧ Stay w wr ∧ Far L w wr) (fun i _ => c - (intOf i).toNat)
      case atStart => exact ⟨0, Nat.zero_le _, rfl, Below.refl _ _, fun _ _ h => h, fun _ _ _ _ h => h⟩
      case round =>
        obtain ⟨j, hj, rfl, hbel, hst, hfar⟩ := hrel
        have HBL := Lib.hid hbel
        have HST := Lib.hid hst
        have HFR := Lib.hid hfar
        clear hbel hst hfar
        by_cases hlt : j < c
        · obtain ⟨hcs, hfs⟩ := HST.out _ _ HR.out
          obtain ⟨x, hx⟩ := hcs j (by omega)
          have hf := hfs j (by omega)
          clear hcs hfs
          have hj0 : (0 : Int) ≤ (j : Int) := Int.natCast_nonneg _
          have hj1 : (j : Int) < (c : Int) := by omega
          have hmk := fun w' => mark_w 2 j (by omega) (by omega) w'
          have HFIN : Hid (∀ y, Below B w (wr.setCell ⟨g, j, none⟩ y) ∧ Stay w (wr.setCell ⟨g, j, none⟩ y) ∧ Far L w (wr.setCell ⟨g, j, none⟩ y)) := Lib.hid fun y =>
            ⟨Below.setCell HBL.out hB _, fun _ _ h => (HST.out _ _ h).set _ _, fun b o v hb h => cell_set (by omega) (HFR.out b o v hb h)⟩
          go_wp2_with fail
          refine (hmk _).mono ?_
          rintro e w2 ⟨rfl, rfl⟩
          go_wp2_with fail
          go_roundw
          case rel => exact ⟨j + 1, by omega, by go_num, (HFIN.out _).1, (HFIN.out _).2.1, (HFIN.out _).2.2⟩
          case measure => simp [intOf]; omega
        · have hje : j = c := by omega
          subst hje
          go_wp2_with fail
          go_end0
          exact ⟨rfl, HBL.out, HST.out, HFR.out⟩

def OverCP (B L : Nat) (w : World) (e : Ending) (w' : World) : Prop := e = .returned (.tuple #[]) ∧ Below B w w' ∧ Stay w w' ∧ Far L w w'
set_option maxRecDepth 100000 in
set_option maxHeartbeats 8000000 in
theorem overConfig_w (B L : Nat) (E0 E1 E2 E3 : Option Addr) (n0 k0 n1 k1 n2 k2 n3 k3 : Nat) (W : World) (h1 : RowV W B L (.slice E0 n0 k0)) (h2 : RowV W B L (.slice E1 n1 k1)) (h3 : RowV W B L (.slice E2 n2 k2)) (h4 : RowV W B L (.slice E3 n3 k3)) (hB : B ≤ W.heap.size) (hL : L ≤ W.heap.size) :
    Calls Try.prog 58 #[.agg #[.slice E0 n0 k0, .slice E1 n1 k1, .slice E2 n2 k2, .slice E3 n3 k3]] W (OverCP B L W) := by
  have R1 := Lib.hid h1
  have R2 := Lib.hid h2
  have R3 := Lib.hid h3
  have R4 := Lib.hid h4
  clear h1 h2 h3 h4
  have HX0 := Lib.hid (At.new W (.slice E0 n0 k0) (.slice E1 n1 k1) (.slice E2 n2 k2) (.slice E3 n3 k3) 71)
  have HOK0 : Hid (Ok W (W.alloc (.cells #[.slice E0 n0 k0, .slice E1 n1 k1, .slice E2 n2 k2, .slice E3 n3 k3] 71))) := Lib.hid ((Ok.refl W).alloc _)
  have HFIN : Hid (∀ e w', e = .returned (.tuple #[]) → Below B (W.alloc (.cells #[.slice E0 n0 k0, .slice E1 n1 k1, .slice E2 n2 k2, .slice E3 n3 k3] 71)) w' → Stay W w' → Far L (W.alloc (.cells #[.slice E0 n0 k0, .slice E1 n1 k1, .slice E2 n2 k2, .slice E3 n3 k3] 71)) w' → OverCP B L W e w') := Lib.hid fun e w' he hb hs hf =>
    ⟨he, Below.trans ((Below.refl B W).alloc hB _) hb, hs, fun b o v hb' h => hf b o v hb' (HOK0.out.cell h)⟩
  have HS0 : Hid (Stay W (W.alloc (.cells #[.slice E0 n0 k0, .slice E1 n1 k1, .slice E2 n2 k2, .slice E3 n3 k3] 71))) := Lib.hid fun g c h => h.ok HOK0.out
  go_enter Try.func58, Try.ntmps58
  obtain ⟨hc0, hc1, hc2, hc3⟩ := HX0.out
  go_wp2_with fail
  clear hc0 hc1 hc2 hc3
  generalize (W.alloc (.cells #[.slice E0 n0 k0, .slice E1 n1 k1, .slice E2 n2 k2, .slice E3 n3 k3] 71)) = W1 at *
  refine (overInts_w _ B L W1 (R1.out.stay HS0.out)).mono ?_
  rintro e w1 ⟨rfl, hb1, hs1, hf1⟩
  have HB1 := Lib.hid hb1
  have HS1 : Hid (Stay W w1) := Lib.hid fun g c h => hs1 g c (HS0.out g c h)
  have HF1 := Lib.hid hf1
  obtain ⟨hc0, hc1, hc2, hc3⟩ := hf1.at HX0.out hL
  clear hb1 hs1 hf1
  go_wp2_with fail
  clear hc0 hc1 hc2 hc3
  refine (overInts_w _ B L w1 (R2.out.stay HS1.out)).mono ?_
  rintro e w2 ⟨rfl, hb1, hs1, hf1⟩
  have HB2 : Hid (Below B W1 w2) := Lib.hid (Below.trans HB1.out hb1)
  have HS2 : Hid (Stay W w2) := Lib.hid fun g c h => hs1 g c (HS1.out g c h)
  have HF2 : Hid (Far L W1 w2) := Lib.hid fun b o v hb h => hf1 b o v hb (HF1.out b o v hb h)
  obtain ⟨hc0, hc1, hc2, hc3⟩ := HF2.out.at HX0.out hL
  clear hb1 hs1 hf1
  go_wp2_with fail
  clear hc0 hc1 hc2 hc3
  refine (overInts_w _ B L w2 (R3.out.stay HS2.out)).mono ?_
  rintro e w3 ⟨rfl, hb1, hs1, hf1⟩
  have HB3 : Hid (Below B W1 w3) := Lib.hid (Below.trans HB2.out hb1)
  have HS3 : Hid (Stay W w3) := Lib.hid fun g c h => hs1 g c (HS2.out g c h)
  have HF3 : Hid (Far L W1 w3) := Lib.hid fun b o v hb h => hf1 b o v hb (HF2.out b o v hb h)
  obtain ⟨hc0, hc1, hc2, hc3⟩ := HF3.out.at HX0.out hL
  clear hb1 hs1 hf1
  go_wp2_with fail
  clear hc0 hc1 hc2 hc3
  refine (overInts_w _ B L w3 (R4.out.stay HS3.out)).mono ?_
  rintro e w4 ⟨rfl, hb1, hs1, hf1⟩
  have HB4 : Hid (Below B W1 w4) := Lib.hid (Below.trans HB3.out hb1)
  have HS4 : Hid (Stay W w4) := Lib.hid fun g c h => hs1 g c (HS3.out g c h)
  have HF4 : Hid (Far L W1 w4) := Lib.hid fun b o v hb h => hf1 b o v hb (HF3.out b o v hb h)
  clear hb1 hs1 hf1
  go_wp2_with fail
  go_end0
  exact HFIN.out _ _ rfl HB4.out HS4.out HF4.out
end Go.Proofs.Ytolfdncmlfnbdaa
