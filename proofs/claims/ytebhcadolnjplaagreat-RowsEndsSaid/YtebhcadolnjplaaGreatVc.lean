/- The document's own rows: Take. -/
import Derived.Test.YtebhcadolnjplaaGreatVb
namespace Go.Proofs.YtebhcadolnjplaaGreat
open Go.RowKit

theorem k2_set {m : Nat} {W w : World} (h : Ok W w) (v : Value) : K2 m none W (w.setCell ⟨m, 0, none⟩ v) :=
  ⟨h.os, h.tape, h.output, by rw [World.size_setCell]; exact h.size, fun k hk hne _ => by rw [Below.heap_setCell _ _ _ _ (show k ≠ m from hne)]; exact h.block k hk⟩
/-- What Take tells, and leaves. -/
def TakeDP (s : Sp) (m : Nat) (l : List Rw) (W : World) (e : Ending) (w' : World) : Prop :=
  ∃ A2 n2 c2 A3 n3 c3, e = .returned (.slice A2 n2 c2) ∧ OwnR w' W.heap.size A2 n2 c2 (meant s l) ∧ RfA m A3 n3 c3 (stay s l) w' ∧ OwnR w' W.heap.size A3 n3 c3 (stay s l) ∧ K2 m none W w'
set_option maxRecDepth 100000 in
set_option maxHeartbeats 4000000 in
theorem rtake_f (m : Nat) (A : Option Addr) (n c : Nat) (l : List Rw) (s : Sp) (W : World) (h : RfA m A n c l W) (hn : n ≤ 1000) : Calls Tryz.prog 28 #[.pointer (some ⟨m, 0, none⟩), spV s] W (TakeDP s m l W) := by
  have HA := Lib.hid h
  have hnb := hn
  clear h
  have HZ0 : Hid ((W.alloc (.cells #[.string s.lo, .string s.hi] 36)).heap[W.heap.size]? = some (.cells #[.string s.lo, .string s.hi] 36 (0, 0))) := Lib.hid (heap_alloc_new W _)
  have HK0 : Hid (Ok W (W.alloc (.cells #[.string s.lo, .string s.hi] 36))) := Lib.hid ((Ok.refl W).alloc _)
  have HHAS := Lib.hid (fun k V => rhas_w s k V)
  unfold spV at *
  go_enter Tryz.func28, Tryz.ntmps28
  go_wp2_with fail
  obtain ⟨z, hz⟩ : ∃ z, W.heap.size = z := ⟨_, rfl⟩
  have HZB := HZ0
  rw [hz] at HZB ⊢
  clear hz HZ0
  have HKA := HK0
  generalize W.alloc (.cells #[.string s.lo, .string s.hi] 36) = wa at *
  have HIN : Hid (Calls Tryz.prog 27 #[.pointer (some ⟨m, 0, none⟩), .agg #[.string s.lo, .string s.hi]] wa (ListP (meant s l) wa)) := Lib.hid (rin_f m A n c l s wa (HA.out.ok HKA.out) hnb)
  (with_reducible refine HIN.out.mono ?_)
  rintro _ w0 ⟨A2, n2, c2, rfl, ho2, ok2⟩
  have HO2' := Lib.hid ho2
  have HK1 := Lib.hid (Ok.trans HKA.out ok2)
  have HZ1 : Hid (w0.heap[z]? = some (.cells #[.string s.lo, .string s.hi] 36 (0, 0))) := Lib.hid ((ok2.block z (Array.getElem?_eq_some_iff.1 HZB.out).1).trans HZB.out)
  have HWA := Lib.hid HKA.out.size
  have HBS : Hid (w0.heap.size ≤ w0.heap.size) := Lib.hid (Nat.le_refl _)
  clear ho2 ok2 HZB HKA
  go_wp2_with fail
  go_loopw [6, 7] (fun v5 v6 wr => ∃ (k n1 : Nat) (A1 : Option Addr) (c1 : Nat), k ≤ n ∧ v6 = .int .i64 k ∧ v5 = .slice A1 n1 c1 ∧ OwnR wr w0.heap.size A1 n1 c1 (stay s (l.take k)) ∧ Ok w0 wr) (fun _ v6 _ => n - (intOf v6).toNat)
  case atStart => exact ⟨0, 0, none, 0, Nat.zero_le _, rfl, rfl, ⟨rfl, World.ownsRow_nil _ _ _ _⟩, Ok.refl _⟩
  case round =>
    obtain ⟨k, n1, A1, c1, hk, rfl, rfl, hown, okr⟩ := hrel
    have HOW := Lib.hid hown
    have HO := Lib.hid okr
    clear hown okr
    have c0 := HO.out.cell (HK1.out.cell HA.out.c0)
    by_cases hlt : k < n
    · have d1 : decide ((k : Int) < (n : Int)) = true := decide_eq_true (by omega)
      obtain ⟨b, off, rfl, x0, x1⟩ := HA.out.rows.ok (Ok.trans HK1.out HO.out) k (by rw [HA.out.len]; exact hlt)
      have z0 : wr.cell? ⟨z, 0, none⟩ = some (.string s.lo) := HO.out.cell (by rw [cell_of_heap HZ1.out]; rfl)
      have z1 : wr.cell? ⟨z, 1, none⟩ = some (.string s.hi) := HO.out.cell (by rw [cell_of_heap HZ1.out]; rfl)
      have i0 : (0 : Int) ≤ (k : Int) := Int.natCast_nonneg _
      have i1 : (k : Int) < (n : Int) := by omega
      have ek : IntKind.i64.wrap ((k : Int) + 1) = (k : Int) + 1 := IntWalk.i64_in _ (by omega)
      have HLT : Hid (n - ((k : Int) + 1).toNat < n - (k : Int).toNat) := Lib.hid (by omega)
      have HMT := Lib.hid (stay_succ s l k (by rw [HA.out.len]; exact hlt))
      have HN1 : Hid (n1 ≤ k) := Lib.hid (by
        have h1 := HOW.out.1
        have h2 : (stay s (l.take k)).length ≤ (l.take k).length := List.length_filter_le _ _
        rw [List.length_take] at h2
        omega)
      have HRW : Hid (rwA l k = ⟨(rwA l k).key, (rwA l k).val⟩) := Lib.hid rfl
      generalize (rwA l k).key = km at *
      generalize (rwA l k).val = vm at *
      obtain ⟨hb, hhb⟩ : ∃ hb, hasB s km = hb := ⟨_, rfl⟩
      have q52 : ∀ d os, Calls Tryz.prog 52 #[.agg #[.string s.lo, .string s.hi], .string km] (Go.Sort.grow (redrawn wr d) os) fun e w'' => e = .returned (.bool hb) ∧ ∃ q : Regrown, w'' = Go.Sort.grow (redrawn wr q.d) q.os := fun d os => Rg (by have := HHAS.out km (Go.Sort.grow (redrawn wr d) os); rw [hhb] at this; exact this)
      rw [hhb] at HMT
      clear hhb
      have kc0 := cell_regrown c0
      have kx0 := cell_regrown x0
      have kz0 := cell_regrown z0
      have kz1 := cell_regrown z1
      go_wp2_with fail
      refine wp_region_quiet_below (by kernel_rfl) (by kernel_rfl) ?_
      refine HeldU.out ?_
      repeat (
        refine hqU_step (fun K hK => ?_)
        go_simp
        first
          | (refine hK _ ?_; clear hK K)
          | (apply Exists.intro
             refine ⟨fun _ => ?_, hK _ ?_⟩
             (with_reducible exact q52 _ _)
             clear hK K))
      refine HeldU.mk (wpQuiet_nil ?_)
      intro _ hw'
      obtain ⟨⟨dq, osq⟩, hw''⟩ := hw'
      subst hw''
      have HB := Lib.hid (below_regrown wr dq osq)
      clear kc0 kx0 kz0 kz1 q52
      generalize Go.Sort.grow (redrawn wr dq) osq = w2 at *
      have HO2 := Lib.hid (Ok.trans HO.out HB.out)
      have HOW2 := Lib.hid (HOW.out.ok HB.out)
      replace c0 := Ok.cell HB.out c0
      replace x0 := Ok.cell HB.out x0
      replace x1 := Ok.cell HB.out x1
      clear z0 z1 HB
      have HOA : Hid (Ok w2 (w2.alloc (.cells #[.string km, .string vm] 48))) := Lib.hid ((Ok.refl w2).alloc _)
      have HVB : Hid (RowsIn (w2.alloc (.cells #[.string km, .string vm] 48)) (some ⟨w2.heap.size, 0, none⟩) [⟨km, vm⟩]) := Lib.hid (RowsIn.one _ _ ⟨km, vm⟩ (heap_alloc_new w2 _))
      cases hb with
      | false =>
        go_wp2_with (at_builtin; go_must (refine wpList_appRows rfl (.tmp 31) (.tmp 39) rfl w0.heap.size A1 n1 c1 _ rfl (HOW2.out.ok HOA.out) w2.heap.size 0 1 1 [⟨km, vm⟩] rfl rfl HVB.out (by have := HN1.out; omega) (Nat.le_trans HBS.out (Nat.le_trans HO2.out.size HOA.out.size)) ?_; intro A' c' w3 h3 g3; have HOW3 := Lib.hid h3; have HO3 : Hid (Ok w0 w3) := Lib.hid (Below.grown (HO2.out.trans HOA.out) g3 (Nat.le_trans HO2.out.size HOA.out.size) (fun j e => (HOW2.out.2.lt j e).1)); clear h3 g3))
        refine ⟨⟨k + 1, n1 + 1, A', c', hlt, rfl, rfl, ?_, HO3.out⟩, HLT.out⟩
        rw [HMT.out, HRW.out]; exact HOW3.out
      | true =>
        go_wp2_with fail
        exact ⟨⟨k + 1, n1, A1, c1, hlt, rfl, rfl, by rw [HMT.out]; simpa using HOW2.out, HO2.out⟩, HLT.out⟩
    · have d1 : decide ((k : Int) < (n : Int)) = false := decide_eq_false (by omega)
      obtain rfl : k = n := by omega
      have HFI : Hid (l.take k = l) := Lib.hid (List.take_of_length_le (by rw [HA.out.len]; exact Nat.le_refl _))
      rw [HFI.out] at HOW
      have f0 : wr.frozen? ⟨m, 0, none⟩ = false := by rw [Below.frozen (Ok.trans HK1.out HO.out) (p := ⟨m, 0, none⟩) HA.out.lt]; exact HA.out.f
      have HML : Hid (m < wa.heap.size ∧ m < w0.heap.size) := Lib.hid ⟨Nat.lt_of_lt_of_le HA.out.lt HWA.out, Nat.lt_of_lt_of_le HA.out.lt HK1.out.size⟩
      have HR3 := Lib.hid (HOW.out.far HML.out.2 0 (.slice A1 n1 c1))
      have HR2 := Lib.hid ((HO2'.out.ok HO.out).far HML.out.1 0 (.slice A1 n1 c1))
      have HKK := Lib.hid (k2_set (m := m) (Ok.trans HK1.out HO.out) (.slice A1 n1 c1))
      have HC0 : Hid ((wr.setCell ⟨m, 0, none⟩ (.slice A1 n1 c1)).cell? ⟨m, 0, none⟩ = some (.slice A1 n1 c1) ∧ (wr.setCell ⟨m, 0, none⟩ (.slice A1 n1 c1)).frozen? ⟨m, 0, none⟩ = false) := Lib.hid ⟨by go_simp, by go_simp⟩
      go_wp2_with fail
      go_ret
      exact ⟨A2, n2, c2, A1, n1, c1, rfl, HR2.out.mono HWA.out, ⟨HC0.out.1, HC0.out.2, HR3.out.1, HR3.out.rows, HR3.out.nil', HR3.out.cap, fun a e => by have := (HOW.out.2.lt a.block (by rw [e]; rfl)).1; have := HML.out.2; omega⟩, HR3.out.mono HK1.out.size, HKK.out⟩

end Go.Proofs.YtebhcadolnjplaaGreat
