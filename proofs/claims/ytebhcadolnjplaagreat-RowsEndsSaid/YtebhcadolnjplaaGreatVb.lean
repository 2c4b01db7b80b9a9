/- The document's own rows: In, Take, Get, a copy. -/
import Derived.Test.YtebhcadolnjplaaGreatVa
import Derived.Test.YtebhcadolnjplaaGreatXd
import Derived.Laws.OwnMore
namespace Go.Proofs.YtebhcadolnjplaaGreat
open Go.RowKit

/-- The document's rows: where they lie, what they are. -/
structure RfA (m : Nat) (A : Option Addr) (n c : Nat) (l : List Rw) (w : World) : Prop where
  c0 : w.cell? ⟨m, 0, none⟩ = some (.slice A n c)
  f : w.frozen? ⟨m, 0, none⟩ = false
  len : l.length = n
  rows : RowsIn w A l
  nil : A = none → c = 0
  cap : n ≤ c
  ne : ∀ a, A = some a → a.block ≠ m
theorem RfA.lt {m : Nat} {A : Option Addr} {n c : Nat} {l : List Rw} {w : World} (h : RfA m A n c l w) : m < w.heap.size := World.block_lt_of_cell? _ _ h.c0
theorem RfA.ok {m : Nat} {A : Option Addr} {n c : Nat} {l : List Rw} {w w' : World} (h : RfA m A n c l w) (k : Ok w w') : RfA m A n c l w' :=
  ⟨k.cell h.c0, by rw [Below.frozen k (p := ⟨m, 0, none⟩) h.lt]; exact h.f, h.len, h.rows.ok k, h.nil, h.cap, h.ne⟩
theorem str_beq (y x : ByteArray) : (y.toList == x.toList) = decide (y = x) := by
  rw [Bool.eq_iff_iff]
  simp only [beq_iff_eq, decide_eq_true_eq]
  constructor
  · intro h
    rw [Go.ByteArray.toList_eq, Go.ByteArray.toList_eq] at h
    exact Go.WideShapes.bytes_inj h
  · rintro rfl; rfl
theorem OwnR.mono {w : World} {B B' : Nat} {A : Option Addr} {n c : Nat} {l : List Rw} (h : OwnR w B A n c l) (k : B' ≤ B) : OwnR w B' A n c l := ⟨h.1, h.2.1, by
  rcases h.2.2 with q | ⟨g, cap, cur, e, r1, r2⟩
  · exact .inl q
  · exact .inr ⟨g, cap, cur, e, Nat.le_trans k r1, r2⟩⟩
theorem OwnR.cap {w : World} {B : Nat} {A : Option Addr} {n c : Nat} {l : List Rw} (h : OwnR w B A n c l) : n ≤ c := by
  rcases h.2.2 with ⟨e, h0⟩ | ⟨g, cap, cur, e, r1, r2, r3, _⟩
  · simp only [Value.slice.injEq] at e; omega
  · simp only [Value.slice.injEq] at e; omega
theorem OwnR.nil' {w : World} {B : Nat} {A : Option Addr} {n c : Nat} {l : List Rw} (h : OwnR w B A n c l) : A = none → c = 0 := fun e => by
  rcases h.nc with ⟨_, _, h3⟩ | ⟨g, e2⟩
  · exact h3
  · rw [e2] at e; cases e
set_option maxRecDepth 100000 in
set_option maxHeartbeats 1000000 in
theorem copyL_f (A : Option Addr) (n c : Nat) (l : List Rw) (W : World) (hn : l.length = n) (hn6 : n ≤ 100000) (hr : RowsIn W A l) (hA : A = none → c = 0) : Calls Tryz.prog 10 #[.slice A n c] W (CloneT n l W) := by
  have HR := Lib.hid hr
  have HN := Lib.hid hn
  have HO : Hid (OwnR W W.heap.size none 0 0 []) := Lib.hid ⟨rfl, World.ownsRow_nil _ _ _ _⟩
  clear hr hn
  go_enter Tryz.func10, Tryz.ntmps10
  go_wp2_with (at_builtin; go_must (refine wpList_appRN rfl (.tmp 4) (.tmp 5) rfl W.heap.size none 0 0 [] rfl HO.out A n c l HN.out rfl hA HR.out (by omega) (Nat.le_refl _) ?_; intro A' c' w2 h2 g2; have HO2 := Lib.hid h2; have HB2 : Hid (Ok W w2) := Lib.hid (grownBy_below g2 (fun b e => by cases e) (Nat.le_refl _)); clear h2 g2))
  go_ret
  exact ⟨A', c', rfl, by have := HO2.out; rwa [Nat.zero_add, List.nil_append] at this, HB2.out⟩
set_option maxRecDepth 100000 in
set_option maxHeartbeats 4000000 in
theorem rget_f (m : Nat) (A : Option Addr) (n c : Nat) (l : List Rw) (t : Str) (W : World) (h : RfA m A n c l W) (hn : n ≤ 100000) :
    Calls Tryz.prog 14 #[.pointer (some ⟨m, 0, none⟩), .string t] W fun e w' => Ok W w' ∧ ((e = .returned (.tuple #[.string ⟨#[]⟩, .bool false]) ∧ ∀ j, j < n → (rwA l j).key ≠ t) ∨ ∃ j, j < n ∧ (rwA l j).key = t ∧ e = .returned (.tuple #[.string (rwA l j).val, .bool true])) := by
  have HA := Lib.hid h
  clear h
  go_enter Tryz.func14, Tryz.ntmps14
  go_wp2_with fail
  go_loopw [6] (fun v6 wr => ∃ k : Nat, k ≤ n ∧ v6 = .int .i64 k ∧ Ok W wr ∧ ∀ j, j < k → (rwA l j).key ≠ t) (fun v6 _ => n - (intOf v6).toNat)
  case atStart => exact ⟨0, Nat.zero_le _, rfl, Ok.refl _, fun j hj => absurd hj (Nat.not_lt_zero _)⟩
  case round =>
    obtain ⟨k, hk, rfl, okr, hnone⟩ := hrel
    have HO := Lib.hid okr
    have HNO := Lib.hid hnone
    clear okr hnone
    have c0 := HO.out.cell HA.out.c0
    by_cases hlt : k < n
    · have d1 : decide ((k : Int) < (n : Int)) = true := decide_eq_true (by omega)
      obtain ⟨b, off, rfl, x0, x1⟩ := HA.out.rows.ok HO.out k (by rw [HA.out.len]; exact hlt)
      have i0 : (0 : Int) ≤ (k : Int) := Int.natCast_nonneg _
      have i1 : (k : Int) < (n : Int) := by omega
      have ek : IntKind.i64.wrap ((k : Int) + 1) = (k : Int) + 1 := IntWalk.i64_in _ (by omega)
      have HLT : Hid (n - ((k : Int) + 1).toNat < n - (k : Int).toNat) := Lib.hid (by omega)
      have HKEY : Hid (∀ km vm, (rwA l k).key = km → (rwA l k).val = vm → (km = t → ∃ j, j < n ∧ (rwA l j).key = t ∧ (rwA l j).val = vm)) := Lib.hid fun km vm e1 e2 e3 => ⟨k, hlt, e1.trans e3, e2⟩
      obtain ⟨km, hkm⟩ : ∃ km, (rwA l k).key = km := ⟨_, rfl⟩
      obtain ⟨vm, hvm⟩ : ∃ vm, (rwA l k).val = vm := ⟨_, rfl⟩
      rw [hkm] at x0
      rw [hvm] at x1
      have HK2 := Lib.hid (HKEY.out km vm hkm hvm)
      have HKM := Lib.hid hkm
      clear hkm hvm HKEY
      have heq := str_beq km t
      by_cases he : km = t
      · have d2 : (km.toList == t.toList) = true := by rw [heq]; exact decide_eq_true he
        obtain ⟨j, hj, hj1, hj2⟩ := HK2.out he
        have HJ : Hid (∃ j, j < n ∧ (rwA l j).key = t ∧ (rwA l j).val = vm) := Lib.hid ⟨j, hj, hj1, hj2⟩
        clear hj hj1 hj2 heq
        go_wp2_with fail
        go_ret2
        obtain ⟨j, hj, hj1, hj2⟩ := HJ.out
        exact ⟨HO.out, .inr ⟨j, hj, hj1, by rw [hj2]; rfl⟩⟩
      · have d2 : (km.toList == t.toList) = false := by rw [heq]; exact decide_eq_false he
        have HNX : Hid (∀ j, j < k + 1 → (rwA l j).key ≠ t) := Lib.hid fun j hj => by
          by_cases hjk : j < k
          · exact HNO.out j hjk
          · obtain rfl : j = k := by omega
            rw [HKM.out]; exact he
        clear heq
        go_wp2_with fail
        exact ⟨⟨k + 1, hlt, rfl, HO.out, HNX.out⟩, HLT.out⟩
    · have d1 : decide ((k : Int) < (n : Int)) = false := decide_eq_false (by omega)
      obtain rfl : k = n := by omega
      go_wp2_with fail
      go_ret2
      exact ⟨HO.out, .inl ⟨rfl, HNO.out⟩⟩
set_option maxRecDepth 100000 in
set_option maxHeartbeats 4000000 in
theorem rin_f (m : Nat) (A : Option Addr) (n c : Nat) (l : List Rw) (s : Sp) (W : World) (h : RfA m A n c l W) (hn : n ≤ 1000) : Calls Tryz.prog 27 #[.pointer (some ⟨m, 0, none⟩), spV s] W (ListP (meant s l) W) := by
  have HA := Lib.hid h
  have hnb := hn
  clear h
  have HZ0 : Hid ((W.alloc (.cells #[.string s.lo, .string s.hi] 36)).heap[W.heap.size]? = some (.cells #[.string s.lo, .string s.hi] 36 (0, 0))) := Lib.hid (heap_alloc_new W _)
  have HK0 : Hid (Ok W (W.alloc (.cells #[.string s.lo, .string s.hi] 36))) := Lib.hid ((Ok.refl W).alloc _)
  have HHAS := Lib.hid (fun k V => rhas_w s k V)
  unfold spV at *
  go_enter Tryz.func27, Tryz.ntmps27
  go_wp2_with fail
  obtain ⟨z, hz⟩ : ∃ z, W.heap.size = z := ⟨_, rfl⟩
  have HZ1 := HZ0
  rw [hz] at HZ1 ⊢
  clear hz HZ0
  have HK1 := HK0
  generalize W.alloc (.cells #[.string s.lo, .string s.hi] 36) = w0 at *
  have HBS : Hid (w0.heap.size ≤ w0.heap.size) := Lib.hid (Nat.le_refl _)
  go_loopw [5, 6] (fun v5 v6 wr => ∃ (k n1 : Nat) (A1 : Option Addr) (c1 : Nat), k ≤ n ∧ v6 = .int .i64 k ∧ v5 = .slice A1 n1 c1 ∧ OwnR wr w0.heap.size A1 n1 c1 (meant s (l.take k)) ∧ Ok w0 wr) (fun _ v6 _ => n - (intOf v6).toNat)
  case atStart => exact ⟨0, 0, none, 0, Nat.zero_le _, rfl, rfl, ⟨rfl, World.ownsRow_nil _ _ _ _⟩, Ok.refl _⟩
  case round =>
    obtain ⟨k, n1, A1, c1, hk, rfl, rfl, hown, okr⟩ := hrel
    have HOW := Lib.hid hown
    have HO := Lib.hid okr
    clear hown okr
    have c0 := HO.out.cell (HK1.out.cell HA.out.c0)
    by_cases hlt : k < n
    · have d1 : decide ((k : Int) < (n : Int)) = true := decide_eq_true (by omega)
      obtain ⟨b, off, rfl, x0, x1⟩ := HA.out.rows.ok (Ok.trans HK1.out HO.out) k (by rw [HA.out.len]; exact hlt)
      have z0 : wr.cell? ⟨z, 0, none⟩ = some (.string s.lo) := HO.out.cell (by rw [cell_of_heap HZ1.out]; rfl)
      have z1 : wr.cell? ⟨z, 1, none⟩ = some (.string s.hi) := HO.out.cell (by rw [cell_of_heap HZ1.out]; rfl)
      have i0 : (0 : Int) ≤ (k : Int) := Int.natCast_nonneg _
      have i1 : (k : Int) < (n : Int) := by omega
      have ek : IntKind.i64.wrap ((k : Int) + 1) = (k : Int) + 1 := IntWalk.i64_in _ (by omega)
      have HLT : Hid (n - ((k : Int) + 1).toNat < n - (k : Int).toNat) := Lib.hid (by omega)
      have HMT := Lib.hid (meant_take s l k (by rw [HA.out.len]; exact hlt))
      have HN1 : Hid (n1 ≤ k) := Lib.hid (by
        have h1 := HOW.out.1
        have h2 : (meant s (l.take k)).length ≤ (l.take k).length := List.length_filter_le _ _
        rw [List.length_take] at h2
        omega)
      have HRW : Hid (rwA l k = ⟨(rwA l k).key, (rwA l k).val⟩) := Lib.hid rfl
      generalize (rwA l k).key = km at *
      generalize (rwA l k).val = vm at *
      obtain ⟨hb, hhb⟩ : ∃ hb, hasB s km = hb := ⟨_, rfl⟩
      have q52 : ∀ d os, Calls Tryz.prog 52 #[.agg #[.string s.lo, .string s.hi], .string km] (Go.Sort.grow (redrawn wr d) os) fun e w'' => e = .returned (.bool hb) ∧ ∃ q : Regrown, w'' = Go.Sort.grow (redrawn wr q.d) q.os := fun d os => Rg (by have := HHAS.out km (Go.Sort.grow (redrawn wr d) os); rw [hhb] at this; exact this)
      rw [hhb] at HMT
      clear hhb
      have kc0 := cell_regrown c0
      have kx0 := cell_regrown x0
      have kz0 := cell_regrown z0
      have kz1 := cell_regrown z1
      go_wp2_with fail
      refine wp_region_quiet_below (by kernel_rfl) (by kernel_rfl) ?_
      refine HeldU.out ?_
      repeat (
        refine hqU_step (fun K hK => ?_)
        go_simp
        first
          | (refine hK _ ?_; clear hK K)
          | (apply Exists.intro
             refine ⟨fun _ => ?_, hK _ ?_⟩
             (with_reducible exact q52 _ _)
             clear hK K))
      refine HeldU.mk (wpQuiet_nil ?_)
      intro _ hw'
      obtain ⟨⟨dq, osq⟩, hw''⟩ := hw'
      subst hw''
      have HB := Lib.hid (below_regrown wr dq osq)
      clear kc0 kx0 kz0 kz1 q52
      generalize Go.Sort.grow (redrawn wr dq) osq = w2 at *
      have HO2 := Lib.hid (Ok.trans HO.out HB.out)
      have HOW2 := Lib.hid (HOW.out.ok HB.out)
      replace c0 := Ok.cell HB.out c0
      replace x0 := Ok.cell HB.out x0
      replace x1 := Ok.cell HB.out x1
      clear z0 z1 HB
      have HOA : Hid (Ok w2 (w2.alloc (.cells #[.string km, .string vm] 48))) := Lib.hid ((Ok.refl w2).alloc _)
      have HVB : Hid (RowsIn (w2.alloc (.cells #[.string km, .string vm] 48)) (some ⟨w2.heap.size, 0, none⟩) [⟨km, vm⟩]) := Lib.hid (RowsIn.one _ _ ⟨km, vm⟩ (heap_alloc_new w2 _))
      cases hb with
      | true =>
        go_wp2_with (at_builtin; go_must (refine wpList_appRows rfl (.tmp 26) (.tmp 34) rfl w0.heap.size A1 n1 c1 _ rfl (HOW2.out.ok HOA.out) w2.heap.size 0 1 1 [⟨km, vm⟩] rfl rfl HVB.out (by have := HN1.out; omega) (Nat.le_trans HBS.out (Nat.le_trans HO2.out.size HOA.out.size)) ?_; intro A' c' w3 h3 g3; have HOW3 := Lib.hid h3; have HO3 : Hid (Ok w0 w3) := Lib.hid (Below.grown (HO2.out.trans HOA.out) g3 (Nat.le_trans HO2.out.size HOA.out.size) (fun j e => (HOW2.out.2.lt j e).1)); clear h3 g3))
        refine ⟨⟨k + 1, n1 + 1, A', c', hlt, rfl, rfl, ?_, HO3.out⟩, HLT.out⟩
        rw [HMT.out, HRW.out]; exact HOW3.out
      | false =>
        go_wp2_with fail
        exact ⟨⟨k + 1, n1, A1, c1, hlt, rfl, rfl, by rw [HMT.out]; simpa using HOW2.out, HO2.out⟩, HLT.out⟩
    · have d1 : decide ((k : Int) < (n : Int)) = false := decide_eq_false (by omega)
      obtain rfl : k = n := by omega
      have HFI : Hid (l.take k = l) := Lib.hid (List.take_of_length_le (by rw [HA.out.len]; exact Nat.le_refl _))
      rw [HFI.out] at HOW
      go_wp2_with fail
      go_ret
      exact ⟨A1, n1, c1, rfl, HOW.out.mono HK1.out.size, Ok.trans HK1.out HO.out⟩

end Go.Proofs.YtebhcadolnjplaaGreat
