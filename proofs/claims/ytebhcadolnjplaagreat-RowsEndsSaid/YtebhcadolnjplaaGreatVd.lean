/- The document's own rows: a row put where it must stand; Put. -/
import Derived.Test.YtebhcadolnjplaaGreatVc
import Derived.Test.YtebhcadolnjplaaGreatFa
import Derived.Maps.AppendAt
namespace Go.Proofs.YtebhcadolnjplaaGreat
open Go.RowKit

theorem own_zeroR (w : World) : OwnR (w.alloc (.cells #[] 48)) w.heap.size (some ⟨w.heap.size, 0, none⟩) 0 0 [] :=
  ⟨rfl, rfl, .inr ⟨w.heap.size, 0, #[], rfl, Nat.le_refl _, heap_alloc_new w _, Nat.le_refl _, by unfold maxLen; omega, rfl, rfl⟩⟩
theorem step_appR {ops : Array Oper} {o : Oper} {a : Act} {w : World} {K : Act → World → Prop} {Q : Exit → Act → World → Prop} {E : Prop} (hgd : o.guard = none) (s x : Operand)
    (ho : o.op = .call { callee := .builtin .append, args := #[s, x], argTypes := #[29, 29] })
    (base : Nat) (A : Option Addr) (n c : Nat) (l : List Rw) (hs : a.eval s = .slice A n c) (hown : OwnR w base A n c l) (A2 : Option Addr) (m d : Nat) (k : List Rw) (hk : k.length = m) (hx : a.eval x = .slice A2 m d) (hnil : A2 = none → d = 0)
    (hin : RowsIn w A2 k) (hn : n + m ≤ 1000000) (hbase : base ≤ w.heap.size)
    (h : ∀ A' c' w', OwnR w' base A' (n + m) c' (l ++ k) → w.grownBy w' (Value.slice A n c).ownBlock → K (a.put o.dst (.slice A' (n + m) c')) w') :
    if Region.wanted o (yielded ops a.tmps) = true then Oper.wp Tryz.prog o a w K Q else E := by
  have hw : Region.wanted o (yielded ops a.tmps) = true := by simp [Region.wanted, hgd]
  rw [if_pos hw]
  obtain ⟨i0, hi, hz0, hz1, hz2⟩ := info_parts info105
  unfold Oper.wp execOp
  cases A2 with
  | none =>
    obtain rfl : k = [] := by
      cases k with
      | nil => rfl
      | cons y k => obtain ⟨_, _, e, _⟩ := hin 0 (by simp); cases e
    obtain rfl : m = 0 := hk.symm
    obtain rfl := hnil rfl
    have hr := run_append_owned_none (P := Tryz.prog) (w := w) base 29 o.type 48 i0 2 Tryz.underlying29 hi _ n (flat2 l) hown.2
    simp only [ho, resolve, invoke, builtin, Sem.run_bind, Sem.run_pure, Result.andThen_ok, List.map_toArray, List.map_cons, List.map_nil, hs, hx, hr]
    exact h A c w (by simpa using hown) ⟨rfl, rfl, rfl, Nat.le_refl _, fun _ _ _ => rfl⟩
  | some ad =>
    have hin2 : ∀ j u, (flat2 k)[j]? = some u → w.cell? (ad.add j) = some u := by
      cases k with
      | nil => intro j u hu; simp [flat2] at hu
      | cons y k =>
        obtain ⟨b, off, e, _⟩ := hin 0 (by simp)
        simp only [Option.some.injEq] at e
        subst e
        intro j u hu
        exact hin.cell b off rfl j u hu
    obtain ⟨v', w', hr, h2, h3, _, _⟩ := run_append_own_at (P := Tryz.prog) w base 29 o.type 48 i0 _ 2 32 Tryz.underlying29 hi hz0 hz1 hz2 rfl (by decide) (.slice A n c) n (flat2 l) hown.2 ad m d (flat2 k) (by rw [flat2_len, hk]) hin2 (flat2_one k) (by unfold maxLen; omega) (by omega) hbase
    simp only [ho, resolve, invoke, builtin, Sem.run_bind, Sem.run_pure, Result.andThen_ok, List.map_toArray, List.map_cons, List.map_nil, hs, hx, hr]
    rw [← flat2_append] at h2
    have hv : ∃ A c, v' = .slice A (n + m) c := by
      rcases h2.2 with ⟨rfl, q⟩ | ⟨g, cap, cur, rfl, _⟩
      · exact ⟨none, 0, by rw [q]⟩
      · exact ⟨_, _, rfl⟩
    obtain ⟨A', c', rfl⟩ := hv
    exact h A' c' w' ⟨by rw [List.length_append, hown.1, hk], h2⟩ h3
theorem rwA_take (l : List Rw) (k j : Nat) (h : j < k) : rwA (l.take k) j = rwA l j := by simp [rwA, List.getD, h]
theorem rwA_drop (l : List Rw) (k j : Nat) : rwA (l.drop k) j = rwA l (k + j) := by simp [rwA, List.getD]
theorem RowsIn.take {w : World} {A : Option Addr} {l : List Rw} (h : RowsIn w A l) (k : Nat) : RowsIn w A (l.take k) := fun j hj => by
  rw [List.length_take] at hj
  rw [rwA_take l k j (by omega)]
  exact h j (by omega)
theorem RowsIn.drop {w : World} {A : Option Addr} {l : List Rw} (h : RowsIn w A l) (k : Nat) : RowsIn w (A.map (·.add (k * 2))) (l.drop k) := fun j hj => by
  rw [List.length_drop] at hj
  obtain ⟨b, off, rfl, c0, c1⟩ := h (k + j) (by omega)
  rw [rwA_drop]
  refine ⟨b, off + k * 2, ?_, ?_, ?_⟩
  · rw [Option.map_some, Addr.add_lit]
  · rw [show off + k * 2 + j * 2 = off + (k + j) * 2 by omega]; exact c0
  · rw [show off + k * 2 + j * 2 + 1 = off + (k + j) * 2 + 1 by omega]; exact c1
def PutDP (x : Rw) (l : List Rw) (W : World) (e : Ending) (w' : World) : Prop := ∃ A' n' c' l', e = .returned (.slice A' n' c') ∧ Laid l x l' ∧ OwnR w' W.heap.size A' n' c' l' ∧ Ok W w'
set_option maxRecDepth 100000 in
set_option maxHeartbeats 4000000 in
theorem rput1_f (A : Option Addr) (n c : Nat) (l : List Rw) (kx vx : Str) (W : World) (hn : l.length = n) (hn6 : n ≤ 10000) (hr : RowsIn W A l) (hA : A = none → c = 0) (hcap : n ≤ c) (hri : Rises l) :
    Calls Tryz.prog 49 #[.slice A n c, .agg #[.string kx, .string vx]] W (PutDP ⟨kx, vx⟩ l W) := by
  have HR := Lib.hid hr
  have HN := Lib.hid hn
  have HRI := Lib.hid hri
  clear hr hn hri
  have HZ0 : Hid ((W.alloc (.cells #[.string kx, .string vx] 48)).heap[W.heap.size]? = some (.cells #[.string kx, .string vx] 48 (0, 0))) := Lib.hid (heap_alloc_new W _)
  have HK0 : Hid (Ok W (W.alloc (.cells #[.string kx, .string vx] 48))) := Lib.hid ((Ok.refl W).alloc _)
  go_enter Tryz.func49, Tryz.ntmps49
  go_wp2_with fail
  obtain ⟨z, hz⟩ : ∃ z, W.heap.size = z := ⟨_, rfl⟩
  rw [hz] at HZ0 ⊢
  have HWZ := Lib.hid hz
  clear hz
  generalize W.alloc (.cells #[.string kx, .string vx] 48) = w0 at *
  go_loopw [5] (fun v5 wr => ∃ k : Nat, k ≤ n ∧ v5 = .int .i64 k ∧ Ok w0 wr ∧ ∀ j, j < k → ltB (rwA l j).key kx = true) (fun v5 _ => n - (intOf v5).toNat)
  case atStart => exact ⟨0, Nat.zero_le _, rfl, Ok.refl _, fun j hj => absurd hj (Nat.not_lt_zero _)⟩
  case round =>
    obtain ⟨k, hk, rfl, okr, hlow⟩ := hrel
    have HO := Lib.hid okr
    have HLOW := Lib.hid hlow
    clear okr hlow
    have z0 : wr.cell? ⟨z, 0, none⟩ = some (.string kx) := HO.out.cell (by rw [cell_of_heap HZ0.out]; rfl)
    have kz0 := cell_regrown z0
    by_cases hgo : k < n ∧ ltB (rwA l k).key kx = true
    · obtain ⟨hlt, hb⟩ := hgo
      have d1 : decide ((k : Int) < (n : Int)) = true := decide_eq_true (by omega)
      obtain ⟨b, off, rfl, x0, -⟩ := HR.out.ok (Ok.trans HK0.out HO.out) k (by rw [HN.out]; exact hlt)
      have i0 : (0 : Int) ≤ (k : Int) := Int.natCast_nonneg _
      have i1 : (k : Int) < (n : Int) := by omega
      have ek : IntKind.i64.wrap ((k : Int) + 1) = (k : Int) + 1 := IntWalk.i64_in _ (by omega)
      have HLT : Hid (n - ((k : Int) + 1).toNat < n - (k : Int).toNat) := Lib.hid (by omega)
      have HLN : Hid (∀ j, j < k + 1 → ltB (rwA l j).key kx = true) := Lib.hid fun j hj => by
        by_cases hjk : j < k
        · exact HLOW.out j hjk
        · obtain rfl : j = k := by omega
          exact hb
      have d2 : Op.bytesLess (rwA l k).key.toList kx.toList = true := hb
      generalize (rwA l k).key = km at *
      have kx0 := cell_regrown x0
      clear hb
      go_wp2_with fail
      refine wp_region_quiet_below (by kernel_rfl) (by kernel_rfl) ?_
      refine HeldU.out ?_
      repeat (
        refine hqU_step (fun K hK => ?_)
        go_simp
        (refine hK _ ?_; clear hK K))
      refine HeldU.mk (wpQuiet_nil ?_)
      intro _ hw'
      obtain ⟨⟨dq, osq⟩, hw''⟩ := hw'
      subst hw''
      have HO2 := Lib.hid (Ok.trans HO.out (below_regrown wr dq osq))
      clear kx0 kz0 x0 z0
      generalize Go.Sort.grow (redrawn wr dq) osq = w2 at *
      go_wp2_with fail
      exact ⟨⟨k + 1, hlt, rfl, HO2.out, HLN.out⟩, HLT.out⟩
    · have HPL : Hid (Place l kx k) := Lib.hid ⟨by rw [HN.out]; exact hk, HLOW.out, fun j hj1 hj2 => by
        rw [HN.out] at hj2
        have hkn : k < n := by omega
        have hb : ltB (rwA l k).key kx = false := by
          cases h : ltB (rwA l k).key kx with
          | true => exact absurd ⟨hkn, h⟩ hgo
          | false => rfl
        by_cases hjk : j = k
        · rw [hjk]; exact hb
        · have h1 := HRI.out k j (by omega) (by rw [HN.out]; exact hj2)
          cases h : ltB (rwA l j).key kx with
          | false => rfl
          | true => rw [ltB_trans h1 h] at hb; cases hb⟩
      have Hwr := HO
      have HDEC : Hid (foundB l kx k = (decide (k < n) && decide ((rwA l k).key = kx))) := Lib.hid (by unfold foundB; rw [HN.out])
      by_cases hlt : k < n
      · have d1 : decide ((k : Int) < (n : Int)) = true := decide_eq_true (by omega)
        have hx0 := HR.out.ok (Ok.trans HK0.out HO.out) k (by rw [HN.out]; exact hlt)
        have i0 : (0 : Int) ≤ (k : Int) := Int.natCast_nonneg _
        have i1 : (k : Int) < (n : Int) := by omega
        by_cases hke : (rwA l k).key = kx
        · have HNF : Hid (foundB l kx k = true) := Lib.hid (by rw [HDEC.out, decide_eq_true hlt, decide_eq_true hke]; rfl)
          obtain ⟨b, off, rfl, x0, -⟩ := hx0
          rw [hke] at x0
          have d2 : Op.bytesLess kx.toList kx.toList = false := ltB_irrefl kx
          have d3 : (kx.toList == kx.toList) = true := by rw [str_beq]; exact decide_eq_true rfl
          have kx0 := cell_regrown x0
          clear hke hgo HDEC
          go_wp2_with fail
          refine wp_region_quiet_below (by kernel_rfl) (by kernel_rfl) ?_
          refine HeldU.out ?_
          repeat (
            refine hqU_step (fun K hK => ?_)
            go_simp
            (refine hK _ ?_; clear hK K))
          refine HeldU.mk (wpQuiet_nil ?_)
          intro _ hw'
          obtain ⟨⟨dq, osq⟩, hw''⟩ := hw'
          subst hw''
          have Hwb := Lib.hid (Ok.trans Hwr.out (below_regrown wr dq osq))
          have x0n := Ok.cell (below_regrown wr dq osq) x0
          clear kx0 x0
          have z0n := Ok.cell (below_regrown wr dq osq) z0
          clear kz0 z0
          generalize Go.Sort.grow (redrawn wr dq) osq = wb at *
          have x0 := x0n
          clear x0n
          have kx0 := cell_regrown x0
          have z0 := z0n
          clear z0n
          have kz0 := cell_regrown z0
          go_wp2_with fail
          refine wp_region_quiet_below (by kernel_rfl) (by kernel_rfl) ?_
          refine HeldU.out ?_
          repeat (
            refine hqU_step (fun K hK => ?_)
            go_simp
            (refine hK _ ?_; clear hK K))
          refine HeldU.mk (wpQuiet_nil ?_)
          intro _ hw'
          obtain ⟨⟨dq, osq⟩, hw''⟩ := hw'
          subst hw''
          have Hwc := Lib.hid (Ok.trans Hwb.out (below_regrown wb dq osq))
          have x0n := Ok.cell (below_regrown wb dq osq) x0
          clear kx0 x0
          have z0n := Ok.cell (below_regrown wb dq osq) z0
          clear kz0 z0
          generalize Go.Sort.grow (redrawn wb dq) osq = wc at *
          have x0 := x0n
          clear x0n
          have kx0 := cell_regrown x0
          have z0 := z0n
          clear z0n
          have kz0 := cell_regrown z0
          have HOW := Lib.hid (Ok.trans HK0.out Hwc.out)
          have HWC : Hid (W.heap.size ≤ wc.heap.size) := Lib.hid HOW.out.size
          have z1 : wc.cell? ⟨z, 1, none⟩ = some (.string vx) := Hwc.out.cell (by rw [cell_of_heap HZ0.out]; rfl)
          have HZ2 : Hid (wc.cell? ⟨z, 0, none⟩ = some (.string kx) ∧ wc.cell? ⟨z, 1, none⟩ = some (.string vx)) := Lib.hid ⟨z0, z1⟩
          have HZR := Lib.hid (own_zeroR wc)
          have HOE : Hid (Ok wc (wc.alloc (.cells #[] 48))) := Lib.hid ((Ok.refl wc).alloc _)
          clear kz0 kx0 z0 z1 x0
          go_upto_region 6 with (at_builtin; go_must (refine wpList_appRN rfl (.tmp 38) (.tmp 39) rfl wc.heap.size (some ⟨wc.heap.size, 0, none⟩) 0 0 [] rfl HZR.out _ n c l HN.out rfl hA (HR.out.ok (Ok.trans HOW.out HOE.out)) (by omega) HOE.out.size ?_; intro A1 c1 w4 h4 g4; have HO4 : Hid (OwnR w4 wc.heap.size A1 n c1 l) := Lib.hid (by have := h4; rwa [Nat.zero_add, List.nil_append] at this); have HK4 : Hid (Below wc.heap.size wc w4) := Lib.hid (Below.grown HOE.out g4 HOE.out.size (fun j e => (HZR.out.2.lt j e).1)); clear h4 g4))
          obtain ⟨g, rfl, hg1, hg2⟩ := HO4.out.form (by omega)
          have z0 := Ok.cell HK4.out HZ2.out.1
          have z1 := Ok.cell HK4.out HZ2.out.2
          obtain ⟨y0, y1⟩ := HO4.out.cell2 k hlt
          have f0 := HO4.out.froz (k * 2)
          have f1 := HO4.out.froz (k * 2 + 1)
          have HSET := Lib.hid (HO4.out.set k kx vx)
          have HBL : Hid (Ok W ((w4.setCell ⟨g, k * 2, none⟩ (.string kx)).setCell ⟨g, k * 2 + 1, none⟩ (.string vx))) := Lib.hid (Below.setCell (Below.setCell (Below.trans HOW.out (HK4.out.mono HWC.out)) (Nat.le_trans HWC.out hg2) _) (Nat.le_trans HWC.out hg2) _)
          generalize rwA l k = old at y0 y1
          clear hg2
          go_wp2_with fail
          go_ret
          exact ⟨_, n, c1, l.set k ⟨kx, vx⟩, rfl, ⟨k, HPL.out, by rw [HNF.out]; rfl⟩, HSET.out.mono HWC.out, HBL.out⟩
        · have hb : ltB (rwA l k).key kx = false := by
            cases h : ltB (rwA l k).key kx with
            | true => exact absurd ⟨hlt, h⟩ hgo
            | false => rfl
          have HNF : Hid (foundB l kx k = false) := Lib.hid (by rw [HDEC.out, decide_eq_false hke]; simp)
          have d2 : Op.bytesLess (rwA l k).key.toList kx.toList = false := hb
          have d3 : ((rwA l k).key.toList == kx.toList) = false := by rw [str_beq]; exact decide_eq_false hke
          obtain ⟨b, off, hAA, x0, -⟩ := hx0
          clear hb hke hgo HDEC
          generalize (rwA l k).key = km at *
          subst hAA
          have kx0 := cell_regrown x0
          go_wp2_with fail
          refine wp_region_quiet_below (by kernel_rfl) (by kernel_rfl) ?_
          refine HeldU.out ?_
          repeat (
            refine hqU_step (fun K hK => ?_)
            go_simp
            (refine hK _ ?_; clear hK K))
          refine HeldU.mk (wpQuiet_nil ?_)
          intro _ hw'
          obtain ⟨⟨dq, osq⟩, hw''⟩ := hw'
          subst hw''
          have Hwb := Lib.hid (Ok.trans Hwr.out (below_regrown wr dq osq))
          have x0n := Ok.cell (below_regrown wr dq osq) x0
          clear kx0 x0
          have z0n := Ok.cell (below_regrown wr dq osq) z0
          clear kz0 z0
          generalize Go.Sort.grow (redrawn wr dq) osq = wb at *
          have x0 := x0n
          clear x0n
          have kx0 := cell_regrown x0
          have z0 := z0n
          clear z0n
          have kz0 := cell_regrown z0
          go_wp2_with fail
          refine wp_region_quiet_below (by kernel_rfl) (by kernel_rfl) ?_
          refine HeldU.out ?_
          repeat (
            refine hqU_step (fun K hK => ?_)
            go_simp
            (refine hK _ ?_; clear hK K))
          refine HeldU.mk (wpQuiet_nil ?_)
          intro _ hw'
          obtain ⟨⟨dq, osq⟩, hw''⟩ := hw'
          subst hw''
          have Hwc := Lib.hid (Ok.trans Hwb.out (below_regrown wb dq osq))
          have x0n := Ok.cell (below_regrown wb dq osq) x0
          clear kx0 x0
          have z0n := Ok.cell (below_regrown wb dq osq) z0
          clear kz0 z0
          generalize Go.Sort.grow (redrawn wb dq) osq = wc at *
          have x0 := x0n
          clear x0n
          have kx0 := cell_regrown x0
          have z0 := z0n
          clear z0n
          have kz0 := cell_regrown z0
          clear kx0 x0
          have HOW := Lib.hid (Ok.trans HK0.out Hwc.out)
          have HWC : Hid (W.heap.size ≤ wc.heap.size) := Lib.hid HOW.out.size
          have z1 : wc.cell? ⟨z, 1, none⟩ = some (.string vx) := Hwc.out.cell (by rw [cell_of_heap HZ0.out]; rfl)
          have HZR := Lib.hid (own_zeroR wc)
          have HOE : Hid (Ok wc (wc.alloc (.cells #[] 48))) := Lib.hid ((Ok.refl wc).alloc _)
          have i0 : (0 : Int) ≤ (k : Int) := Int.natCast_nonneg _
          have i2 : (k : Int) ≤ (c : Int) := by omega
          have i3 : k ≤ c := by omega
          have i4 : (k : Int) ≤ (n : Int) := by omega
          have i5 : k ≤ n := hk
          have HTK : Hid ((l.take k).length = k) := Lib.hid (by rw [List.length_take, HN.out]; omega)
          have HDL : Hid ((l.drop k).length = n - k) := Lib.hid (by rw [List.length_drop, HN.out])
          go_wp2_with (at_builtin; go_must (refine wpList_appRN rfl (.tmp 46) (.tmp 49) rfl wc.heap.size (some ⟨wc.heap.size, 0, none⟩) 0 0 [] rfl HZR.out _ k c (l.take k) HTK.out rfl hA ((HR.out.ok (Ok.trans HOW.out HOE.out)).take k) (by omega) HOE.out.size ?_; intro A1 c1 w4 h4 g4; have HO4 : Hid (OwnR w4 wc.heap.size A1 k c1 (l.take k)) := Lib.hid (by have := h4; rwa [Nat.zero_add, List.nil_append] at this); have HK4 : Hid (Below wc.heap.size wc w4) := Lib.hid (Below.grown HOE.out g4 HOE.out.size (fun j e => (HZR.out.2.lt j e).1)); clear h4 g4))
          have HC4 : Hid (wc.heap.size ≤ w4.heap.size) := Lib.hid HK4.out.size
          have Z4 : Hid (w4.cell? ⟨z, 0, none⟩ = some (.string kx) ∧ w4.cell? ⟨z, 1, none⟩ = some (.string vx)) := Lib.hid ⟨Ok.cell HK4.out z0, Ok.cell HK4.out z1⟩
          clear kz0 z0 z1
          have HRL : Hid (∀ V, Below wc.heap.size wc V → RowsIn V (some ⟨b, off + k * 2, none⟩) (l.drop k)) := Lib.hid fun V h => by have q := (HR.out.ok (Ok.trans HOW.out h)).drop k; rwa [Option.map_some, Addr.add_lit] at q
          have hck : ¬ c = k := by omega
          have hck2 : ¬ k = c := fun e => hck e.symm
          refine Until.begin (S := (fun _ => True)) (j := 2) (by kernel_rfl) ?_ ?_
          · exact trivial
          intro hS
          have HD : Hid (Ok w4 w4.drew) := Lib.hid ((Ok.refl w4).drew)
          generalize w4.drew = V0 at *
          have z0 := HD.out.cell Z4.out.1
          have z1 := HD.out.cell Z4.out.2
          refine Until.take0 (i := 0) (v := ?v0p5) rfl (by kernel_rfl) (by kernel_rfl) (by kernel_rfl) (by kernel_rfl) (fun _ _ _ h => h) (Or.inl ⟨by rfl, ?hy0p5⟩) (fun _ => hS) ?rest0p5
          case hy0p5 => ((intro w hSw); clear hSw; go_simp; (try with_reducible rfl))
          try go_frame
          refine Until.take0 (i := 4) (v := ?v4p5) rfl (by kernel_rfl) (by kernel_rfl) (by kernel_rfl) (by kernel_rfl) (fun _ _ _ h => h) (Or.inl ⟨by rfl, ?hy4p5⟩) (fun _ => hS) ?rest4p5
          case hy4p5 => ((intro w hSw); clear hSw; go_simp; (try with_reducible rfl))
          try go_frame
          refine Until.take0 (i := 5) (v := ?v5p5) rfl (by kernel_rfl) (by kernel_rfl) (by kernel_rfl) (by kernel_rfl) (fun _ _ _ h => h) (Or.inl ⟨by rfl, ?hy5p5⟩) (fun _ => hS) ?rest5p5
          case hy5p5 => ((intro w hSw); clear hSw; go_simp; (try with_reducible rfl))
          try go_frame
          refine Until.take0 (i := 6) (v := ?v6p5) rfl (by kernel_rfl) (by kernel_rfl) (by kernel_rfl) (by kernel_rfl) (fun _ _ _ h => h) (Or.inl ⟨by rfl, ?hy6p5⟩) (fun _ => hS) ?rest6p5
          case hy6p5 => ((intro w hSw); clear hSw; go_simp; (try with_reducible rfl))
          try go_frame
          refine Until.one (i := 1) (by kernel_rfl) rfl (fun K hK => ?_)
          have HK := Lib.hid hK
          clear hK
          go_simp
          refine HK.out.out _ _ (fun _ => hS) (fun _ => ?_)
          clear HK K
          try go_frame
          refine Until.one (i := 2) (by kernel_rfl) rfl (fun K hK => ?_)
          have HK := Lib.hid hK
          clear hK
          go_simp
          refine HK.out.out _ _ (fun h => absurd (h.symm.trans (by kernel_rfl : _ = true)) Bool.false_ne_true) (fun _ => ?_)
          clear HK K
          try go_frame
          refine Until.one (i := 3) (by kernel_rfl) rfl (fun K hK => ?_)
          have HK := Lib.hid hK
          clear hK
          have HOA : Hid (Ok V0 (V0.alloc (.cells #[.string kx, .string vx] 48))) := Lib.hid ((Ok.refl V0).alloc _)
          have HVB : Hid (RowsIn (V0.alloc (.cells #[.string kx, .string vx] 48)) (some ⟨V0.heap.size, 0, none⟩) [⟨kx, vx⟩]) := Lib.hid (RowsIn.one _ _ ⟨kx, vx⟩ (heap_alloc_new V0 _))
          refine step_appR rfl (.tmp 51) (.tmp 53) rfl wc.heap.size A1 k c1 (l.take k) rfl (HO4.out.ok (Ok.trans HD.out HOA.out)) (some ⟨V0.heap.size, 0, none⟩) 1 1 [⟨kx, vx⟩] rfl rfl (fun e => by cases e) HVB.out (by omega) (Nat.le_trans HC4.out (Ok.trans HD.out HOA.out).size) ?_
          intro A5 c5 w5 h5 g5
          have HO5 := Lib.hid h5
          have HK5 : Hid (Below wc.heap.size wc w5) := Lib.hid (Below.grown (Below.trans HK4.out (Below.mono (Ok.trans HD.out HOA.out) HC4.out)) g5 (Nat.le_trans HC4.out (Ok.trans HD.out HOA.out).size) (fun j e => (HO4.out.2.lt j e).1))
          clear h5 g5
          refine HK.out.out _ _ (fun h => absurd (h.symm.trans (by kernel_rfl : _ = true)) Bool.false_ne_true) (fun _ => ?_)
          clear HK K
          try go_frame
          refine Until.one (i := 7) (by kernel_rfl) rfl (fun K hK => ?_)
          have HK := Lib.hid hK
          clear hK
          refine step_appR rfl (.tmp 54) (.tmp 57) rfl wc.heap.size A5 (k + 1) c5 (l.take k ++ [⟨kx, vx⟩]) rfl HO5.out (some ⟨b, off + k * 2, none⟩) (n - k) (c - k) (l.drop k) (by have := HDL.out; omega) rfl (fun e => by cases e) ((HRL.out _ HK5.out)) (by omega) HK5.out.size ?_
          intro A6 c6 w6 h6 g6
          have HO6 := Lib.hid h6
          have HK6 : Hid (Below wc.heap.size wc w6) := Lib.hid (Below.grown HK5.out g6 HK5.out.size (fun j e => (HO5.out.2.lt j e).1))
          clear h6 g6
          refine HK.out.out _ _ (fun h => absurd (h.symm.trans (by kernel_rfl : _ = true)) Bool.false_ne_true) (fun _ => ?_)
          clear HK K
          try go_frame
          refine Until.one (i := 8) (by kernel_rfl) rfl (fun K hK => ?_)
          have HK := Lib.hid hK
          clear hK
          go_simp
          refine HK.out.out _ _ (fun h => absurd (h.symm.trans (by kernel_rfl : _ = true)) Bool.false_ne_true) (fun _ => ?_)
          clear HK K
          try go_frame
          refine Until.done (by kernel_rfl) ?_ _
          go_wp2_with fail
          go_ret
          exact ⟨A6, _, c6, insR l k ⟨kx, vx⟩, rfl, ⟨k, HPL.out, by rw [HNF.out]; rfl⟩, by have := HO6.out; rw [List.append_assoc] at this; exact this.mono HWC.out, Below.trans HOW.out (HK6.out.mono HWC.out)⟩
      · have d1 : decide ((k : Int) < (n : Int)) = false := decide_eq_false (by omega)
        have HNF : Hid (foundB l kx k = false) := Lib.hid (by rw [HDEC.out, decide_eq_false hlt]; rfl)
        clear hgo HDEC
        go_wp2_with fail
        refine wp_region_quiet_below (by kernel_rfl) (by kernel_rfl) ?_
        refine HeldU.out ?_
        repeat (
          refine hqU_step (fun K hK => ?_)
          go_simp
          (refine hK _ ?_; clear hK K))
        refine HeldU.mk (wpQuiet_nil ?_)
        intro _ hw'
        obtain ⟨⟨dq, osq⟩, hw''⟩ := hw'
        subst hw''
        have Hwb := Lib.hid (Ok.trans Hwr.out (below_regrown wr dq osq))
        have z0n := Ok.cell (below_regrown wr dq osq) z0
        clear kz0 z0
        generalize Go.Sort.grow (redrawn wr dq) osq = wb at *
        have z0 := z0n
        clear z0n
        have kz0 := cell_regrown z0
        go_wp2_with fail
        refine wp_region_quiet_below (by kernel_rfl) (by kernel_rfl) ?_
        refine HeldU.out ?_
        repeat (
          refine hqU_step (fun K hK => ?_)
          go_simp
          (refine hK _ ?_; clear hK K))
        refine HeldU.mk (wpQuiet_nil ?_)
        intro _ hw'
        obtain ⟨⟨dq, osq⟩, hw''⟩ := hw'
        subst hw''
        have Hwc := Lib.hid (Ok.trans Hwb.out (below_regrown wb dq osq))
        have z0n := Ok.cell (below_regrown wb dq osq) z0
        clear kz0 z0
        generalize Go.Sort.grow (redrawn wb dq) osq = wc at *
        have z0 := z0n
        clear z0n
        have kz0 := cell_regrown z0
        have HOW := Lib.hid (Ok.trans HK0.out Hwc.out)
        have HWC : Hid (W.heap.size ≤ wc.heap.size) := Lib.hid HOW.out.size
        have z1 : wc.cell? ⟨z, 1, none⟩ = some (.string vx) := Hwc.out.cell (by rw [cell_of_heap HZ0.out]; rfl)
        have HZR := Lib.hid (own_zeroR wc)
        have HOE : Hid (Ok wc (wc.alloc (.cells #[] 48))) := Lib.hid ((Ok.refl wc).alloc _)
        have i0 : (0 : Int) ≤ (k : Int) := Int.natCast_nonneg _
        have i2 : (k : Int) ≤ (c : Int) := by omega
        have i3 : k ≤ c := by omega
        have i4 : (k : Int) ≤ (n : Int) := by omega
        have i5 : k ≤ n := hk
        have HTK : Hid ((l.take k).length = k) := Lib.hid (by rw [List.length_take, HN.out]; omega)
        have HDL : Hid ((l.drop k).length = n - k) := Lib.hid (by rw [List.length_drop, HN.out])
        go_wp2_with (at_builtin; go_must (refine wpList_appRN rfl (.tmp 46) (.tmp 49) rfl wc.heap.size (some ⟨wc.heap.size, 0, none⟩) 0 0 [] rfl HZR.out A k c (l.take k) HTK.out rfl hA ((HR.out.ok (Ok.trans HOW.out HOE.out)).take k) (by omega) HOE.out.size ?_; intro A1 c1 w4 h4 g4; have HO4 : Hid (OwnR w4 wc.heap.size A1 k c1 (l.take k)) := Lib.hid (by have := h4; rwa [Nat.zero_add, List.nil_append] at this); have HK4 : Hid (Below wc.heap.size wc w4) := Lib.hid (Below.grown HOE.out g4 HOE.out.size (fun j e => (HZR.out.2.lt j e).1)); clear h4 g4))
        have HC4 : Hid (wc.heap.size ≤ w4.heap.size) := Lib.hid HK4.out.size
        have Z4 : Hid (w4.cell? ⟨z, 0, none⟩ = some (.string kx) ∧ w4.cell? ⟨z, 1, none⟩ = some (.string vx)) := Lib.hid ⟨Ok.cell HK4.out z0, Ok.cell HK4.out z1⟩
        clear kz0 z0 z1
        have HRL : Hid (∀ V, Below wc.heap.size wc V → RowsIn V (A.map (·.add (k * 2))) (l.drop k)) := Lib.hid fun V h => (HR.out.ok (Ok.trans HOW.out h)).drop k
        cases A with
        | none =>
          obtain rfl := hA rfl
          obtain rfl : k = 0 := by omega
          refine Until.begin (S := (fun _ => True)) (j := 2) (by kernel_rfl) ?_ ?_
          · exact trivial
          intro hS
          have HD : Hid (Ok w4 w4.drew) := Lib.hid ((Ok.refl w4).drew)
          generalize w4.drew = V0 at *
          have z0 := HD.out.cell Z4.out.1
          have z1 := HD.out.cell Z4.out.2
          refine Until.take0 (i := 0) (v := ?v0p1) rfl (by kernel_rfl) (by kernel_rfl) (by kernel_rfl) (by kernel_rfl) (fun _ _ _ h => h) (Or.inl ⟨by rfl, ?hy0p1⟩) (fun _ => hS) ?rest0p1
          case hy0p1 => ((intro w hSw); clear hSw; go_simp; (try with_reducible rfl))
          try go_frame
          refine Until.take0 (i := 4) (v := ?v4p1) rfl (by kernel_rfl) (by kernel_rfl) (by kernel_rfl) (by kernel_rfl) (fun _ _ _ h => h) (Or.inl ⟨by rfl, ?hy4p1⟩) (fun _ => hS) ?rest4p1
          case hy4p1 => ((intro w hSw); clear hSw; go_simp; (try with_reducible rfl))
          try go_frame
          refine Until.take0 (i := 5) (v := ?v5p1) rfl (by kernel_rfl) (by kernel_rfl) (by kernel_rfl) (by kernel_rfl) (fun _ _ _ h => h) (Or.inl ⟨by rfl, ?hy5p1⟩) (fun _ => hS) ?rest5p1
          case hy5p1 => ((intro w hSw); clear hSw; go_simp; (try with_reducible rfl))
          try go_frame
          refine Until.take0 (i := 6) (v := ?v6p1) rfl (by kernel_rfl) (by kernel_rfl) (by kernel_rfl) (by kernel_rfl) (fun _ _ _ h => h) (Or.inl ⟨by rfl, ?hy6p1⟩) (fun _ => hS) ?rest6p1
          case hy6p1 => ((intro w hSw); clear hSw; go_simp; (try with_reducible rfl))
          try go_frame
          refine Until.one (i := 1) (by kernel_rfl) rfl (fun K hK => ?_)
          have HK := Lib.hid hK
          clear hK
          go_simp
          refine HK.out.out _ _ (fun _ => hS) (fun _ => ?_)
          clear HK K
          try go_frame
          refine Until.one (i := 2) (by kernel_rfl) rfl (fun K hK => ?_)
          have HK := Lib.hid hK
          clear hK
          go_simp
          refine HK.out.out _ _ (fun h => absurd (h.symm.trans (by kernel_rfl : _ = true)) Bool.false_ne_true) (fun _ => ?_)
          clear HK K
          try go_frame
          refine Until.one (i := 3) (by kernel_rfl) rfl (fun K hK => ?_)
          have HK := Lib.hid hK
          clear hK
          have HOA : Hid (Ok V0 (V0.alloc (.cells #[.string kx, .string vx] 48))) := Lib.hid ((Ok.refl V0).alloc _)
          have HVB : Hid (RowsIn (V0.alloc (.cells #[.string kx, .string vx] 48)) (some ⟨V0.heap.size, 0, none⟩) [⟨kx, vx⟩]) := Lib.hid (RowsIn.one _ _ ⟨kx, vx⟩ (heap_alloc_new V0 _))
          refine step_appR rfl (.tmp 51) (.tmp 53) rfl wc.heap.size A1 0 c1 (l.take 0) rfl (HO4.out.ok (Ok.trans HD.out HOA.out)) (some ⟨V0.heap.size, 0, none⟩) 1 1 [⟨kx, vx⟩] rfl rfl (fun e => by cases e) HVB.out (by omega) (Nat.le_trans HC4.out (Ok.trans HD.out HOA.out).size) ?_
          intro A5 c5 w5 h5 g5
          have HO5 := Lib.hid h5
          have HK5 : Hid (Below wc.heap.size wc w5) := Lib.hid (Below.grown (Below.trans HK4.out (Below.mono (Ok.trans HD.out HOA.out) HC4.out)) g5 (Nat.le_trans HC4.out (Ok.trans HD.out HOA.out).size) (fun j e => (HO4.out.2.lt j e).1))
          clear h5 g5
          refine HK.out.out _ _ (fun h => absurd (h.symm.trans (by kernel_rfl : _ = true)) Bool.false_ne_true) (fun _ => ?_)
          clear HK K
          try go_frame
          refine Until.one (i := 7) (by kernel_rfl) rfl (fun K hK => ?_)
          have HK := Lib.hid hK
          clear hK
          refine step_appR rfl (.tmp 54) (.tmp 57) rfl wc.heap.size A5 (0 + 1) c5 (l.take 0 ++ [⟨kx, vx⟩]) rfl HO5.out (none) (0) (0) (l.drop 0) (by have := HDL.out; omega) rfl (fun _ => rfl) ((HRL.out _ HK5.out)) (by omega) HK5.out.size ?_
          intro A6 c6 w6 h6 g6
          have HO6 := Lib.hid h6
          have HK6 : Hid (Below wc.heap.size wc w6) := Lib.hid (Below.grown HK5.out g6 HK5.out.size (fun j e => (HO5.out.2.lt j e).1))
          clear h6 g6
          refine HK.out.out _ _ (fun h => absurd (h.symm.trans (by kernel_rfl : _ = true)) Bool.false_ne_true) (fun _ => ?_)
          clear HK K
          try go_frame
          refine Until.one (i := 8) (by kernel_rfl) rfl (fun K hK => ?_)
          have HK := Lib.hid hK
          clear hK
          go_simp
          refine HK.out.out _ _ (fun h => absurd (h.symm.trans (by kernel_rfl : _ = true)) Bool.false_ne_true) (fun _ => ?_)
          clear HK K
          try go_frame
          refine Until.done (by kernel_rfl) ?_ _
          go_wp2_with fail
          go_ret
          exact ⟨A6, _, c6, insR l 0 ⟨kx, vx⟩, rfl, ⟨0, HPL.out, by rw [HNF.out]; rfl⟩, by have := HO6.out; rw [List.append_assoc] at this; exact this.mono HWC.out, Below.trans HOW.out (HK6.out.mono HWC.out)⟩
        | some ad =>
          by_cases hck : c = k
          · subst hck
            have hnc : n = c := by omega
            have e1 : n - c = 0 := by omega
            have e2 : c - c = 0 := by omega
            refine Until.begin (S := (fun _ => True)) (j := 2) (by kernel_rfl) ?_ ?_
            · exact trivial
            intro hS
            have HD : Hid (Ok w4 w4.drew) := Lib.hid ((Ok.refl w4).drew)
            generalize w4.drew = V0 at *
            have z0 := HD.out.cell Z4.out.1
            have z1 := HD.out.cell Z4.out.2
            refine Until.take0 (i := 0) (v := ?v0p2) rfl (by kernel_rfl) (by kernel_rfl) (by kernel_rfl) (by kernel_rfl) (fun _ _ _ h => h) (Or.inl ⟨by rfl, ?hy0p2⟩) (fun _ => hS) ?rest0p2
            case hy0p2 => ((intro w hSw); clear hSw; go_simp; (try with_reducible rfl))
            try go_frame
            refine Until.take0 (i := 4) (v := ?v4p2) rfl (by kernel_rfl) (by kernel_rfl) (by kernel_rfl) (by kernel_rfl) (fun _ _ _ h => h) (Or.inl ⟨by rfl, ?hy4p2⟩) (fun _ => hS) ?rest4p2
            case hy4p2 => ((intro w hSw); clear hSw; go_simp; (try with_reducible rfl))
            try go_frame
            refine Until.take0 (i := 5) (v := ?v5p2) rfl (by kernel_rfl) (by kernel_rfl) (by kernel_rfl) (by kernel_rfl) (fun _ _ _ h => h) (Or.inl ⟨by rfl, ?hy5p2⟩) (fun _ => hS) ?rest5p2
            case hy5p2 => ((intro w hSw); clear hSw; go_simp; (try with_reducible rfl))
            try go_frame
            refine Until.take0 (i := 6) (v := ?v6p2) rfl (by kernel_rfl) (by kernel_rfl) (by kernel_rfl) (by kernel_rfl) (fun _ _ _ h => h) (Or.inl ⟨by rfl, ?hy6p2⟩) (fun _ => hS) ?rest6p2
            case hy6p2 => ((intro w hSw); clear hSw; go_simp; (try with_reducible rfl))
            try go_frame
            refine Until.one (i := 1) (by kernel_rfl) rfl (fun K hK => ?_)
            have HK := Lib.hid hK
            clear hK
            go_simp
            refine HK.out.out _ _ (fun _ => hS) (fun _ => ?_)
            clear HK K
            try go_frame
            refine Until.one (i := 2) (by kernel_rfl) rfl (fun K hK => ?_)
            have HK := Lib.hid hK
            clear hK
            go_simp
            refine HK.out.out _ _ (fun h => absurd (h.symm.trans (by kernel_rfl : _ = true)) Bool.false_ne_true) (fun _ => ?_)
            clear HK K
            try go_frame
            refine Until.one (i := 3) (by kernel_rfl) rfl (fun K hK => ?_)
            have HK := Lib.hid hK
            clear hK
            have HOA : Hid (Ok V0 (V0.alloc (.cells #[.string kx, .string vx] 48))) := Lib.hid ((Ok.refl V0).alloc _)
            have HVB : Hid (RowsIn (V0.alloc (.cells #[.string kx, .string vx] 48)) (some ⟨V0.heap.size, 0, none⟩) [⟨kx, vx⟩]) := Lib.hid (RowsIn.one _ _ ⟨kx, vx⟩ (heap_alloc_new V0 _))
            refine step_appR rfl (.tmp 51) (.tmp 53) rfl wc.heap.size A1 c c1 (l.take c) rfl (HO4.out.ok (Ok.trans HD.out HOA.out)) (some ⟨V0.heap.size, 0, none⟩) 1 1 [⟨kx, vx⟩] rfl rfl (fun e => by cases e) HVB.out (by omega) (Nat.le_trans HC4.out (Ok.trans HD.out HOA.out).size) ?_
            intro A5 c5 w5 h5 g5
            have HO5 := Lib.hid h5
            have HK5 : Hid (Below wc.heap.size wc w5) := Lib.hid (Below.grown (Below.trans HK4.out (Below.mono (Ok.trans HD.out HOA.out) HC4.out)) g5 (Nat.le_trans HC4.out (Ok.trans HD.out HOA.out).size) (fun j e => (HO4.out.2.lt j e).1))
            clear h5 g5
            refine HK.out.out _ _ (fun h => absurd (h.symm.trans (by kernel_rfl : _ = true)) Bool.false_ne_true) (fun _ => ?_)
            clear HK K
            try go_frame
            refine Until.one (i := 7) (by kernel_rfl) rfl (fun K hK => ?_)
            have HK := Lib.hid hK
            clear hK
            refine step_appR rfl (.tmp 54) (.tmp 57) rfl wc.heap.size A5 (c + 1) c5 (l.take c ++ [⟨kx, vx⟩]) rfl HO5.out (some ad) (0) (0) (l.drop c) (by have := HDL.out; omega) rfl (fun e => by cases e) ((fun j hj => absurd hj (by rw [HDL.out]; omega))) (by omega) HK5.out.size ?_
            intro A6 c6 w6 h6 g6
            have HO6 := Lib.hid h6
            have HK6 : Hid (Below wc.heap.size wc w6) := Lib.hid (Below.grown HK5.out g6 HK5.out.size (fun j e => (HO5.out.2.lt j e).1))
            clear h6 g6
            refine HK.out.out _ _ (fun h => absurd (h.symm.trans (by kernel_rfl : _ = true)) Bool.false_ne_true) (fun _ => ?_)
            clear HK K
            try go_frame
            refine Until.one (i := 8) (by kernel_rfl) rfl (fun K hK => ?_)
            have HK := Lib.hid hK
            clear hK
            go_simp
            refine HK.out.out _ _ (fun h => absurd (h.symm.trans (by kernel_rfl : _ = true)) Bool.false_ne_true) (fun _ => ?_)
            clear HK K
            try go_frame
            refine Until.done (by kernel_rfl) ?_ _
            go_wp2_with fail
            go_ret
            exact ⟨A6, _, c6, insR l c ⟨kx, vx⟩, rfl, ⟨c, HPL.out, by rw [HNF.out]; rfl⟩, by have := HO6.out; rw [List.append_assoc] at this; exact this.mono HWC.out, Below.trans HOW.out (HK6.out.mono HWC.out)⟩
          · have hck2 : ¬ k = c := fun e => hck e.symm
            refine Until.begin (S := (fun _ => True)) (j := 2) (by kernel_rfl) ?_ ?_
            · exact trivial
            intro hS
            have HD : Hid (Ok w4 w4.drew) := Lib.hid ((Ok.refl w4).drew)
            generalize w4.drew = V0 at *
            have z0 := HD.out.cell Z4.out.1
            have z1 := HD.out.cell Z4.out.2
            refine Until.take0 (i := 0) (v := ?v0p3) rfl (by kernel_rfl) (by kernel_rfl) (by kernel_rfl) (by kernel_rfl) (fun _ _ _ h => h) (Or.inl ⟨by rfl, ?hy0p3⟩) (fun _ => hS) ?rest0p3
            case hy0p3 => ((intro w hSw); clear hSw; go_simp; (try with_reducible rfl))
            try go_frame
            refine Until.take0 (i := 4) (v := ?v4p3) rfl (by kernel_rfl) (by kernel_rfl) (by kernel_rfl) (by kernel_rfl) (fun _ _ _ h => h) (Or.inl ⟨by rfl, ?hy4p3⟩) (fun _ => hS) ?rest4p3
            case hy4p3 => ((intro w hSw); clear hSw; go_simp; (try with_reducible rfl))
            try go_frame
            refine Until.take0 (i := 5) (v := ?v5p3) rfl (by kernel_rfl) (by kernel_rfl) (by kernel_rfl) (by kernel_rfl) (fun _ _ _ h => h) (Or.inl ⟨by rfl, ?hy5p3⟩) (fun _ => hS) ?rest5p3
            case hy5p3 => ((intro w hSw); clear hSw; go_simp; (try with_reducible rfl))
            try go_frame
            refine Until.take0 (i := 6) (v := ?v6p3) rfl (by kernel_rfl) (by kernel_rfl) (by kernel_rfl) (by kernel_rfl) (fun _ _ _ h => h) (Or.inl ⟨by rfl, ?hy6p3⟩) (fun _ => hS) ?rest6p3
            case hy6p3 => ((intro w hSw); clear hSw; go_simp; (try with_reducible rfl))
            try go_frame
            refine Until.one (i := 1) (by kernel_rfl) rfl (fun K hK => ?_)
            have HK := Lib.hid hK
            clear hK
            go_simp
            refine HK.out.out _ _ (fun _ => hS) (fun _ => ?_)
            clear HK K
            try go_frame
            refine Until.one (i := 2) (by kernel_rfl) rfl (fun K hK => ?_)
            have HK := Lib.hid hK
            clear hK
            go_simp
            refine HK.out.out _ _ (fun h => absurd (h.symm.trans (by kernel_rfl : _ = true)) Bool.false_ne_true) (fun _ => ?_)
            clear HK K
            try go_frame
            refine Until.one (i := 3) (by kernel_rfl) rfl (fun K hK => ?_)
            have HK := Lib.hid hK
            clear hK
            have HOA : Hid (Ok V0 (V0.alloc (.cells #[.string kx, .string vx] 48))) := Lib.hid ((Ok.refl V0).alloc _)
            have HVB : Hid (RowsIn (V0.alloc (.cells #[.string kx, .string vx] 48)) (some ⟨V0.heap.size, 0, none⟩) [⟨kx, vx⟩]) := Lib.hid (RowsIn.one _ _ ⟨kx, vx⟩ (heap_alloc_new V0 _))
            refine step_appR rfl (.tmp 51) (.tmp 53) rfl wc.heap.size A1 k c1 (l.take k) rfl (HO4.out.ok (Ok.trans HD.out HOA.out)) (some ⟨V0.heap.size, 0, none⟩) 1 1 [⟨kx, vx⟩] rfl rfl (fun e => by cases e) HVB.out (by omega) (Nat.le_trans HC4.out (Ok.trans HD.out HOA.out).size) ?_
            intro A5 c5 w5 h5 g5
            have HO5 := Lib.hid h5
            have HK5 : Hid (Below wc.heap.size wc w5) := Lib.hid (Below.grown (Below.trans HK4.out (Below.mono (Ok.trans HD.out HOA.out) HC4.out)) g5 (Nat.le_trans HC4.out (Ok.trans HD.out HOA.out).size) (fun j e => (HO4.out.2.lt j e).1))
            clear h5 g5
            refine HK.out.out _ _ (fun h => absurd (h.symm.trans (by kernel_rfl : _ = true)) Bool.false_ne_true) (fun _ => ?_)
            clear HK K
            try go_frame
            refine Until.one (i := 7) (by kernel_rfl) rfl (fun K hK => ?_)
            have HK := Lib.hid hK
            clear hK
            refine step_appR rfl (.tmp 54) (.tmp 57) rfl wc.heap.size A5 (k + 1) c5 (l.take k ++ [⟨kx, vx⟩]) rfl HO5.out (some (ad.add (k * 2))) (n - k) (c - k) (l.drop k) (by have := HDL.out; omega) rfl (fun e => by cases e) ((HRL.out _ HK5.out)) (by omega) HK5.out.size ?_
            intro A6 c6 w6 h6 g6
            have HO6 := Lib.hid h6
            have HK6 : Hid (Below wc.heap.size wc w6) := Lib.hid (Below.grown HK5.out g6 HK5.out.size (fun j e => (HO5.out.2.lt j e).1))
            clear h6 g6
            refine HK.out.out _ _ (fun h => absurd (h.symm.trans (by kernel_rfl : _ = true)) Bool.false_ne_true) (fun _ => ?_)
            clear HK K
            try go_frame
            refine Until.one (i := 8) (by kernel_rfl) rfl (fun K hK => ?_)
            have HK := Lib.hid hK
            clear hK
            go_simp
            refine HK.out.out _ _ (fun h => absurd (h.symm.trans (by kernel_rfl : _ = true)) Bool.false_ne_true) (fun _ => ?_)
            clear HK K
            try go_frame
            refine Until.done (by kernel_rfl) ?_ _
            go_wp2_with fail
            go_ret
            exact ⟨A6, _, c6, insR l k ⟨kx, vx⟩, rfl, ⟨k, HPL.out, by rw [HNF.out]; rfl⟩, by have := HO6.out; rw [List.append_assoc] at this; exact this.mono HWC.out, Below.trans HOW.out (HK6.out.mono HWC.out)⟩
end Go.Proofs.YtebhcadolnjplaaGreat
