/- Pieces of no bytes taken out. -/
import Derived.Test.YtfchjdhjbepocaaMw
namespace Go.Proofs.Ytfchjdhjbepocaa
open Go Go.RowKit

set_option maxRecDepth 100000 in
set_option maxHeartbeats 2000000 in
theorem cloZ_f (km : Str) (vm : Nat) (w : World) :
    Calls Try.prog 111 #[.agg #[.string km, .int .i64 (vm : Int)]] w (Ret w (.bool (zB (km, vm)))) := by
  obtain ⟨q, hq⟩ : ∃ q, w.heap.size = q := ⟨_, rfl⟩
  have HO : Hid (Ok w (w.alloc (.cells #[.string km, .int .i64 (vm : Int)] 105))) := Lib.hid ((Ok.refl w).alloc _)
  have HC : Hid ((w.alloc (.cells #[.string km, .int .i64 (vm : Int)] 105)).cell? ⟨q, 1, none⟩ = some (.int .i64 (vm : Int))) := Lib.hid (by rw [← hq]; exact (two_new w _ _ _).2)
  have HE : Hid (((vm : Int) == 0) = zB (km, vm)) := Lib.hid (by
    unfold zB
    by_cases e : vm = 0
    · subst e; rfl
    · rw [beq_eq_false_iff_ne.2 (by omega), decide_eq_false e])
  generalize zB (km, vm) = rb at *
  go_enter Try.func111, Try.ntmps111
  go_upto_region 1 with fail
  clear hq
  generalize w.alloc (.cells #[.string km, .int .i64 (vm : Int)] 105) = w0 at *
  have k0 := HC.out
  go_wp2_with fail
  go_ret
  exact ⟨by rw [← HE.out]; first | rfl | simp, HO.out⟩
theorem call111 (args : Array Value) (w : World) : (callFunc 111 args).run Try.prog w = .ok (.enter 111 args) w := by
  have hn : ¬ Try.f111.name = "runtime.NumGoroutine" := by decide
  have hb : ¬ Try.f111.body = none := fun h => by
    have h2 : Try.f111.body.isNone = false := by kernel_rfl
    rw [h] at h2; cases h2
  simp [callFunc, go_sem, hn, hb]
set_option maxRecDepth 100000 in
set_option maxHeartbeats 4000000 in
theorem idxZ_f  (A : Option Addr) (n c : Nat) (l : List Pc) (W : World) (h : OwnQ W A n c l) (hn6 : n ≤ 1000000)  :
    Calls Try.prog 132 #[.slice A n c, .func (.func 111) #[] #[]] W (IdxP zB n l W) := by
  have HI := Lib.hid h
  have HN := Lib.hid h.1
  have hcall := call111
  clear h
  go_enter Try.func132, Try.ntmps132
  go_wp2_with fail
  go_loopw [5, 8] (fun _ v wr => ∃ k : Nat, k ≤ n ∧ v = .int .i64 k ∧ (∀ j, j < k → zB (pcA l j) = false) ∧ Ok W wr) (fun _ v _ => n - (intOf v).toNat)
  case atStart => exact ⟨0, Nat.zero_le _, rfl, fun j hj => absurd hj (Nat.not_lt_zero _), Ok.refl _⟩
  case round =>
    obtain ⟨k, hk, rfl, hb, okr⟩ := hrel
    have HB := Lib.hid hb
    have HOK := Lib.hid okr
    clear hb okr
    by_cases hlt : k < n
    · have d1 : decide (k < n) = true := decide_eq_true hlt
      obtain ⟨g, rfl, c0, c1⟩ := (HI.out.ok HOK.out).at k hlt
      have hf := cloZ_f  (pcA l k).1 (pcA l k).2 wr 
      have HNX : Hid (zB (pcA l k) = false → ∀ j, j < k + 1 → zB (pcA l j) = false) := Lib.hid fun q j hj => by
        by_cases hjk : j < k
        · exact HB.out j hjk
        · obtain rfl : j = k := by omega
          exact q
      have HFA : Hid (zB (pcA l k) = true → ∃ k' : Nat, k' < n ∧ (k : Int) = (k' : Int) ∧ zB (pcA l k') = true ∧ ∀ j, j < k' → zB (pcA l j) = false) := Lib.hid fun q => ⟨k, hlt, rfl, q, HB.out⟩
      have hi0 : (0 : Int) ≤ (k : Int) := Int.natCast_nonneg _
      have hi1 : (k : Int) < (n : Int) := by omega
      generalize zB (pcA l k) = rb at *
      generalize (pcA l k).1 = km at *
      generalize (pcA l k).2 = vm at *
      go_wp2_with fail
      refine hf.mono ?_
      clear hf c0 c1
      rintro _ w1 ⟨rfl, o1⟩
      have HO1 := Lib.hid (HOK.out.trans o1)
      clear o1
      cases rb with
      | false =>
        go_wp2_with fail
        refine ⟨⟨k + 1, hlt, rfl, HNX.out (by simp), HO1.out⟩, ?_⟩
        show n - ((k : Int) + 1).toNat < n - (k : Int).toNat
        omega
      | true =>
        go_wp2_with fail
        go_ret
        exact ⟨_, rfl, HO1.out, .inr (HFA.out (by simp))⟩
    · have d1 : decide (k < n) = false := decide_eq_false hlt
      obtain rfl : k = n := by omega
      go_wp2_with fail
      go_ret
      exact ⟨_, rfl, HOK.out, .inl ⟨rfl, HB.out⟩⟩
set_option maxRecDepth 100000 in
set_option maxHeartbeats 4000000 in
theorem delZ_f  (A : Option Addr) (n c : Nat) (l : List Pc) (w : World) (hI : OwnQ w A n c l) (hn6 : n ≤ 1000000)   :
    Calls Try.prog 109 #[.slice A n c, .func (.func 111) #[] #[]] w (DelP A n c (stay zB l) w) := by
  have hix := idxZ_f  A n c l w hI hn6 
  have HI := Lib.hid hI
  have HN := Lib.hid hI.1
  have hcall := call111
  have HKN := Lib.hid (stay_len zB l n hI.1)
  clear hI 
  go_enter Try.func109, Try.ntmps109
  go_wp2_with fail
  refine hix.mono ?_
  clear hix
  rintro _ w1 ⟨R, rfl, o1, hx⟩
  have HI1 := Lib.hid (HI.out.ok o1)
  have HO1 := Lib.hid o1
  clear o1 HI
  rcases hx with ⟨rfl, hall⟩ | ⟨k0, hk0, rfl, hq0, hall⟩
  · have HALL := Lib.hid hall
    clear hall
    go_wp2_with fail
    go_ret
    have e : stay zB l = l := by rw [← HKN.out, stay_all zB l n (by rw [HN.out]; exact Nat.le_refl _) HALL.out, List.take_of_length_le (by rw [HN.out]; exact Nat.le_refl _)]
    rw [e]
    exact ⟨by rw [HN.out]; rfl, by rw [HN.out]; exact HI1.out, grown_ok HO1.out⟩
  · obtain ⟨g, hg⟩ : ∃ g, A = some ⟨g, 0, none⟩ := by
      rcases HI1.out.nc with ⟨_, h0, _⟩ | q
      · omega
      · exact q
    subst hg
    have HD : Hid (DelQ zB l g n c (k0 + 1) k0 w w1 l) := Lib.hid (by
      have ek := stay_all zB l k0 (by rw [HN.out]; omega) hall
      have es := stay_succ zB l k0 (by rw [HN.out]; omega)
      rw [hq0, if_pos rfl, List.append_nil] at es
      exact ⟨hk0, Nat.lt_succ_self _, HN.out, by rw [es, ek, List.length_take, HN.out]; omega, by rw [es, ek], fun _ _ => .inl rfl, HI1.out, grown_ok HO1.out⟩)
    have HF2 : Hid (∀ (km : Str) (vm : Nat) w', w.grownBy w' (some g) → Calls Try.prog 111 #[.agg #[.string km, .int .i64 (vm : Int)]] w' (Ret w' (.bool (zB (km, vm))))) := Lib.hid fun km vm w' k =>
      cloZ_f  km vm w' 
    have hne : ((k0 : Int) == -1) = false := beq_eq_false_iff_ne.2 (by omega)
    clear hall hq0 HI1
    go_wp2_with fail
    go_loopw [5, 6, 7] (fun i j _ wr => ∃ (m k : Nat) (ys : List Pc), i = .int .i64 k ∧ j = .int .i64 m ∧ DelQ zB l g n c m k w wr ys) (fun _ j _ _ => n - (intOf j).toNat)
    case atStart => exact ⟨k0 + 1, k0, l, rfl, by push_cast; rfl, HD.out⟩
    case round =>
      obtain ⟨m, k, ys, rfl, rfl, hd⟩ := hrel
      have HDR := Lib.hid hd
      have b1 := hd.le
      have b2 := hd.lt
      clear hd
      by_cases hlt : m < n
      · have d1 : decide (m < n) = true := decide_eq_true hlt
        have hcell := HDR.out.own.cell2 m hlt
        rw [show pcA ys m = pcA l m from (HDR.out.high m (by omega)).resolve_right (by omega)] at hcell
        obtain ⟨x0, x1⟩ := hcell
        have HSK := Lib.hid (fun (w' : World) (o : Ok wr w') => (HDR.out.ok o).skip HN.out hlt)
        have HKE := Lib.hid (fun (w' : World) (o : Ok wr w') => (HDR.out.ok o).keep HN.out hlt)
        have HST : Hid (∀ w' : World, Ok wr w' → (∃ u, w'.cell? ⟨g, k * 2, none⟩ = some u) ∧ (∃ u, w'.cell? ⟨g, k * 2 + 1, none⟩ = some u) ∧ w'.frozen? ⟨g, k * 2, none⟩ = false ∧ w'.frozen? ⟨g, k * 2 + 1, none⟩ = false) := Lib.hid fun w' o =>
          ⟨⟨_, ((HDR.out.ok o).own.cell2 k (by omega)).1⟩, ⟨_, ((HDR.out.ok o).own.cell2 k (by omega)).2⟩, (HDR.out.ok o).own.froz _, (HDR.out.ok o).own.froz _⟩
        obtain ⟨hb, hhb⟩ : ∃ hb, zB (pcA l m) = hb := ⟨_, rfl⟩
        rw [hhb] at HSK HKE
        have hhb2 : zB ((pcA l m).1, (pcA l m).2) = hb := hhb
        clear hhb
        generalize (pcA l m).1 = km at *
        generalize (pcA l m).2 = vm at *
        have hi0 : (0 : Int) ≤ (m : Int) := Int.natCast_nonneg _
        have hi1 : (m : Int) < (n : Int) := by omega
        have hk0' : (0 : Int) ≤ (k : Int) := Int.natCast_nonneg _
        have hk1 : (k : Int) < (n : Int) := by omega
        have e1 : IntKind.i64.wrap ((m : Int) + 1) = (m : Int) + 1 := IntWalk.i64_in _ (by omega)
        have e2 : IntKind.i64.wrap ((k : Int) + 1) = (k : Int) + 1 := IntWalk.i64_in _ (by omega)
        obtain ⟨q, hq⟩ : ∃ q, wr.heap.size = q := ⟨_, rfl⟩
        have HQC : Hid ((wr.alloc (.cells #[.string km, .int .i64 (vm : Int)] 105)).cell? ⟨q, 0, none⟩ = some (.string km) ∧ (wr.alloc (.cells #[.string km, .int .i64 (vm : Int)] 105)).cell? ⟨q, 1, none⟩ = some (.int .i64 (vm : Int))) := Lib.hid (by rw [← hq]; exact two_new wr _ _ _)
        have HZ : Hid (Ok wr (wr.alloc (.cells #[.string km, .int .i64 (vm : Int)] 105))) := Lib.hid ((Ok.refl wr).alloc _)
        have hf := HF2.out km vm _ (grown_trans HDR.out.kp (grown_ok HZ.out))
        rw [hhb2] at hf
        clear hhb2
        go_upto_region 8 with fail
        clear hq x0 x1
        generalize wr.alloc (.cells #[.string km, .int .i64 (vm : Int)] 105) = w0 at *
        have q0 := HQC.out.1
        have q1 := HQC.out.2
        go_wp2_with fail
        refine hf.mono ?_
        clear hf q0 q1
        rintro _ w2 ⟨rfl, o2⟩
        have HO2 : Hid (Ok wr w2) := Lib.hid (HZ.out.trans o2)
        have q0 := o2.cell HQC.out.1
        have q1 := o2.cell HQC.out.2
        clear o2 HZ HQC
        cases hb with
        | true =>
          have HSK2 := Lib.hid (HSK.out w2 HO2.out rfl)
          go_wp2_with fail
          refine ⟨⟨m + 1, k, ys, rfl, by push_cast; rfl, HSK2.out⟩, ?_⟩
          show n - ((m : Int) + 1).toNat < n - (m : Int).toNat
          omega
        | false =>
          have HKE2 := Lib.hid (HKE.out w2 HO2.out rfl)
          obtain ⟨⟨u0, y0⟩, ⟨u1, y1⟩, f0, f1⟩ := HST.out w2 HO2.out
          go_wp2_with fail
          refine ⟨⟨m + 1, k + 1, _, by push_cast; rfl, by push_cast; rfl, HKE2.out⟩, ?_⟩
          show n - ((m : Int) + 1).toNat < n - (m : Int).toNat
          omega
      · have d1 : decide (m < n) = false := decide_eq_false hlt
        obtain rfl : m = n := by omega
        have hcap : m ≤ c := by
          rcases HDR.out.own.2.2 with ⟨e, _⟩ | ⟨g', cap, cur, e, _, _, h1, _⟩
          · cases e
          · simp only [Value.slice.injEq] at e
            omega
        obtain ⟨cur, hg, hcl0⟩ : ∃ cur : List Value, wr.heap[g]? = some (.cells cur.toArray 105 (0, 0)) ∧ m * 2 ≤ cur.length := by
          rcases HDR.out.own.2.2 with ⟨e, _⟩ | ⟨g', cap, cur, e, _, hg, h1, _, h3, _⟩
          · cases e
          · simp only [Value.slice.injEq, Option.some.injEq, Addr.mk.injEq] at e
            obtain ⟨⟨rfl, -, -⟩, -, rfl⟩ := e
            exact ⟨cur.toList, by simpa using hg, by rw [Array.length_toList, h3]; omega⟩
        have hcl := fun ty => run_clear_pcs wr ty g (k * 2) (m - k) (c - k) cur 105 (by omega) hg (by omega)
        have HCUT := Lib.hid (HDR.out.own.cut k (by omega) cur hg (Builtin.zeroCells (Value.agg #[.string ⟨#[]⟩, .int .i64 0]).cells (m - k)).toList (by rw [Array.length_toList]; exact zeros_len _))
        clear hg hcl0
        generalize (Builtin.zeroCells (Value.agg #[.string ⟨#[]⟩, .int .i64 0]).cells (m - k)).toList = ZZ at *
        have HGR := Lib.hid (grown_setRow wr g (splice cur (k * 2) ZZ).toArray)
        generalize wr.setRow g (splice cur (k * 2) ZZ).toArray = w9 at *
        go_wp2
        go_ret
        rw [← HKN.out]
        refine ⟨by rw [HDR.out.cnt]; rfl, ?_, grown_trans HDR.out.kp HGR.out⟩
        rw [HDR.out.cnt, ← HDR.out.low]
        exact HCUT.out
end Go.Proofs.Ytfchjdhjbepocaa
