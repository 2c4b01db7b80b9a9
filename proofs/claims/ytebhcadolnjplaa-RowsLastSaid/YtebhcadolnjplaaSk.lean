/- Rows: DeleteFunc. -/
import Derived.Test.YtebhcadolnjplaaSj
namespace Go.Proofs.Ytebhcadolnjplaa
open Go.RowKit

theorem stay_len (s : Sp) (l : List Rw) (n : Nat) (hn : l.length = n) : stay s (l.take n) = stay s l := by rw [List.take_of_length_le (by omega)]
set_option maxRecDepth 100000 in
set_option maxHeartbeats 4000000 in
theorem delR_f (s : Sp) (z B : Nat) (A : Option Addr) (n c : Nat) (l : List Rw) (w : World) (hI : OwnR w B A n c l) (hn6 : n ≤ 1000000) (z0 : w.cell? ⟨z, 0, none⟩ = some (.string s.lo)) (z1 : w.cell? ⟨z, 1, none⟩ = some (.string s.hi)) (hz : ∀ a, A = some a → z ≠ a.block) :
    Calls Try.prog 138 #[.slice A n c, .func (.func 137) #[] #[.pointer (some ⟨z, 0, none⟩)]] w (DelRP B A n c (stay s l) w) := by
  have hix := idxIn_f s z A n c l w hI.1 hn6 hI.rows z0 z1
  have HI := Lib.hid hI
  have HN := Lib.hid hI.1
  have HZ0 := Lib.hid z0
  have HZ1 := Lib.hid z1
  have HZN := Lib.hid hz
  have hcall := call137
  have HKN := Lib.hid (stay_len s l n hI.1)
  clear hI z0 z1 hz
  go_enter Try.func138, Try.ntmps138
  go_wp2_with fail
  refine hix.mono ?_
  clear hix
  rintro _ w1 ⟨R, rfl, o1, hx⟩
  have HI1 := Lib.hid (HI.out.ok o1)
  have HO1 := Lib.hid o1
  clear o1 HI
  rcases hx with ⟨rfl, hall⟩ | ⟨k0, hk0, rfl, hq0, hall⟩
  · have HALL := Lib.hid hall
    clear hall
    go_wp2_with fail
    go_ret
    have e : stay s l = l := by rw [← HKN.out, stay_all s l n (by rw [HN.out]; exact Nat.le_refl _) HALL.out, List.take_of_length_le (by rw [HN.out]; exact Nat.le_refl _)]
    rw [e]
    exact ⟨by rw [HN.out]; rfl, by rw [HN.out]; exact HI1.out, grown_ok HO1.out⟩
  · obtain ⟨g, hg⟩ : ∃ g, A = some ⟨g, 0, none⟩ := by
      rcases HI1.out.nc with ⟨_, h0, _⟩ | q
      · omega
      · exact q
    subst hg
    have HD : Hid (DelR s l B g n c (k0 + 1) k0 w w1 l) := Lib.hid (by
      have ek := stay_all s l k0 (by rw [HN.out]; omega) hall
      have es := stay_succ s l k0 (by rw [HN.out]; omega)
      rw [hq0, if_pos rfl, List.append_nil] at es
      exact ⟨hk0, Nat.lt_succ_self _, HN.out, by rw [es, ek, List.length_take, HN.out]; omega, by rw [es, ek], fun _ _ => rfl, HI1.out, grown_ok HO1.out⟩)
    have HF2 : Hid (∀ km vm w', w.grownBy w' (some g) → Calls Try.prog 137 #[.agg #[.string km, .string vm], .pointer (some ⟨z, 0, none⟩)] w' (Ret w' (.bool (hasB s km)))) := Lib.hid fun km vm w' k =>
      in1_f s z km vm w' (k.cell HZ0.out (fun e => HZN.out _ rfl (by simpa using e))) (k.cell HZ1.out (fun e => HZN.out _ rfl (by simpa using e)))
    have hne : ((k0 : Int) == -1) = false := beq_eq_false_iff_ne.2 (by omega)
    clear hall hq0 HI1
    go_wp2_with fail
    go_loopw [5, 6, 7] (fun i j _ wr => ∃ (m k : Nat) (ys : List Rw), i = .int .i64 k ∧ j = .int .i64 m ∧ DelR s l B g n c m k w wr ys) (fun _ j _ _ => n - (intOf j).toNat)
    case atStart => exact ⟨k0 + 1, k0, l, rfl, by push_cast; rfl, HD.out⟩
    case round =>
      obtain ⟨m, k, ys, rfl, rfl, hd⟩ := hrel
      have HDR := Lib.hid hd
      have b1 := hd.le
      have b2 := hd.lt
      clear hd
      by_cases hlt : m < n
      · have d1 : decide ((m : Int) < (n : Int)) = true := decide_eq_true (by omega)
        have hcell := HDR.out.own.cell2 m hlt
        rw [HDR.out.high m (by omega)] at hcell
        obtain ⟨x0, x1⟩ := hcell
        have HSK := Lib.hid (fun (w' : World) (o : Ok wr w') => (HDR.out.ok o).skip HN.out hlt)
        have HKE := Lib.hid (fun (w' : World) (o : Ok wr w') => (HDR.out.ok o).keep HN.out hlt)
        have HST : Hid (∀ w' : World, Ok wr w' → (∃ u, w'.cell? ⟨g, k * 2, none⟩ = some u) ∧ (∃ u, w'.cell? ⟨g, k * 2 + 1, none⟩ = some u) ∧ w'.frozen? ⟨g, k * 2, none⟩ = false ∧ w'.frozen? ⟨g, k * 2 + 1, none⟩ = false) := Lib.hid fun w' o =>
          ⟨⟨_, ((HDR.out.ok o).own.cell2 k (by omega)).1⟩, ⟨_, ((HDR.out.ok o).own.cell2 k (by omega)).2⟩, (HDR.out.ok o).own.froz _, (HDR.out.ok o).own.froz _⟩
        obtain ⟨hb, hhb⟩ : ∃ hb, hasB s (rwA l m).key = hb := ⟨_, rfl⟩
        rw [hhb] at HSK HKE
        generalize (rwA l m).key = km at *
        generalize (rwA l m).val = vm at *
        have hi0 : (0 : Int) ≤ (m : Int) := Int.natCast_nonneg _
        have hi1 : (m : Int) < (n : Int) := by omega
        have hk0' : (0 : Int) ≤ (k : Int) := Int.natCast_nonneg _
        have hk1 : (k : Int) < (n : Int) := by omega
        have e1 : IntKind.i64.wrap ((m : Int) + 1) = (m : Int) + 1 := IntWalk.i64_in _ (by omega)
        have e2 : IntKind.i64.wrap ((k : Int) + 1) = (k : Int) + 1 := IntWalk.i64_in _ (by omega)
        obtain ⟨q, hq⟩ : ∃ q, wr.heap.size = q := ⟨_, rfl⟩
        have HQC : Hid ((wr.alloc (.cells #[.string km, .string vm] 105)).cell? ⟨q, 0, none⟩ = some (.string km) ∧ (wr.alloc (.cells #[.string km, .string vm] 105)).cell? ⟨q, 1, none⟩ = some (.string vm)) := Lib.hid (by rw [← hq]; exact two_new wr _ _ _)
        have HZ : Hid (Ok wr (wr.alloc (.cells #[.string km, .string vm] 105))) := Lib.hid ((Ok.refl wr).alloc _)
        have hf := HF2.out km vm _ (grown_trans HDR.out.kp (grown_ok HZ.out))
        rw [hhb] at hf
        clear hhb
        go_upto_region 8 with fail
        clear hq x0 x1
        generalize wr.alloc (.cells #[.string km, .string vm] 105) = w0 at *
        have q0 := HQC.out.1
        have q1 := HQC.out.2
        go_wp2_with fail
        refine hf.mono ?_
        clear hf q0 q1
        rintro _ w2 ⟨rfl, o2⟩
        have HO2 : Hid (Ok wr w2) := Lib.hid (HZ.out.trans o2)
        have q0 := o2.cell HQC.out.1
        have q1 := o2.cell HQC.out.2
        clear o2 HZ HQC
        cases hb with
        | true =>
          have HSK2 := Lib.hid (HSK.out w2 HO2.out rfl)
          go_wp2_with fail
          refine ⟨⟨m + 1, k, ys, rfl, by push_cast; rfl, HSK2.out⟩, ?_⟩
          show n - ((m : Int) + 1).toNat < n - (m : Int).toNat
          omega
        | false =>
          have HKE2 := Lib.hid (HKE.out w2 HO2.out rfl)
          obtain ⟨⟨u0, y0⟩, ⟨u1, y1⟩, f0, f1⟩ := HST.out w2 HO2.out
          go_wp2_with fail
          refine ⟨⟨m + 1, k + 1, _, by push_cast; rfl, by push_cast; rfl, HKE2.out⟩, ?_⟩
          show n - ((m : Int) + 1).toNat < n - (m : Int).toNat
          omega
      · have d1 : decide ((m : Int) < (n : Int)) = false := decide_eq_false (by omega)
        obtain rfl : m = n := by omega
        have hcap : m ≤ c := by
          rcases HDR.out.own.2.2 with ⟨e, _⟩ | ⟨g', cap, cur, e, _, _, h1, _⟩
          · cases e
          · simp only [Value.slice.injEq] at e
            omega
        obtain ⟨cur, hg, hcl0⟩ : ∃ cur : List Value, wr.heap[g]? = some (.cells cur.toArray 105 (0, 0)) ∧ m * 2 ≤ cur.length := by
          rcases HDR.out.own.2.2 with ⟨e, _⟩ | ⟨g', cap, cur, e, _, hg, h1, _, h3, _⟩
          · cases e
          · simp only [Value.slice.injEq, Option.some.injEq, Addr.mk.injEq] at e
            obtain ⟨⟨rfl, -, -⟩, -, rfl⟩ := e
            exact ⟨cur.toList, by simpa using hg, by rw [Array.length_toList, h3]; omega⟩
        have hcl := fun ty => run_clear_rows wr ty g (k * 2) (m - k) (c - k) cur 105 (by omega) hg (by omega)
        have HCUT := Lib.hid (HDR.out.own.cut k (by omega) cur hg (Builtin.zeroCells (Value.agg #[.string ⟨#[]⟩, .string ⟨#[]⟩]).cells (m - k)).toList (by rw [Array.length_toList]; exact zeros_len _))
        clear hg hcl0
        generalize (Builtin.zeroCells (Value.agg #[.string ⟨#[]⟩, .string ⟨#[]⟩]).cells (m - k)).toList = ZZ at *
        have HGR := Lib.hid (grown_setRow wr g (splice cur (k * 2) ZZ).toArray)
        generalize wr.setRow g (splice cur (k * 2) ZZ).toArray = w9 at *
        go_wp2
        go_ret
        rw [← HKN.out]
        refine ⟨by rw [HDR.out.cnt]; rfl, ?_, grown_trans HDR.out.kp HGR.out⟩
        rw [HDR.out.cnt, ← HDR.out.low]
        exact HCUT.out
end Go.Proofs.Ytebhcadolnjplaa
