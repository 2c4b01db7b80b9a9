/- Pieces: DeleteFunc with the name of a file. -/
import Derived.Test.YtfchjdhjbepocaaMk
namespace Go.Proofs.Ytfchjdhjbepocaa
open Go Go.RowKit

def IdxP (q : Pc → Bool) (n : Nat) (l : List Pc) (W : World) (e : Ending) (w' : World) : Prop := ∃ x : Int, e = .returned (.int .i64 x) ∧ Ok W w' ∧ ((x = -1 ∧ ∀ j, j < n → q (pcA l j) = false) ∨ ∃ k : Nat, k < n ∧ x = (k : Int) ∧ q (pcA l k) = true ∧ ∀ j, j < k → q (pcA l j) = false)
theorem zeros_len (k : Nat) : (Builtin.zeroCells (Value.agg #[.string ⟨#[]⟩, .int .i64 0]).cells k).size = k * 2 := by
  simp [Builtin.zeroCells, Value.cells]
theorem run_clear_pcs (w : World) (ty : TypeId) (g o n c : Nat) (cur : List Value) (t : TypeId) (hn : 0 < n) (hg : w.heap[g]? = some (.cells cur.toArray t (0, 0))) (hfit : o + n * 2 ≤ cur.length) :
    (Builtin.clear_ #[52] ty #[.slice (some ⟨g, o, none⟩) n c]).run Try.prog w = .ok (.tuple #[]) (w.setRow g (splice cur o (Builtin.zeroCells (Value.agg #[.string ⟨#[]⟩, .int .i64 0]).cells n).toList).toArray) := by
  have hl : (Builtin.zeroCells (Value.agg #[.string ⟨#[]⟩, .int .i64 0]).cells n).toList.length = n * 2 := by rw [Array.length_toList]; exact zeros_len n
  have h1 : ∀ v ∈ (Builtin.zeroCells (Value.agg #[.string ⟨#[]⟩, .int .i64 0]).cells n).toList, v.oneCell' = true := by
    intro v hv
    rw [Array.mem_toList_iff] at hv
    obtain ⟨i, hi, rfl⟩ := Array.mem_iff_getElem.1 hv
    simp only [Builtin.zeroCells, Value.cells]
    have : i % 2 = 0 ∨ i % 2 = 1 := Nat.mod_two_eq_zero_or_one i
    rcases this with q | q <;> simp [q, Value.oneCell']
  have hst := run_storeCells_at Try.prog g o t (Builtin.zeroCells (Value.agg #[.string ⟨#[]⟩, .int .i64 0]).cells n).toList 0 cur.toArray w hg (by rw [hl]; simpa using hfit) h1
  obtain ⟨i0, hi, hz0, hz1, hz2⟩ := info_parts info105
  obtain ⟨m, rfl⟩ : ∃ m, n = m + 1 := ⟨n - 1, by omega⟩
  have hz : ∀ w, (zeroValue 105).run Try.prog w = .ok (.agg #[.string ⟨#[]⟩, .int .i64 0]) w := fun w => by simp [zeroValue, typeInfo, hi, hz0]
  simp [Builtin.clear_, run_underlying Try.underlying52, hz, hst, splice]
def nmB (nm : Str) (r : Pc) : Bool := decide (r.1 = nm)
set_option maxRecDepth 100000 in
set_option maxHeartbeats 2000000 in
theorem cloN_f (z : Nat) (nm : Str) (km : Str) (vm : Nat) (w : World) (z0 : w.cell? ⟨z, 0, none⟩ = some (.string nm)) :
    Calls Try.prog 110 #[.agg #[.string km, .int .i64 (vm : Int)], .pointer (some ⟨z, 0, none⟩)] w (Ret w (.bool (nmB nm (km, vm)))) := by
  obtain ⟨q, hq⟩ : ∃ q, w.heap.size = q := ⟨_, rfl⟩
  have HO : Hid (Ok w (w.alloc (.cells #[.string km, .int .i64 (vm : Int)] 105))) := Lib.hid ((Ok.refl w).alloc _)
  have HC : Hid ((w.alloc (.cells #[.string km, .int .i64 (vm : Int)] 105)).cell? ⟨q, 0, none⟩ = some (.string km)) := Lib.hid (by rw [← hq]; exact (two_new w _ _ _).1)
  have HC0 := Lib.hid z0
  clear z0
  have HE : Hid ((km.toList == nm.toList) = nmB nm (km, vm)) := Lib.hid (str_list km nm)
  generalize nmB nm (km, vm) = rb at *
  go_enter Try.func110, Try.ntmps110
  go_upto_region 1 with fail
  clear hq
  generalize w.alloc (.cells #[.string km, .int .i64 (vm : Int)] 105) = w0 at *
  have c0 := HO.out.cell HC0.out
  have k0 := HC.out
  go_wp2_with fail
  go_ret
  exact ⟨by rw [← HE.out]; rfl, HO.out⟩
theorem call110 (args : Array Value) (w : World) : (callFunc 110 args).run Try.prog w = .ok (.enter 110 args) w := by
  have hn : ¬ Try.f110.name = "runtime.NumGoroutine" := by decide
  have hb : ¬ Try.f110.body = none := fun h => by
    have h2 : Try.f110.body.isNone = false := by kernel_rfl
    rw [h] at h2; cases h2
  simp [callFunc, go_sem, hn, hb]
set_option maxRecDepth 100000 in
set_option maxHeartbeats 4000000 in
theorem idxN_f (z : Nat) (nm : Str) (A : Option Addr) (n c : Nat) (l : List Pc) (W : World) (h : OwnQ W A n c l) (hn6 : n ≤ 1000000) (z0 : W.cell? ⟨z, 0, none⟩ = some (.string nm)) :
    Calls Try.prog 132 #[.slice A n c, .func (.func 110) #[] #[.pointer (some ⟨z, 0, none⟩)]] W (IdxP (nmB nm) n l W) := by
  have HI := Lib.hid h
  have HN := Lib.hid h.1
  have HZ0 := Lib.hid z0
  clear z0
  have hcall := call110
  clear h
  go_enter Try.func132, Try.ntmps132
  go_wp2_with fail
  go_loopw [5, 8] (fun _ v wr => ∃ k : Nat, k ≤ n ∧ v = .int .i64 k ∧ (∀ j, j < k → (nmB nm) (pcA l j) = false) ∧ Ok W wr) (fun _ v _ => n - (intOf v).toNat)
  case atStart => exact ⟨0, Nat.zero_le _, rfl, fun j hj => absurd hj (Nat.not_lt_zero _), Ok.refl _⟩
  case round =>
    obtain ⟨k, hk, rfl, hb, okr⟩ := hrel
    have HB := Lib.hid hb
    have HOK := Lib.hid okr
    clear hb okr
    by_cases hlt : k < n
    · have d1 : decide (k < n) = true := decide_eq_true hlt
      obtain ⟨g, rfl, c0, c1⟩ := (HI.out.ok HOK.out).at k hlt
      have hf := cloN_f z nm (pcA l k).1 (pcA l k).2 wr (Ok.cell HOK.out HZ0.out)
      have HNX : Hid ((nmB nm) (pcA l k) = false → ∀ j, j < k + 1 → (nmB nm) (pcA l j) = false) := Lib.hid fun q j hj => by
        by_cases hjk : j < k
        · exact HB.out j hjk
        · obtain rfl : j = k := by omega
          exact q
      have HFA : Hid ((nmB nm) (pcA l k) = true → ∃ k' : Nat, k' < n ∧ (k : Int) = (k' : Int) ∧ (nmB nm) (pcA l k') = true ∧ ∀ j, j < k' → (nmB nm) (pcA l j) = false) := Lib.hid fun q => ⟨k, hlt, rfl, q, HB.out⟩
      have hi0 : (0 : Int) ≤ (k : Int) := Int.natCast_nonneg _
      have hi1 : (k : Int) < (n : Int) := by omega
      generalize (nmB nm) (pcA l k) = rb at *
      generalize (pcA l k).1 = km at *
      generalize (pcA l k).2 = vm at *
      go_wp2_with fail
      refine hf.mono ?_
      clear hf c0 c1
      rintro _ w1 ⟨rfl, o1⟩
      have HO1 := Lib.hid (HOK.out.trans o1)
      clear o1
      cases rb with
      | false =>
        go_wp2_with fail
        refine ⟨⟨k + 1, hlt, rfl, HNX.out (by simp), HO1.out⟩, ?_⟩
        show n - ((k : Int) + 1).toNat < n - (k : Int).toNat
        omega
      | true =>
        go_wp2_with fail
        go_ret
        exact ⟨_, rfl, HO1.out, .inr (HFA.out (by simp))⟩
    · have d1 : decide (k < n) = false := decide_eq_false hlt
      obtain rfl : k = n := by omega
      go_wp2_with fail
      go_ret
      exact ⟨_, rfl, HOK.out, .inl ⟨rfl, HB.out⟩⟩
set_option maxRecDepth 100000 in
set_option maxHeartbeats 4000000 in
theorem delN_f (z : Nat) (nm : Str) (A : Option Addr) (n c : Nat) (l : List Pc) (w : World) (hI : OwnQ w A n c l) (hn6 : n ≤ 1000000) (z0 : w.cell? ⟨z, 0, none⟩ = some (.string nm)) (hz : ∀ a, A = some a → z ≠ a.block) :
    Calls Try.prog 109 #[.slice A n c, .func (.func 110) #[] #[.pointer (some ⟨z, 0, none⟩)]] w (DelP A n c (stay (nmB nm) l) w) := by
  have hix := idxN_f z nm A n c l w hI hn6 z0
  have HI := Lib.hid hI
  have HN := Lib.hid hI.1
  have HZ0 := Lib.hid z0
  clear z0
  have HZN := Lib.hid hz
  have hcall := call110
  have HKN := Lib.hid (stay_len (nmB nm) l n hI.1)
  clear hI hz
  go_enter Try.func109, Try.ntmps109
  go_wp2_with fail
  refine hix.mono ?_
  clear hix
  rintro _ w1 ⟨R, rfl, o1, hx⟩
  have HI1 := Lib.hid (HI.out.ok o1)
  have HO1 := Lib.hid o1
  clear o1 HI
  rcases hx with ⟨rfl, hall⟩ | ⟨k0, hk0, rfl, hq0, hall⟩
  · have HALL := Lib.hid hall
    clear hall
    go_wp2_with fail
    go_ret
    have e : stay (nmB nm) l = l := by rw [← HKN.out, stay_all (nmB nm) l n (by rw [HN.out]; exact Nat.le_refl _) HALL.out, List.take_of_length_le (by rw [HN.out]; exact Nat.le_refl _)]
    rw [e]
    exact ⟨by rw [HN.out]; rfl, by rw [HN.out]; exact HI1.out, grown_ok HO1.out⟩
  · obtain ⟨g, hg⟩ : ∃ g, A = some ⟨g, 0, none⟩ := by
      rcases HI1.out.nc with ⟨_, h0, _⟩ | q
      · omega
      · exact q
    subst hg
    have HD : Hid (DelQ (nmB nm) l g n c (k0 + 1) k0 w w1 l) := Lib.hid (by
      have ek := stay_all (nmB nm) l k0 (by rw [HN.out]; omega) hall
      have es := stay_succ (nmB nm) l k0 (by rw [HN.out]; omega)
      rw [hq0, if_pos rfl, List.append_nil] at es
      exact ⟨hk0, Nat.lt_succ_self _, HN.out, by rw [es, ek, List.length_take, HN.out]; omega, by rw [es, ek], fun _ _ => .inl rfl, HI1.out, grown_ok HO1.out⟩)
    have HF2 : Hid (∀ (km : Str) (vm : Nat) w', w.grownBy w' (some g) → Calls Try.prog 110 (#[.agg #[.string km, .int .i64 (vm : Int)], .pointer (some ⟨z, 0, none⟩)]) w' (Ret w' (.bool ((nmB nm) (km, vm))))) := Lib.hid fun km vm w' k =>
      cloN_f z nm km vm w' (grown_cell k HZ0.out (fun e => HZN.out _ rfl (by simpa using e)))
    have hne : ((k0 : Int) == -1) = false := beq_eq_false_iff_ne.2 (by omega)
    clear hall hq0 HI1
    go_wp2_with fail
    go_loopw [5, 6, 7] (fun i j _ wr => ∃ (m k : Nat) (ys : List Pc), i = .int .i64 k ∧ j = .int .i64 m ∧ DelQ (nmB nm) l g n c m k w wr ys) (fun _ j _ _ => n - (intOf j).toNat)
    case atStart => exact ⟨k0 + 1, k0, l, rfl, by push_cast; rfl, HD.out⟩
    case round =>
      obtain ⟨m, k, ys, rfl, rfl, hd⟩ := hrel
      have HDR := Lib.hid hd
      have b1 := hd.le
      have b2 := hd.lt
      clear hd
      by_cases hlt : m < n
      · have d1 : decide (m < n) = true := decide_eq_true hlt
        have hcell := HDR.out.own.cell2 m hlt
        rw [show pcA ys m = pcA l m from (HDR.out.high m (by omega)).resolve_right (by omega)] at hcell
        obtain ⟨x0, x1⟩ := hcell
        have HSK := Lib.hid (fun (w' : World) (o : Ok wr w') => (HDR.out.ok o).skip HN.out hlt)
        have HKE := Lib.hid (fun (w' : World) (o : Ok wr w') => (HDR.out.ok o).keep HN.out hlt)
        have HST : Hid (∀ w' : World, Ok wr w' → (∃ u, w'.cell? ⟨g, k * 2, none⟩ = some u) ∧ (∃ u, w'.cell? ⟨g, k * 2 + 1, none⟩ = some u) ∧ w'.frozen? ⟨g, k * 2, none⟩ = false ∧ w'.frozen? ⟨g, k * 2 + 1, none⟩ = false) := Lib.hid fun w' o =>
          ⟨⟨_, ((HDR.out.ok o).own.cell2 k (by omega)).1⟩, ⟨_, ((HDR.out.ok o).own.cell2 k (by omega)).2⟩, (HDR.out.ok o).own.froz _, (HDR.out.ok o).own.froz _⟩
        obtain ⟨hb, hhb⟩ : ∃ hb, (nmB nm) (pcA l m) = hb := ⟨_, rfl⟩
        rw [hhb] at HSK HKE
        have hhb2 : (nmB nm) ((pcA l m).1, (pcA l m).2) = hb := hhb
        clear hhb
        generalize (pcA l m).1 = km at *
        generalize (pcA l m).2 = vm at *
        have hi0 : (0 : Int) ≤ (m : Int) := Int.natCast_nonneg _
        have hi1 : (m : Int) < (n : Int) := by omega
        have hk0' : (0 : Int) ≤ (k : Int) := Int.natCast_nonneg _
        have hk1 : (k : Int) < (n : Int) := by omega
        have e1 : IntKind.i64.wrap ((m : Int) + 1) = (m : Int) + 1 := IntWalk.i64_in _ (by omega)
        have e2 : IntKind.i64.wrap ((k : Int) + 1) = (k : Int) + 1 := IntWalk.i64_in _ (by omega)
        obtain ⟨q, hq⟩ : ∃ q, wr.heap.size = q := ⟨_, rfl⟩
        have HQC : Hid ((wr.alloc (.cells #[.string km, .int .i64 (vm : Int)] 105)).cell? ⟨q, 0, none⟩ = some (.string km) ∧ (wr.alloc (.cells #[.string km, .int .i64 (vm : Int)] 105)).cell? ⟨q, 1, none⟩ = some (.int .i64 (vm : Int))) := Lib.hid (by rw [← hq]; exact two_new wr _ _ _)
        have HZ : Hid (Ok wr (wr.alloc (.cells #[.string km, .int .i64 (vm : Int)] 105))) := Lib.hid ((Ok.refl wr).alloc _)
        have hf := HF2.out km vm _ (grown_trans HDR.out.kp (grown_ok HZ.out))
        rw [hhb2] at hf
        clear hhb2
        go_upto_region 8 with fail
        clear hq x0 x1
        generalize wr.alloc (.cells #[.string km, .int .i64 (vm : Int)] 105) = w0 at *
        have q0 := HQC.out.1
        have q1 := HQC.out.2
        go_wp2_with fail
        refine hf.mono ?_
        clear hf q0 q1
        rintro _ w2 ⟨rfl, o2⟩
        have HO2 : Hid (Ok wr w2) := Lib.hid (HZ.out.trans o2)
        have q0 := o2.cell HQC.out.1
        have q1 := o2.cell HQC.out.2
        clear o2 HZ HQC
        cases hb with
        | true =>
          have HSK2 := Lib.hid (HSK.out w2 HO2.out rfl)
          go_wp2_with fail
          refine ⟨⟨m + 1, k, ys, rfl, by push_cast; rfl, HSK2.out⟩, ?_⟩
          show n - ((m : Int) + 1).toNat < n - (m : Int).toNat
          omega
        | false =>
          have HKE2 := Lib.hid (HKE.out w2 HO2.out rfl)
          obtain ⟨⟨u0, y0⟩, ⟨u1, y1⟩, f0, f1⟩ := HST.out w2 HO2.out
          go_wp2_with fail
          refine ⟨⟨m + 1, k + 1, _, by push_cast; rfl, by push_cast; rfl, HKE2.out⟩, ?_⟩
          show n - ((m : Int) + 1).toNat < n - (m : Int).toNat
          omega
      · have d1 : decide (m < n) = false := decide_eq_false hlt
        obtain rfl : m = n := by omega
        have hcap : m ≤ c := by
          rcases HDR.out.own.2.2 with ⟨e, _⟩ | ⟨g', cap, cur, e, _, _, h1, _⟩
          · cases e
          · simp only [Value.slice.injEq] at e
            omega
        obtain ⟨cur, hg, hcl0⟩ : ∃ cur : List Value, wr.heap[g]? = some (.cells cur.toArray 105 (0, 0)) ∧ m * 2 ≤ cur.length := by
          rcases HDR.out.own.2.2 with ⟨e, _⟩ | ⟨g', cap, cur, e, _, hg, h1, _, h3, _⟩
          · cases e
          · simp only [Value.slice.injEq, Option.some.injEq, Addr.mk.injEq] at e
            obtain ⟨⟨rfl, -, -⟩, -, rfl⟩ := e
            exact ⟨cur.toList, by simpa using hg, by rw [Array.length_toList, h3]; omega⟩
        have hcl := fun ty => run_clear_pcs wr ty g (k * 2) (m - k) (c - k) cur 105 (by omega) hg (by omega)
        have HCUT := Lib.hid (HDR.out.own.cut k (by omega) cur hg (Builtin.zeroCells (Value.agg #[.string ⟨#[]⟩, .int .i64 0]).cells (m - k)).toList (by rw [Array.length_toList]; exact zeros_len _))
        clear hg hcl0
        generalize (Builtin.zeroCells (Value.agg #[.string ⟨#[]⟩, .int .i64 0]).cells (m - k)).toList = ZZ at *
        have HGR := Lib.hid (grown_setRow wr g (splice cur (k * 2) ZZ).toArray)
        generalize wr.setRow g (splice cur (k * 2) ZZ).toArray = w9 at *
        go_wp2
        go_ret
        rw [← HKN.out]
        refine ⟨by rw [HDR.out.cnt]; rfl, ?_, grown_trans HDR.out.kp HGR.out⟩
        rw [HDR.out.cnt, ← HDR.out.low]
        exact HCUT.out
end Go.Proofs.Ytfchjdhjbepocaa
