/- Rows: deeds, whether they are few; which one. -/
import Derived.Test.YtebhcadolnjplaaGreatTb
import Derived.Lib.QuietBelow
namespace Go.Proofs.YtebhcadolnjplaaGreat
open Go.RowKit

structure HeldU (p : Prop) : Prop where
  out : p
theorem hqU_step {P : Program} {ops : Array Oper} {C : World → Prop} {Q : Act → Prop} {a : Act} {o : Oper} {rest : List Oper}
    (h : ∀ K : Act → Prop, (∀ a, HeldU (wpQuiet P ops C Q rest a) → K a) → if Region.wanted o (yielded ops a.tmps) then o.quiet P a C K else K (a.put o.dst undef)) : HeldU (wpQuiet P ops C Q (o :: rest) a) :=
  ⟨h (fun a => wpQuiet P ops C Q rest a) (fun _ h => h.out)⟩
theorem Rg {f : FuncId} {args : Array Value} {w : World} {d : Nat} {os : Array Obj} {v : Value} (h : Calls Tryz.prog f args (Go.Sort.grow (redrawn w d) os) (Ret (Go.Sort.grow (redrawn w d) os) v)) :
    Calls Tryz.prog f args (Go.Sort.grow (redrawn w d) os) fun e w'' => e = .returned v ∧ ∃ q : Regrown, w'' = Go.Sort.grow (redrawn w q.d) q.os := Calls.regrown_of h
def pickI (x : Int) (n : Nat) : Int := if x.tmod n < 0 then x.tmod n + n else x.tmod n
theorem pickI_lt (x : Int) (n : Nat) (hn : 0 < n) : 0 ≤ pickI x n ∧ pickI x n < n := by
  have b1 : -(n : Int) < x.tmod (n : Int) := Int.lt_tmod_of_pos x (b := (n : Int)) (by omega)
  have b2 : x.tmod (n : Int) < (n : Int) := Int.tmod_lt_of_pos x (by omega)
  unfold pickI
  split <;> omega
theorem pick_f (x : Int) (n : Nat) (hn : 0 < n) (hn6 : n ≤ 1000000) (w : World) : Calls Tryz.prog 8 #[.int .i64 x, .int .i64 (n : Int)] w (Ret w (.int .i64 (pickI x n))) := by
  have d1 : decide ((n : Int) < 1) = false := decide_eq_false (by omega)
  have hz : ¬ ((n : Int) = 0) := by omega
  have b1 : -(n : Int) < x.tmod (n : Int) := Int.lt_tmod_of_pos x (b := (n : Int)) (by omega)
  have b2 : x.tmod (n : Int) < (n : Int) := Int.tmod_lt_of_pos x (by omega)
  by_cases hx : x.tmod (n : Int) < 0
  · have HE : Hid (pickI x n = x.tmod n + n) := Lib.hid (if_pos hx)
    have d2 : decide (x.tmod (n : Int) < 0) = true := decide_eq_true hx
    go_enter Tryz.func8, Tryz.ntmps8
    go_wp2
    go_ret
    exact ⟨by rw [HE.out]; rfl, Ok.refl _⟩
  · have HE : Hid (pickI x n = x.tmod n) := Lib.hid (if_neg hx)
    have d2 : decide (x.tmod (n : Int) < 0) = false := decide_eq_false hx
    go_enter Tryz.func8, Tryz.ntmps8
    go_wp2
    go_ret
    exact ⟨by rw [HE.out]; rfl, Ok.refl _⟩
theorem pick5 (x : Int) (w : World) : Calls Tryz.prog 8 #[.int .i64 x, .int .i64 5] w (Ret w (.int .i64 (pickI x 5))) := pick_f x 5 (by decide) (by decide) w
/-- A deed: its kind, its rows, where they lie, its span. -/
structure Dd where
  kind : Int
  A : Option Addr
  n : Nat
  c : Nat
  rows : List Rw
  sp : Sp
def dd0 : Dd := ⟨0, none, 0, 0, [], allS⟩
def ddA (l : List Dd) (j : Nat) : Dd := l.getD j dd0
structure DdAt (w : World) (b o : Nat) (d : Dd) : Prop where
  c0 : w.cell? ⟨b, o, none⟩ = some (.int .i64 d.kind)
  c1 : w.cell? ⟨b, o + 1, none⟩ = some (.slice d.A d.n d.c)
  c2 : w.cell? ⟨b, o + 2, none⟩ = some (.string d.sp.lo)
  c3 : w.cell? ⟨b, o + 3, none⟩ = some (.string d.sp.hi)
  len : d.rows.length = d.n
  n6 : d.n ≤ 17592186044416
  rows : RowsIn w d.A d.rows
  sz : RowsSz d.rows
  lo : d.sp.lo.size ≤ 140737488355328
  hi : d.sp.hi.size ≤ 140737488355328
theorem DdAt.ok {w w' : World} {b o : Nat} {d : Dd} (h : DdAt w b o d) (k : Ok w w') : DdAt w' b o d :=
  { h with c0 := k.cell h.c0, c1 := k.cell h.c1, c2 := k.cell h.c2, c3 := k.cell h.c3, rows := h.rows.ok k }
def DeedsIn (w : World) (A : Option Addr) (l : List Dd) : Prop := ∀ j, j < l.length → ∃ b off, A = some ⟨b, off, none⟩ ∧ DdAt w b (off + j * 4) (ddA l j)
theorem DeedsIn.ok {w w' : World} {A : Option Addr} {l : List Dd} (h : DeedsIn w A l) (k : Ok w w') : DeedsIn w' A l := fun j hj => by
  obtain ⟨b, off, e, hd⟩ := h j hj
  exact ⟨b, off, e, hd.ok k⟩
def LightP (n : Nat) (l : List Dd) (w : World) (e : Ending) (w' : World) : Prop := ∃ b : Bool, e = .returned (.bool b) ∧ (b = true → n ≤ 60 ∧ ∀ j, j < n → (ddA l j).n ≤ 1200) ∧ Ok w w'
set_option maxRecDepth 100000 in
set_option maxHeartbeats 4000000 in
theorem light_f (A : Option Addr) (n c : Nat) (l : List Dd) (hn : l.length = n) (hn6 : n ≤ 17592186044416) (w : World) (hA : DeedsIn w A l) : Calls Tryz.prog 5 #[.slice A n c] w (LightP n l w) := by
  have HA := Lib.hid hA
  have HN := Lib.hid hn
  clear hA hn
  go_enter Tryz.func5, Tryz.ntmps5
  go_wp2_with fail
  go_loopw [3, 4] (fun v3 v4 wr => ∃ (v : Int) (k : Nat), v3 = .int .i64 v ∧ v4 = .int .i64 k ∧ k ≤ n ∧ 0 ≤ v ∧ v ≤ 70368744180065 ∧ (v ≤ 1200 → ∀ j, j < k → (ddA l j).n ≤ 1200) ∧ Ok w wr) (fun _ v4 _ => n - (intOf v4).toNat)
  case atStart => exact ⟨n, 0, rfl, rfl, Nat.zero_le _, by omega, by omega, fun _ j hj => absurd hj (Nat.not_lt_zero _), Ok.refl _⟩
  case round =>
    obtain ⟨v, k, rfl, rfl, hk, hv0, hv, hall, okr⟩ := hrel
    have HO := Lib.hid okr
    have HV : Hid (0 ≤ v ∧ v ≤ 70368744180065) := Lib.hid ⟨hv0, hv⟩
    have HALL := Lib.hid hall
    clear okr hv0 hv hall
    by_cases hlt : k < n
    · have d1 : decide ((k : Int) < (n : Int)) = true := decide_eq_true (by omega)
      by_cases hle : v ≤ 1200
      · have d2 : decide (v ≤ 1200) = true := decide_eq_true hle
        obtain ⟨b, off, rfl, hd⟩ := HA.out.ok HO.out k (by rw [HN.out]; exact hlt)
        have HD := Lib.hid hd
        have c1 := hd.c1
        have c2 := hd.c2
        have c3 := hd.c3
        have hl := hd.lo
        have hh := hd.hi
        have hsp := linesM_spec _ hd.sz
        have hnl : linesM (ddA l k).rows ≤ 1200 → (ddA l k).n ≤ 1200 := by rw [← hd.len]; exact hsp.2.2
        have HNX : Hid (linesM (ddA l k).rows ≤ 1200 → ∀ j, j < k + 1 → (ddA l j).n ≤ 1200) := Lib.hid fun q j hj => by
          rcases Nat.lt_or_ge j k with h | h
          · exact HALL.out hle j h
          · obtain rfl : j = k := by omega
            exact hnl q
        have h29 := fun w' (o : Ok wr w') => lines_m (ddA l k).A (ddA l k).n (ddA l k).c (ddA l k).rows hd.len hd.n6 w' (hd.rows.ok o) hd.sz
        clear hd hnl
        generalize (ddA l k).A = A1 at *
        generalize (ddA l k).n = n1 at *
        generalize (ddA l k).c = cc1 at *
        generalize linesM (ddA l k).rows = L at *
        generalize (ddA l k).sp.lo = lo at *
        generalize (ddA l k).sp.hi = hi at *
        obtain ⟨hL0, hL1, -⟩ := hsp
        have hi0 : (0 : Int) ≤ (k : Int) := Int.natCast_nonneg _
        have hi1 : (k : Int) < (n : Int) := by omega
        obtain ⟨a, ha⟩ : ∃ a : Nat, a = lo.size / 8 := ⟨_, rfl⟩
        obtain ⟨d, hdd⟩ : ∃ d : Nat, d = hi.size / 8 := ⟨_, rfl⟩
        have q1 : (lo.size : Int).tdiv 8 = (a : Int) := by rw [ha, Int.tdiv_eq_ediv_of_nonneg (by omega)]; omega
        have q2 : (hi.size : Int).tdiv 8 = (d : Int) := by rw [hdd, Int.tdiv_eq_ediv_of_nonneg (by omega)]; omega
        have ea : IntKind.i64.wrap (a : Int) = (a : Int) := IntWalk.i64_in _ (by omega)
        have ed : IntKind.i64.wrap (d : Int) = (d : Int) := IntWalk.i64_in _ (by omega)
        have e1 : IntKind.i64.wrap (v + L) = v + L := IntWalk.i64_in _ (by have := HV.out; omega)
        have e2 : IntKind.i64.wrap (v + L + (a : Int)) = v + L + (a : Int) := IntWalk.i64_in _ (by have := HV.out; omega)
        have e3 : IntKind.i64.wrap (v + L + (a : Int) + (d : Int)) = v + L + (a : Int) + (d : Int) := IntWalk.i64_in _ (by have := HV.out; omega)
        have HB : Hid (0 ≤ L ∧ L ≤ 35184372090033 ∧ a ≤ 17592186044416 ∧ d ≤ 17592186044416) := Lib.hid ⟨hL0, hL1, by omega, by omega⟩
        have e9 : IntKind.i64.wrap ((k : Int) + 1) = (k : Int) + 1 := IntWalk.i64_in _ (by omega)
        clear ha hdd hl hh hL0 hL1
        go_upto_region 5 with fail
        have r1 := cell_regrown c1
        have r2 := cell_regrown c2
        have r3 := cell_regrown c3
        have q29 : ∀ d os, Calls Tryz.prog 23 #[.slice A1 n1 cc1, .int .i64 1200] (Go.Sort.grow (redrawn wr d) os) fun e w'' => e = .returned (.int .i64 L) ∧ ∃ q : Regrown, w'' = Go.Sort.grow (redrawn wr q.d) q.os := fun d os => Rg (h29 _ (below_regrown wr d os))
        clear c1 c2 c3 h29
        refine wp_region_quiet_below (by kernel_rfl) (by kernel_rfl) ?_
        refine HeldU.out ?_
        repeat (
          refine hqU_step (fun K hK => ?_)
          go_simp
          first
            | (refine hK _ ?_; clear hK K)
            | (apply Exists.intro
               refine ⟨fun _ => ?_, hK _ ?_⟩
               (with_reducible first
                 | exact q29 _ _)
               clear hK K))
        refine HeldU.mk (wpQuiet_nil ?_)
        intro _ hw'
        obtain ⟨⟨dq, osq⟩, hw''⟩ := hw'
        subst hw''
        have HO1 := Lib.hid (Ok.trans HO.out (below_regrown wr dq osq))
        clear q29 r1 r2 r3
        generalize Go.Sort.grow (redrawn wr dq) osq = w1 at *
        have hb := HB.out
        have hv := HV.out
        have HLT : Hid (n - ((k : Int) + 1).toNat < n - (k : Int).toNat) := Lib.hid (by omega)
        go_wp2_with fail
        exact ⟨⟨v + L + a + d, k + 1, rfl, rfl, hlt, by omega, by omega, fun q => HNX.out (by omega), HO1.out⟩, HLT.out⟩
      · have d2 : decide (v ≤ 1200) = false := decide_eq_false hle
        go_wp2_with fail
        go_ret
        exact ⟨false, rfl, (fun h => by cases h), HO.out⟩
    · have d1 : decide ((k : Int) < (n : Int)) = false := decide_eq_false (by omega)
      obtain rfl : k = n := by omega
      by_cases hle : v ≤ 1200
      · have d2 : decide (v ≤ 1200) = true := decide_eq_true hle
        by_cases h60 : k ≤ 60
        · have d3 : decide ((k : Int) ≤ 60) = true := decide_eq_true (by omega)
          go_wp2_with fail
          go_ret
          exact ⟨true, rfl, (fun _ => ⟨h60, HALL.out hle⟩), HO.out⟩
        · have d3 : decide ((k : Int) ≤ 60) = false := decide_eq_false (by omega)
          go_wp2_with fail
          go_ret
          exact ⟨false, rfl, (fun h => by cases h), HO.out⟩
      · have d2 : decide (v ≤ 1200) = false := decide_eq_false hle
        go_wp2_with fail
        go_ret
        exact ⟨false, rfl, (fun h => by cases h), HO.out⟩
end Go.Proofs.YtebhcadolnjplaaGreat
