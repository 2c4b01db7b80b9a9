/- The law of parts, walked. -/
import Derived.Test.YthbbbjkgfdnkhaaDoorAn
import Derived.Test.YthbbbjkgfdnkhaaDoorAm
namespace Go.Proofs.YthbbbjkgfdnkhaaDoor
open Go.RowKit
def DoR (w : World) (rs : List Rd) (put : Bool) (f : Str) (e : Ending) (w' : World) : Prop := ∃ (A : Option Addr) (n c : Nat), e = .returned (.tuple #[.slice A n c, .bool put, .string f]) ∧ OwnR w' w.heap.size A n c rs ∧ Ok w w'
theorem do_r (is : Bool) (val : Str) (A : Option Addr) (n c : Nat) (l : List Ac) (hn : l.length = n) (hn40 : n ≤ 1000) (hv : val.size ≤ 1000000) (hla : ∀ a ∈ l, a.value.size ≤ 1000000) (w : World) (ht : Tb w) (hI : ActsAt w A l) :
    Calls Tryd.prog 11 #[.bool is, .string val, .slice A n c] w (DoR w (runA (st0 is val) l).rs (runA (st0 is val) l).put (aft (runA (st0 is val) l))) := do_w is val A n c l hn hn40 hv hla w ht hI
theorem OwnR.empty (w : World) : OwnR (w.alloc (.cells #[] 57)) w.heap.size (some ⟨w.heap.size, 0, none⟩) 0 0 [] :=
  ⟨⟨rfl, .inr ⟨w.heap.size, 0, #[], rfl, Nat.le_refl _, heap_alloc_new w _, Nat.le_refl _, Nat.zero_le _, rfl, rfl⟩⟩, rfl⟩
theorem lim_val {l : List Ac} (h : Lim l l.length) : ∀ a ∈ l, a.value.size ≤ 1000000 := fun a ha => by
  obtain ⟨j, hj, e⟩ := List.mem_iff_getElem.1 ha
  have := h j hj
  have e2 : atA l j = a := by rw [← e]; simp [atA, List.getD, hj]
  rw [e2] at this
  omega
theorem same_r (A0 : Option Addr) (n0 c0 B0 : Nat) (rs : List Rd) (hl : rs.length ≤ 100000) (w : World) (h : OwnR w B0 A0 n0 c0 rs) (A : Option Addr) (m d B : Nat) (ys : List Rd) (wx : World) (k : Ok w wx) (h2 : OwnR wx B A m d ys) (e : rs = ys) :
    Calls Tryd.prog 13 #[.slice A0 n0 c0, .slice A m d] wx (Ret wx (.bool true)) := by
  subst e
  have e1 := h.2
  have e2 := h2.2
  subst e1; subst e2
  exact same_w A0 A _ c0 d rs rfl hl wx (h.at.ok k) h2.at
set_option maxRecDepth 100000 in
set_option maxHeartbeats 8000000 in
theorem parts_w (A : Option Addr) (n c : Nat) (l : List Ac) (hn : l.length = n) (hc : n ≤ c) (hz : Sz l) (is : Bool) (val : Str) (hvs : val.size ≤ 140737488355328) (x : Int) (w : World) (ht : Tb w) (hI : ActsAt w A l) :
    Calls Tryd.prog 6 #[.slice A n c, .bool is, .string val, .int .i64 x] w (Ret w (.bool true)) := by
  have HAW := Lib.hid (awake_w w ht)
  have HI := Lib.hid hI
  have HN := Lib.hid hn
  have HC := Lib.hid hc
  have HT := Lib.hid ht
  have HG := Lib.hid (fun B V (k : Ok w V) (h : StrsAt V B [val]) => great_w A n c l hn hz B 1 1 [val] rfl (by decide) V (hI.ok k) h)
  clear hI hn hc hz ht
  go_enter Tryd.func6, Tryd.ntmps6
  go_wp2_with fail
  (with_reducible refine HAW.out.mono ?_)
  rintro _ w1 ⟨rfl, o1⟩
  have HO1 := Lib.hid o1
  clear o1 HAW
  go_wp2_with fail
  (with_reducible refine (HG.out _ _ (HO1.out.alloc _) ?_).mono ?_)
  · intro j hj
    obtain rfl : j = 0 := by simpa using hj
    exact ⟨_, 0, rfl, by rw [World.cell?_alloc_at _ _ _ _ rfl]; rfl⟩
  rintro _ w2 ⟨⟨r, rfl, hr⟩, o2⟩
  have HO2 := Lib.hid (Ok.trans (HO1.out.alloc _) o2)
  clear o2 HG
  cases r with
  | true =>
    go_wp2_with fail
    go_ret
    exact ⟨rfl, HO2.out⟩
  | false =>
    obtain ⟨h40, hlim, hls⟩ := hr rfl
    have hv60 : val.size ≤ 60 := hls 0 Nat.zero_lt_one
    have hla := lim_val hlim
    rw [HN.out] at h40
    have HPK := Lib.hid (fun V => pick_w x (n + 1) (Nat.succ_pos n) (by omega) V)
    have hcast : ((n + 1 : Nat) : Int) = (n : Int) + 1 := Int.natCast_succ n
    rw [hcast] at HPK
    clear hr hls
    have HLA0 := Lib.hid hla
    have HV60 := Lib.hid hv60
    clear hla hlim hv60 hcast
    go_wp2_with fail
    (with_reducible refine (HPK.out _).mono ?_)
    rintro _ w2 ⟨⟨k, hk, rfl⟩, rfl⟩
    clear HPK
    obtain ⟨AL, hs1, hI1⟩ := slice_low w A n c l HN.out HC.out HI.out k (by omega)
    obtain ⟨AH, hs2, hI2⟩ := slice_high w A n c l HN.out HC.out HI.out k (by omega)
    have HL1 : Hid (∀ a ∈ l.take k, a.value.size ≤ 1000000) := Lib.hid fun a ha => HLA0.out a (List.mem_of_mem_take ha)
    have HL2 : Hid (∀ a ∈ l.drop k, a.value.size ≤ 1000000) := Lib.hid fun a ha => HLA0.out a (List.mem_of_mem_drop ha)
    have HD0 := Lib.hid (fun V (k : Ok w V) => do_r is val A n c l HN.out (by omega) (by have := HV60.out; omega) HLA0.out V (HT.out.ok k) (HI.out.ok k))
    have HD1 := Lib.hid (fun V (k' : Ok w V) => do_r is val AL k c (l.take k) (by rw [List.length_take, HN.out]; omega) (by omega) (by have := HV60.out; omega) HL1.out V (HT.out.ok k') (hI1.ok k'))
    have HD2 := Lib.hid (fun (is2 : Bool) (val2 : Str) (h2 : val2.size ≤ 1000000) V (k' : Ok w V) => do_r is2 val2 AH (n - k) (c - k) (l.drop k) (by rw [List.length_drop, HN.out]) (by omega) h2 HL2.out V (HT.out.ok k') (hI2.ok k'))
    have hst : (st0 is val).val.size ≤ 1000000 := by
      have := HV60.out
      cases is
      · exact Nat.zero_le _
      · show val.size ≤ 1000000
        omega
    have hsm0 := runA_small (st0 is val) 1000000 (by decide) l hst HLA0.out
    have hsm1 := runA_small (st0 is val) 1000000 (by decide) (l.take k) hst HL1.out
    have hst1 : (st1 is val (l.take k)).val.size ≤ 1000000 ∧ (st1 is val (l.take k)).rs.length = 0 := by
      rw [st1_is]; exact ⟨hsm1.1, rfl⟩
    have hsm2 := runA_small (st1 is val (l.take k)) 1000000 (by decide) (l.drop k) hst1.1 HL2.out
    have hA : (runA (st0 is val) (l.take k)).put = true → aft (runA (st0 is val) (l.take k)) = (runA (st0 is val) (l.take k)).val := fun h => by unfold aft; rw [if_pos h]
    have HDT : Hid ((runA (st0 is val) (l.take k)).put = true → ∀ V (_ : Ok w V), Calls Tryd.prog 11 #[.bool true, .string (aft (runA (st0 is val) (l.take k))), .slice AH (n - k) (c - k)] V (DoR V (runA (st1 is val (l.take k)) (l.drop k)).rs (runA (st1 is val (l.take k)) (l.drop k)).put (aft (runA (st1 is val (l.take k)) (l.drop k))))) := Lib.hid fun hp V k' => by
      have h2 := HD2.out true (aft (runA (st0 is val) (l.take k))) (by rw [hA hp]; exact hsm1.1) V k'
      have e : st1 is val (l.take k) = st0 true (aft (runA (st0 is val) (l.take k))) := by unfold st1; rw [if_pos hp, hA hp]
      rw [e]; exact h2
    have HDF : Hid ((runA (st0 is val) (l.take k)).put = false → ∀ V (_ : Ok w V), Calls Tryd.prog 11 #[.bool is, .string val, .slice AH (n - k) (c - k)] V (DoR V (runA (st1 is val (l.take k)) (l.drop k)).rs (runA (st1 is val (l.take k)) (l.drop k)).put (aft (runA (st1 is val (l.take k)) (l.drop k))))) := Lib.hid fun hp V k' => by
      have h2 := HD2.out is val (by have := HV60.out; omega) V k'
      have e : st1 is val (l.take k) = st0 is val := by unfold st1; rw [if_neg (by rw [hp]; decide)]
      rw [e]; exact h2
    have hparts := runA_parts is val l k
    obtain ⟨hf1, hf2, hf3⟩ := parts_aft is val l k _ _ rfl rfl
    have hr0 : (runA (st0 is val) l).rs = [] ++ (runA (st0 is val) (l.take k)).rs ++ (runA (st1 is val (l.take k)) (l.drop k)).rs := congrArg St.rs hparts
    have hp0 : (runA (st0 is val) l).put = ((runA (st0 is val) (l.take k)).put || (runA (st1 is val (l.take k)) (l.drop k)).put) := congrArg St.put hparts
    have hl0 : (runA (st0 is val) l).rs.length ≤ 100000 := by have := hsm0.2; have e : (st0 is val).rs.length = 0 := rfl; have := HN.out; omega
    have hl1 : (runA (st0 is val) (l.take k)).rs.length ≤ 100000 := by have := hsm1.2; have e : (st0 is val).rs.length = 0 := rfl; rw [List.length_take] at this; have := HN.out; omega
    have hl2 : (runA (st1 is val (l.take k)) (l.drop k)).rs.length ≤ 100000 := by have := hsm2.2; have e := hst1.2; rw [List.length_drop] at this; have := HN.out; omega
    clear hparts hsm0 hsm1 hsm2 hst1 hst hA HD2 hI1 hI2
    generalize runA (st1 is val (l.take k)) (l.drop k) = sb at *
    generalize runA (st0 is val) (l.take k) = sa at *
    generalize runA (st0 is val) l = s0 at *
    generalize aft sb = fb at *
    generalize aft sa = fa at *
    generalize aft s0 = f0 at *
    generalize sb.put = pb at *
    generalize sa.put = pa at *
    generalize s0.put = p0 at *
    generalize sb.rs = rb at *
    generalize sa.rs = ra at *
    generalize s0.rs = r0 at *
    have HLA := Lib.hid hl1
    have HLB := Lib.hid hl2
    have HL0 := Lib.hid hl0
    have HRS := Lib.hid hr0
    have HF := Lib.hid (And.intro hf1 (And.intro hf2 hf3))
    have HP0 := Lib.hid hp0
    have hk0 : (0 : Int) ≤ (k : Int) := Int.natCast_nonneg _
    clear hl0 hl1 hl2 hr0 hf1 hf2 hf3 hp0 HI HC HN HT HL1 HL2 HLA0 HV60
    go_wp2_with fail
    (with_reducible refine (HD0.out _ HO2.out).mono ?_)
    rintro _ w3 ⟨A0, n0, c0, rfl, own0, o3⟩
    have HO3 := Lib.hid (Ok.trans HO2.out o3)
    have HOR := Lib.hid own0
    clear o3 own0 HD0
    go_wp2_with fail
    (with_reducible refine (HD1.out _ HO3.out).mono ?_)
    rintro _ w3b ⟨A1, n1, c1, rfl, own1, o3⟩
    have HO3b := Lib.hid (Ok.trans HO3.out o3)
    have HOA3 := Lib.hid own1
    have HOR3 := Lib.hid (HOR.out.ok o3)
    clear o3 own1 HD1 HOR HO3
    cases pa with
    | true =>
      have HDT2 := Lib.hid (HDT.out rfl)
      clear HDT HDF
      go_wp2_with fail
      (with_reducible refine (HDT2.out _ HO3b.out).mono ?_)
      rintro _ w4 ⟨A2, n2, c2, rfl, own2, o4⟩
      have HO4 := Lib.hid (Ok.trans HO3b.out o4)
      have HOB := Lib.hid own2
      have HOA := Lib.hid (HOA3.out.ok o4)
      have HSAME := Lib.hid (fun A m d wx (k : Ok w4 wx) (h2 : OwnR wx w4.heap.size A m d ([] ++ ra ++ rb)) => same_r A0 n0 c0 _ r0 HL0.out w4 (HOR3.out.ok o4) A m d _ _ wx k h2 HRS.out)
      clear own2 o4 HDT2 HOA3 HOR3 HL0 HRS
      cases pb with
      | true =>
        obtain rfl : p0 = true := HP0.out
        obtain rfl : f0 = fb := HF.out.1 (by trivial)
        go_wp2_with (at_builtin; first | ((refine wpList_appRs rfl (.tmp 67) (.tmp 68) rfl w4.heap.size A5 _ c5 ([] ++ ra) rfl (by first | exact HO5.out | simpa only [Nat.zero_add] using HO5.out) A2 n2 c2 rb _ rfl (HOB.out.ok HB5.out) HA5.out (by have := HLA.out; simpa using this) HLB.out (Below.size HB5.out) ?_; intro A6 c6 w6 hA6 ho6 hb6; have HO6 := Lib.hid ho6; have HB6 : Hid (Ok w4 w6) := Lib.hid (Below.trans HB5.out hb6); clear hA6 ho6 hb6)) | (go_must (refine wpList_appRs rfl (.tmp 65) (.tmp 66) rfl w4.heap.size _ 0 0 [] rfl (OwnR.empty w4) A1 n1 c1 ra _ rfl (HOA.out.alloc _) (by simp) (by simp) HLA.out (by simp) ?_; intro A5 c5 w5 hA5 ho5 hb5; have HA5 := Lib.hid hA5; have HO5 := Lib.hid ho5; have HB5 : Hid (Ok w4 w5) := Lib.hid (Below.trans (Ok.alloc (Ok.refl w4) _) hb5); clear hA5 ho5 hb5)))
        (with_reducible refine (HSAME.out A6 _ c6 w6 HB6.out HO6.out).mono ?_)
        rintro _ w7 ⟨rfl, o7⟩
        have HO7 := Lib.hid (Ok.trans HO4.out (Ok.trans HB6.out o7))
        clear o7
        go_wp2_with fail
        go_ret
        exact ⟨by simp, HO7.out⟩
      | false =>
        obtain rfl : p0 = true := HP0.out
        obtain rfl : f0 = fa := HF.out.2.1 (by trivial) (by trivial)
        go_wp2_with (at_builtin; first | ((refine wpList_appRs rfl (.tmp 67) (.tmp 68) rfl w4.heap.size A5 _ c5 ([] ++ ra) rfl (by first | exact HO5.out | simpa only [Nat.zero_add] using HO5.out) A2 n2 c2 rb _ rfl (HOB.out.ok HB5.out) HA5.out (by have := HLA.out; simpa using this) HLB.out (Below.size HB5.out) ?_; intro A6 c6 w6 hA6 ho6 hb6; have HO6 := Lib.hid ho6; have HB6 : Hid (Ok w4 w6) := Lib.hid (Below.trans HB5.out hb6); clear hA6 ho6 hb6)) | (go_must (refine wpList_appRs rfl (.tmp 65) (.tmp 66) rfl w4.heap.size _ 0 0 [] rfl (OwnR.empty w4) A1 n1 c1 ra _ rfl (HOA.out.alloc _) (by simp) (by simp) HLA.out (by simp) ?_; intro A5 c5 w5 hA5 ho5 hb5; have HA5 := Lib.hid hA5; have HO5 := Lib.hid ho5; have HB5 : Hid (Ok w4 w5) := Lib.hid (Below.trans (Ok.alloc (Ok.refl w4) _) hb5); clear hA5 ho5 hb5)))
        (with_reducible refine (HSAME.out A6 _ c6 w6 HB6.out HO6.out).mono ?_)
        rintro _ w7 ⟨rfl, o7⟩
        have HO7 := Lib.hid (Ok.trans HO4.out (Ok.trans HB6.out o7))
        clear o7
        go_wp2_with fail
        go_ret
        exact ⟨by simp, HO7.out⟩
    | false =>
      have HDF2 := Lib.hid (HDF.out rfl)
      clear HDT HDF
      go_wp2_with fail
      (with_reducible refine (HDF2.out _ HO3b.out).mono ?_)
      rintro _ w4 ⟨A2, n2, c2, rfl, own2, o4⟩
      have HO4 := Lib.hid (Ok.trans HO3b.out o4)
      have HOB := Lib.hid own2
      have HOA := Lib.hid (HOA3.out.ok o4)
      have HSAME := Lib.hid (fun A m d wx (k : Ok w4 wx) (h2 : OwnR wx w4.heap.size A m d ([] ++ ra ++ rb)) => same_r A0 n0 c0 _ r0 HL0.out w4 (HOR3.out.ok o4) A m d _ _ wx k h2 HRS.out)
      clear own2 o4 HDF2 HOA3 HOR3 HL0 HRS
      cases pb with
      | true =>
        obtain rfl : p0 = true := HP0.out
        obtain rfl : f0 = fb := HF.out.1 (by trivial)
        go_wp2_with (at_builtin; first | ((refine wpList_appRs rfl (.tmp 67) (.tmp 68) rfl w4.heap.size A5 _ c5 ([] ++ ra) rfl (by first | exact HO5.out | simpa only [Nat.zero_add] using HO5.out) A2 n2 c2 rb _ rfl (HOB.out.ok HB5.out) HA5.out (by have := HLA.out; simpa using this) HLB.out (Below.size HB5.out) ?_; intro A6 c6 w6 hA6 ho6 hb6; have HO6 := Lib.hid ho6; have HB6 : Hid (Ok w4 w6) := Lib.hid (Below.trans HB5.out hb6); clear hA6 ho6 hb6)) | (go_must (refine wpList_appRs rfl (.tmp 65) (.tmp 66) rfl w4.heap.size _ 0 0 [] rfl (OwnR.empty w4) A1 n1 c1 ra _ rfl (HOA.out.alloc _) (by simp) (by simp) HLA.out (by simp) ?_; intro A5 c5 w5 hA5 ho5 hb5; have HA5 := Lib.hid hA5; have HO5 := Lib.hid ho5; have HB5 : Hid (Ok w4 w5) := Lib.hid (Below.trans (Ok.alloc (Ok.refl w4) _) hb5); clear hA5 ho5 hb5)))
        (with_reducible refine (HSAME.out A6 _ c6 w6 HB6.out HO6.out).mono ?_)
        rintro _ w7 ⟨rfl, o7⟩
        have HO7 := Lib.hid (Ok.trans HO4.out (Ok.trans HB6.out o7))
        clear o7
        go_wp2_with fail
        go_ret
        exact ⟨by simp, HO7.out⟩
      | false =>
        obtain rfl : p0 = false := HP0.out
        obtain rfl : f0 = ⟨#[]⟩ := HF.out.2.2 (by trivial) (by trivial)
        go_wp2_with (at_builtin; first | ((refine wpList_appRs rfl (.tmp 67) (.tmp 68) rfl w4.heap.size A5 _ c5 ([] ++ ra) rfl (by first | exact HO5.out | simpa only [Nat.zero_add] using HO5.out) A2 n2 c2 rb _ rfl (HOB.out.ok HB5.out) HA5.out (by have := HLA.out; simpa using this) HLB.out (Below.size HB5.out) ?_; intro A6 c6 w6 hA6 ho6 hb6; have HO6 := Lib.hid ho6; have HB6 : Hid (Ok w4 w6) := Lib.hid (Below.trans HB5.out hb6); clear hA6 ho6 hb6)) | (go_must (refine wpList_appRs rfl (.tmp 65) (.tmp 66) rfl w4.heap.size _ 0 0 [] rfl (OwnR.empty w4) A1 n1 c1 ra _ rfl (HOA.out.alloc _) (by simp) (by simp) HLA.out (by simp) ?_; intro A5 c5 w5 hA5 ho5 hb5; have HA5 := Lib.hid hA5; have HO5 := Lib.hid ho5; have HB5 : Hid (Ok w4 w5) := Lib.hid (Below.trans (Ok.alloc (Ok.refl w4) _) hb5); clear hA5 ho5 hb5)))
        (with_reducible refine (HSAME.out A6 _ c6 w6 HB6.out HO6.out).mono ?_)
        rintro _ w7 ⟨rfl, o7⟩
        have HO7 := Lib.hid (Ok.trans HO4.out (Ok.trans HB6.out o7))
        clear o7
        go_wp2_with fail
        go_ret
        exact ⟨by simp, HO7.out⟩
end Go.Proofs.YthbbbjkgfdnkhaaDoor
