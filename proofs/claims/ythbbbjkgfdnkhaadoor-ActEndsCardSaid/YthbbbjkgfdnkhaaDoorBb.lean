/- The reference's Do, walked. -/
import Derived.Test.YthbbbjkgfdnkhaaDoorBa
import Derived.Test.YthbbbjkgfdnkhaaDoorAo
namespace Go.Proofs.YthbbbjkgfdnkhaaDoor
open Go.RowKit
/-- A bound that is wider does no more. -/
theorem sum_wide (v : Str) (num : Int) : valueT (numV v.data.toList + max (min num 4294967296) (-4294967296)) = sumV v num := by
  obtain ⟨x0, x1⟩ := numV_in v.data.toList
  unfold sumV valueT
  have e : boundM (numV v.data.toList + max (min num 4294967296) (-4294967296)) 1073741824 = boundM (numV v.data.toList + boundM num 2147483648) 1073741824 := by
    generalize numV v.data.toList = x at *
    unfold boundM
    omega
  rw [e]
def RdRel (w : World) (l : List Ac) (is : Bool) (val : Str) (n : Nat) (a b d p i : Value) (wr : World) : Prop := ∃ (k : Nat) (A' : Option Addr) (n' c' : Nat), k ≤ n ∧ i = .int .i64 k ∧ a = .bool (runA (st0 is val) (l.take k)).is ∧ b = .string (runA (st0 is val) (l.take k)).val ∧ d = .slice A' n' c' ∧ p = .bool (runA (st0 is val) (l.take k)).put ∧ OwnR wr w.heap.size A' n' c' (runA (st0 is val) (l.take k)).rs ∧ Ok w wr
set_option maxRecDepth 100000 in
set_option maxHeartbeats 4000000 in
theorem rdo_w (is : Bool) (val : Str) (A : Option Addr) (n c : Nat) (l : List Ac) (hn : l.length = n) (hn40 : n ≤ 1000) (hv : val.size ≤ 1000000) (hla : ∀ a ∈ l, a.value.size ≤ 1000000) (w : World) (hI : ActsAt w A l) :
    Calls Tryd.prog 12 #[.bool is, .string val, .slice A n c] w (DoR w (runA (st0 is val) l).rs (runA (st0 is val) l).put (aft (runA (st0 is val) l))) := by
  have HI := Lib.hid hI
  have HN := Lib.hid hn
  have hst : (st0 is val).val.size ≤ 1000000 := by
    cases is
    · exact Nat.zero_le _
    · exact hv
  have HSM := Lib.hid (fun k => runA_small (st0 is val) 1000000 (by decide) (l.take k) hst (fun a ha => hla a (List.mem_of_mem_take ha)))
  clear hI hn hla hst
  cases is with
  | true =>
    go_enter Tryd.func12, Tryd.ntmps12
    go_wp2_with fail
    go_loopw [0, 1, 9, 10, 11] (fun a b d p i wr => RdRel w l true val n a b d p i wr) (fun _ _ _ _ i _ => n - (intOf i).toNat)
    case atStart => exact ⟨0, none, 0, 0, Nat.zero_le _, rfl, rfl, rfl, rfl, rfl, OwnR.nil _ _, Ok.refl _⟩
    case round =>
      obtain ⟨k, A', n', c', hk, rfl, rfl, rfl, rfl, rfl, hown, okr⟩ := hrel
      have HOW := Lib.hid hown
      have HOKR := Lib.hid okr
      clear hown okr
      by_cases hlt : k < n
      · have d1 : decide ((k : Int) < (n : Int)) = true := decide_eq_true (by omega)
        have hkl : k < l.length := by rw [HN.out]; exact hlt
        obtain ⟨b, off, rfl, W0, W1, W2, W3⟩ := HI.out k hkl
        have C0 := Ok.cell HOKR.out W0
        have C1 := Ok.cell HOKR.out W1
        have C2 := Ok.cell HOKR.out W2
        have C3 := Ok.cell HOKR.out W3
        have HW3 := Lib.hid W3
        clear W0 W1 W2 W3
        have HT := Lib.hid (runA_take (st0 true val) l k hkl)
        have HLE : Hid ((runA (st0 true val) (l.take k)).rs.length ≤ 10000) := Lib.hid (by have := (HSM.out k).2; have e : (st0 true val).rs.length = 0 := rfl; rw [List.length_take] at this; omega)
        have HSV := Lib.hid (HSM.out k).1
        have hi0 : (0 : Int) ≤ (k : Int) := Int.natCast_nonneg _
        have hi1 : (k : Int) < (n : Int) := by omega
        clear hkl
        generalize atA l k = a at *
        generalize runA (st0 true val) (l.take k) = s at *
        obtain ⟨kind, key, value, num⟩ := a
        obtain ⟨rs, sis, sval, sput⟩ := s
        simp only at C0 C1 C2 C3 HLE HSV HOW HW3
        have oA : Ok wr (wr.alloc (.cells #[.string key, .bool sis, .string sval] 57)) := (Ok.refl wr).alloc _
        have HOWA := Lib.hid (HOW.out.ok oA)
        have S0 : (wr.alloc (.cells #[.string key, .bool sis, .string sval] 57)).cell? ⟨wr.heap.size, 0, none⟩ = some (.string key) := by rw [World.cell?_alloc_at _ _ _ _ rfl]; rfl
        have S1 : (wr.alloc (.cells #[.string key, .bool sis, .string sval] 57)).cell? ⟨wr.heap.size, 1, none⟩ = some (.bool sis) := by rw [World.cell?_alloc_at _ _ _ _ rfl]; rfl
        have S2 : (wr.alloc (.cells #[.string key, .bool sis, .string sval] 57)).cell? ⟨wr.heap.size, 2, none⟩ = some (.string sval) := by rw [World.cell?_alloc_at _ _ _ _ rfl]; rfl
        have HS := Lib.hid (And.intro S0 (And.intro S1 S2))
        have HOA : Hid (Ok w (wr.alloc (.cells #[.string key, .bool sis, .string sval] 57))) := Lib.hid (HOKR.out.alloc _)
        clear S0 S1 S2 oA
        by_cases k1 : kind = 1
        · subst k1
          have HT2 : Hid (runA (st0 true val) (l.take (k + 1)) = ⟨rs ++ [⟨key, sis, sval⟩], sis, sval, sput⟩) := Lib.hid (by rw [HT.out]; unfold stepA; rw [if_pos rfl])
          clear HT
          go_wp2_with (at_builtin; go_must (refine wpList_appR rfl (.tmp 27) (.tmp 36) rfl w.heap.size A' n' c' rs rfl HOWA.out wr.heap.size ⟨key, sis, sval⟩ rfl HS.out.1 HS.out.2.1 HS.out.2.2 (by have := HLE.out; omega) HOA.out.size ?_; intro A3 c3 w3 hown3 hb3 _; have HOW3 := Lib.hid hown3; have HB3 := Lib.hid hb3; clear hown3 hb3))
          refine ⟨⟨k + 1, A3, n' + 1, c3, hlt, by go_num, by rw [HT2.out], by rw [HT2.out], rfl, by rw [HT2.out], by rw [HT2.out]; exact HOW3.out, Below.trans HOA.out HB3.out⟩, by simp [intOf]; omega⟩
        by_cases k2 : kind = 2
        · subst k2
          have HT2 : Hid (runA (st0 true val) (l.take (k + 1)) = ⟨rs, true, value, true⟩) := Lib.hid (by rw [HT.out]; unfold stepA; rw [if_neg (by show ¬ (2 : Int) = 1; decide), if_pos rfl])
          clear HT HOWA HS
          go_wp2_with fail
          refine ⟨⟨k + 1, A', n', c', hlt, by go_num, by rw [HT2.out], by rw [HT2.out], rfl, by rw [HT2.out], by rw [HT2.out]; exact HOW.out, HOKR.out⟩, by simp [intOf]; omega⟩
        by_cases k3 : kind = 3
        · subst k3
          have HT2 : Hid (runA (st0 true val) (l.take (k + 1)) = ⟨rs ++ [⟨key, sis, sval⟩], true, sumV sval num, true⟩) := Lib.hid (by rw [HT.out]; unfold stepA; rw [if_neg (by show ¬ (3 : Int) = 1; decide), if_neg (by show ¬ (3 : Int) = 2; decide), if_pos rfl])
          have hw := sum_wide sval num
          obtain ⟨x0, x1⟩ := numV_in sval.data.toList
          have HNU := Lib.hid (fun V => rnumber_w sval V HSV.out)
          clear HT
          generalize sumV sval num = sv at *
          generalize numV sval.data.toList = x at *
          have HRV : Hid (∀ V, Calls Tryd.prog 31 #[.int .i64 (x + max (min num 4294967296) (-4294967296))] V (Ret V (.string sv))) := Lib.hid (fun V => by rw [← hw]; exact rvalue_w _ (by omega) (by omega) V)
          have HWR : IntKind.i64.wrap (x + max (min num 4294967296) (-4294967296)) = x + max (min num 4294967296) (-4294967296) := by rw [IntKind.wrap_i64]; omega
          have HOB3 : Hid (∀ w3, Below w.heap.size (wr.alloc (.cells #[.string key, .bool sis, .string sval] 57)) w3 → w3.cell? ⟨b, off + k * 4 + 3, none⟩ = some (.int .i64 num)) := Lib.hid (fun w3 h => Ok.cell (Below.trans HOA.out h) HW3.out)
          clear hw x0 x1
          go_wp2_with (at_builtin; go_must (refine wpList_appR rfl (.tmp 47) (.tmp 56) rfl w.heap.size A' n' c' rs rfl HOWA.out wr.heap.size ⟨key, sis, sval⟩ rfl HS.out.1 HS.out.2.1 HS.out.2.2 (by have := HLE.out; omega) HOA.out.size ?_; intro A3 c3 w3 hown3 hb3 _; have HOW3 := Lib.hid hown3; have HB3 := Lib.hid hb3; have C3 := HOB3.out w3 hb3; clear hown3 hb3))
          go_region_with (first
            | (go_at_call 28; (with_reducible refine (HNU.out _).mono ?_); rintro e wa ⟨rfl, rfl⟩)
            | (go_at_call 31; (with_reducible refine (HRV.out _).mono ?_); rintro e wb ⟨rfl, ob⟩))
          all_goals
            have ok : Ok w3 wb := by (repeat (first | (with_reducible exact Ok.refl _) | (with_reducible assumption) | (with_reducible refine Ok.drew ?_) | (with_reducible refine Ok.alloc ?_ _) | ((with_reducible apply Ok.trans); rotate_left; (with_reducible assumption))))
            go_wp2_with fail
            refine ⟨⟨k + 1, A3, n' + 1, c3, hlt, by go_num, by rw [HT2.out], by rw [HT2.out], rfl, by rw [HT2.out], by rw [HT2.out]; exact HOW3.out.ok ok, Ok.trans (Below.trans HOA.out HB3.out) ok⟩, by simp [intOf]; omega⟩
        have HT2 : Hid (runA (st0 true val) (l.take (k + 1)) = ⟨rs, sis, sval, sput⟩) := Lib.hid (by rw [HT.out]; unfold stepA; rw [if_neg k1, if_neg k2, if_neg k3])
        have e1 : (kind == 1) = false := by simpa using k1
        have e2 : (kind == 2) = false := by simpa using k2
        have e3 : (kind == 3) = false := by simpa using k3
        clear HT HOWA HS k1 k2 k3
        go_wp2_with fail
        refine ⟨⟨k + 1, A', n', c', hlt, by go_num, by rw [HT2.out], by rw [HT2.out], rfl, by rw [HT2.out], by rw [HT2.out]; exact HOW.out, HOKR.out⟩, by simp [intOf]; omega⟩
      · have d1 : decide ((k : Int) < (n : Int)) = false := decide_eq_false (by omega)
        have htk : l.take k = l := List.take_of_length_le (by rw [HN.out]; omega)
        rw [htk] at HOW ⊢
        generalize runA (st0 true val) l = s at *
        obtain ⟨rs, sis, sval, sput⟩ := s
        cases sput with
        | true =>
          go_wp2_with fail
          go_ret3
          exact ⟨A', n', c', rfl, HOW.out, HOKR.out⟩
        | false =>
          go_wp2_with fail
          go_ret3
          exact ⟨A', n', c', rfl, HOW.out, HOKR.out⟩
  | false =>
    go_enter Tryd.func12, Tryd.ntmps12
    go_wp2_with fail
    go_loopw [0, 1, 9, 10, 11] (fun a b d p i wr => RdRel w l false val n a b d p i wr) (fun _ _ _ _ i _ => n - (intOf i).toNat)
    case atStart => exact ⟨0, none, 0, 0, Nat.zero_le _, rfl, rfl, rfl, rfl, rfl, OwnR.nil _ _, Ok.refl _⟩
    case round =>
      obtain ⟨k, A', n', c', hk, rfl, rfl, rfl, rfl, rfl, hown, okr⟩ := hrel
      have HOW := Lib.hid hown
      have HOKR := Lib.hid okr
      clear hown okr
      by_cases hlt : k < n
      · have d1 : decide ((k : Int) < (n : Int)) = true := decide_eq_true (by omega)
        have hkl : k < l.length := by rw [HN.out]; exact hlt
        obtain ⟨b, off, rfl, W0, W1, W2, W3⟩ := HI.out k hkl
        have C0 := Ok.cell HOKR.out W0
        have C1 := Ok.cell HOKR.out W1
        have C2 := Ok.cell HOKR.out W2
        have C3 := Ok.cell HOKR.out W3
        have HW3 := Lib.hid W3
        clear W0 W1 W2 W3
        have HT := Lib.hid (runA_take (st0 false val) l k hkl)
        have HLE : Hid ((runA (st0 false val) (l.take k)).rs.length ≤ 10000) := Lib.hid (by have := (HSM.out k).2; have e : (st0 false val).rs.length = 0 := rfl; rw [List.length_take] at this; omega)
        have HSV := Lib.hid (HSM.out k).1
        have hi0 : (0 : Int) ≤ (k : Int) := Int.natCast_nonneg _
        have hi1 : (k : Int) < (n : Int) := by omega
        clear hkl
        generalize atA l k = a at *
        generalize runA (st0 false val) (l.take k) = s at *
        obtain ⟨kind, key, value, num⟩ := a
        obtain ⟨rs, sis, sval, sput⟩ := s
        simp only at C0 C1 C2 C3 HLE HSV HOW HW3
        have oA : Ok wr (wr.alloc (.cells #[.string key, .bool sis, .string sval] 57)) := (Ok.refl wr).alloc _
        have HOWA := Lib.hid (HOW.out.ok oA)
        have S0 : (wr.alloc (.cells #[.string key, .bool sis, .string sval] 57)).cell? ⟨wr.heap.size, 0, none⟩ = some (.string key) := by rw [World.cell?_alloc_at _ _ _ _ rfl]; rfl
        have S1 : (wr.alloc (.cells #[.string key, .bool sis, .string sval] 57)).cell? ⟨wr.heap.size, 1, none⟩ = some (.bool sis) := by rw [World.cell?_alloc_at _ _ _ _ rfl]; rfl
        have S2 : (wr.alloc (.cells #[.string key, .bool sis, .string sval] 57)).cell? ⟨wr.heap.size, 2, none⟩ = some (.string sval) := by rw [World.cell?_alloc_at _ _ _ _ rfl]; rfl
        have HS := Lib.hid (And.intro S0 (And.intro S1 S2))
        have HOA : Hid (Ok w (wr.alloc (.cells #[.string key, .bool sis, .string sval] 57))) := Lib.hid (HOKR.out.alloc _)
        clear S0 S1 S2 oA
        by_cases k1 : kind = 1
        · subst k1
          have HT2 : Hid (runA (st0 false val) (l.take (k + 1)) = ⟨rs ++ [⟨key, sis, sval⟩], sis, sval, sput⟩) := Lib.hid (by rw [HT.out]; unfold stepA; rw [if_pos rfl])
          clear HT
          go_wp2_with (at_builtin; go_must (refine wpList_appR rfl (.tmp 27) (.tmp 36) rfl w.heap.size A' n' c' rs rfl HOWA.out wr.heap.size ⟨key, sis, sval⟩ rfl HS.out.1 HS.out.2.1 HS.out.2.2 (by have := HLE.out; omega) HOA.out.size ?_; intro A3 c3 w3 hown3 hb3 _; have HOW3 := Lib.hid hown3; have HB3 := Lib.hid hb3; clear hown3 hb3))
          refine ⟨⟨k + 1, A3, n' + 1, c3, hlt, by go_num, by rw [HT2.out], by rw [HT2.out], rfl, by rw [HT2.out], by rw [HT2.out]; exact HOW3.out, Below.trans HOA.out HB3.out⟩, by simp [intOf]; omega⟩
        by_cases k2 : kind = 2
        · subst k2
          have HT2 : Hid (runA (st0 false val) (l.take (k + 1)) = ⟨rs, true, value, true⟩) := Lib.hid (by rw [HT.out]; unfold stepA; rw [if_neg (by show ¬ (2 : Int) = 1; decide), if_pos rfl])
          clear HT HOWA HS
          go_wp2_with fail
          refine ⟨⟨k + 1, A', n', c', hlt, by go_num, by rw [HT2.out], by rw [HT2.out], rfl, by rw [HT2.out], by rw [HT2.out]; exact HOW.out, HOKR.out⟩, by simp [intOf]; omega⟩
        by_cases k3 : kind = 3
        · subst k3
          have HT2 : Hid (runA (st0 false val) (l.take (k + 1)) = ⟨rs ++ [⟨key, sis, sval⟩], true, sumV sval num, true⟩) := Lib.hid (by rw [HT.out]; unfold stepA; rw [if_neg (by show ¬ (3 : Int) = 1; decide), if_neg (by show ¬ (3 : Int) = 2; decide), if_pos rfl])
          have hw := sum_wide sval num
          obtain ⟨x0, x1⟩ := numV_in sval.data.toList
          have HNU := Lib.hid (fun V => rnumber_w sval V HSV.out)
          clear HT
          generalize sumV sval num = sv at *
          generalize numV sval.data.toList = x at *
          have HRV : Hid (∀ V, Calls Tryd.prog 31 #[.int .i64 (x + max (min num 4294967296) (-4294967296))] V (Ret V (.string sv))) := Lib.hid (fun V => by rw [← hw]; exact rvalue_w _ (by omega) (by omega) V)
          have HWR : IntKind.i64.wrap (x + max (min num 4294967296) (-4294967296)) = x + max (min num 4294967296) (-4294967296) := by rw [IntKind.wrap_i64]; omega
          have HOB3 : Hid (∀ w3, Below w.heap.size (wr.alloc (.cells #[.string key, .bool sis, .string sval] 57)) w3 → w3.cell? ⟨b, off + k * 4 + 3, none⟩ = some (.int .i64 num)) := Lib.hid (fun w3 h => Ok.cell (Below.trans HOA.out h) HW3.out)
          clear hw x0 x1
          go_wp2_with (at_builtin; go_must (refine wpList_appR rfl (.tmp 47) (.tmp 56) rfl w.heap.size A' n' c' rs rfl HOWA.out wr.heap.size ⟨key, sis, sval⟩ rfl HS.out.1 HS.out.2.1 HS.out.2.2 (by have := HLE.out; omega) HOA.out.size ?_; intro A3 c3 w3 hown3 hb3 _; have HOW3 := Lib.hid hown3; have HB3 := Lib.hid hb3; have C3 := HOB3.out w3 hb3; clear hown3 hb3))
          go_region_with (first
            | (go_at_call 28; (with_reducible refine (HNU.out _).mono ?_); rintro e wa ⟨rfl, rfl⟩)
            | (go_at_call 31; (with_reducible refine (HRV.out _).mono ?_); rintro e wb ⟨rfl, ob⟩))
          all_goals
            have ok : Ok w3 wb := by (repeat (first | (with_reducible exact Ok.refl _) | (with_reducible assumption) | (with_reducible refine Ok.drew ?_) | (with_reducible refine Ok.alloc ?_ _) | ((with_reducible apply Ok.trans); rotate_left; (with_reducible assumption))))
            go_wp2_with fail
            refine ⟨⟨k + 1, A3, n' + 1, c3, hlt, by go_num, by rw [HT2.out], by rw [HT2.out], rfl, by rw [HT2.out], by rw [HT2.out]; exact HOW3.out.ok ok, Ok.trans (Below.trans HOA.out HB3.out) ok⟩, by simp [intOf]; omega⟩
        have HT2 : Hid (runA (st0 false val) (l.take (k + 1)) = ⟨rs, sis, sval, sput⟩) := Lib.hid (by rw [HT.out]; unfold stepA; rw [if_neg k1, if_neg k2, if_neg k3])
        have e1 : (kind == 1) = false := by simpa using k1
        have e2 : (kind == 2) = false := by simpa using k2
        have e3 : (kind == 3) = false := by simpa using k3
        clear HT HOWA HS k1 k2 k3
        go_wp2_with fail
        refine ⟨⟨k + 1, A', n', c', hlt, by go_num, by rw [HT2.out], by rw [HT2.out], rfl, by rw [HT2.out], by rw [HT2.out]; exact HOW.out, HOKR.out⟩, by simp [intOf]; omega⟩
      · have d1 : decide ((k : Int) < (n : Int)) = false := decide_eq_false (by omega)
        have htk : l.take k = l := List.take_of_length_le (by rw [HN.out]; omega)
        rw [htk] at HOW ⊢
        generalize runA (st0 false val) l = s at *
        obtain ⟨rs, sis, sval, sput⟩ := s
        cases sput with
        | true =>
          go_wp2_with fail
          go_ret3
          exact ⟨A', n', c', rfl, HOW.out, HOKR.out⟩
        | false =>
          go_wp2_with fail
          go_ret3
          exact ⟨A', n', c', rfl, HOW.out, HOKR.out⟩
end Go.Proofs.YthbbbjkgfdnkhaaDoor
