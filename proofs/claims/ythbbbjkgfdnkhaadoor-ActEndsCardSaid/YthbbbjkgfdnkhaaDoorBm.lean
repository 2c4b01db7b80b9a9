/- The reference's Keys, walked. -/
import Derived.Test.YthbbbjkgfdnkhaaDoorBk
import Derived.Test.YthbbbjkgfdnkhaaDoorBp
namespace Go.Proofs.YthbbbjkgfdnkhaaDoor
open Go.RowKit
theorem Ok.dN {w w' : World} (h : Ok w w') (n : Nat) : Ok w (w'.drewN n) := Below.trans h ⟨rfl, rfl, rfl, Nat.le_refl _, fun _ _ => rfl⟩
theorem TxAt.nth {w : World} {A : Option Addr} {zs : List Tx} (h : TxAt w A zs) (j : Nat) (hj : j < zs.length) : ∃ b off, A = some ⟨b, off, none⟩ ∧ w.cell? ⟨b, off + j, none⟩ = some (.string ⟨(zs.getD j []).toArray⟩) := h j hj
theorem less_b (x y : Tx) : Op.bytesLess (⟨x.toArray⟩ : ByteArray).toList y = Op.bytesLess x y := by rw [Go.ByteArray.toList_eq]
def KsRel (w : World) (l : List Ac) (n : Nat) (v i : Value) (wr : World) : Prop := ∃ (k : Nat) (A' : Option Addr) (n' c' : Nat), k ≤ n ∧ i = .int .i64 k ∧ v = .slice A' n' c' ∧ OwnT wr w.heap.size A' n' c' (insL (l.take k)) ∧ Ok w wr
set_option maxRecDepth 100000 in
set_option maxHeartbeats 4000000 in
theorem rkeys_w (A : Option Addr) (n c : Nat) (l : List Ac) (hn : l.length = n) (hn6 : n ≤ 1000) (w : World) (hI : ActsAt w A l) :
    Calls Tryd.prog 23 #[.slice A n c] w (KeysP w (keysT l)) := by
  have HI := Lib.hid hI
  have HN := Lib.hid hn
  clear hI hn
  go_enter Tryd.func23, Tryd.ntmps23
  go_wp2_with fail
  go_loopw [3, 4] (fun v i wr => KsRel w l n v i wr) (fun _ i _ => n - (intOf i).toNat)
  case atStart => exact ⟨0, none, 0, 0, Nat.zero_le _, rfl, rfl, OwnT.nil _ _, Ok.refl _⟩
  case round =>
    obtain ⟨k, A', n', c', hk, rfl, rfl, hown, okr⟩ := hrel
    have HOW := Lib.hid hown
    have HOKR := Lib.hid okr
    have HN' := Lib.hid hown.2
    clear hown okr
    by_cases hlt : k < n
    · have d1 : decide ((k : Int) < (n : Int)) = true := decide_eq_true (by omega)
      have hkl : k < l.length := by rw [HN.out]; exact hlt
      obtain ⟨b, off, rfl, -, C1w, -, -⟩ := HI.out k hkl
      have HBB : Hid (b < w.heap.size) := Lib.hid (World.block_lt_of_cell? _ _ C1w)
      have C1 := Ok.cell HOKR.out C1w
      clear C1w
      have HT := Lib.hid (insL_take l k hkl)
      have hlen : (insL (l.take k)).length ≤ 1000 := by rw [insL_keys]; have := keysT_len (l.take k); rw [List.length_take] at this; omega
      rw [← HN'.out] at hlen
      generalize (atA l k).key = key at *
      generalize insL (l.take k) = zs at *
      have hi0 : (0 : Int) ≤ (k : Int) := Int.natCast_nonneg _
      have hi1 : (k : Int) < (n : Int) := by omega
      clear hkl
      obtain ⟨wo, hwo⟩ : ∃ x, x = wr := ⟨_, rfl⟩
      subst hwo
      go_wp2_with fail
      go_loopw [5] (fun j wx => ∃ q : Nat, q ≤ lowT key.data.toList zs ∧ j = .int .i64 q ∧ Ok wo wx) (fun j _ => n' - (intOf j).toNat)
      case atStart => exact ⟨0, Nat.zero_le _, rfl, Ok.refl _⟩
      case round =>
        obtain ⟨q, hq, rfl, okx⟩ := hrel
        have HOKX := Lib.hid okx
        have hlow := lowT_le key.data.toList zs
        rw [← HN'.out] at hlow
        have K1 := Ok.cell okx C1
        clear okx
        by_cases hql : q < lowT key.data.toList zs
        · have hqn : q < n' := by omega
          have e1 : decide ((q : Int) < (n' : Int)) = true := decide_eq_true (by omega)
          obtain ⟨b2, off2, rfl, D0⟩ := (HOW.out.at.ok HOKX.out) q (by rw [← HN'.out]; exact hqn)
          have e2 := lowT_lt key.data.toList zs q hql
          have e3 : Op.bytesLess (⟨(zs.getD q []).toArray⟩ : ByteArray).toList key.toList = true := by rw [Go.ByteArray.toList_eq, Go.ByteArray.toList_eq]; exact e2
          generalize (⟨(zs.getD q []).toArray⟩ : ByteArray) = sx at *
          have hq0 : (0 : Int) ≤ (q : Int) := Int.natCast_nonneg _
          have hq1 : (q : Int) < (n' : Int) := by omega
          clear e2
          go_wp2_with fail
          go_quiet (fail)
          go_wp2_with fail
          refine ⟨⟨q + 1, hql, by go_num, Below.trans HOKX.out ⟨rfl, rfl, rfl, Nat.le_refl _, fun _ _ => rfl⟩⟩, by simp [intOf]; omega⟩
        · obtain rfl : q = lowT key.data.toList zs := by omega
          have HAT := Lib.hid (lowT_at key.data.toList zs)
          have HINS : Hid (insT zs key.data.toList = if lowT key.data.toList zs < zs.length ∧ zs.getD (lowT key.data.toList zs) [] = key.data.toList then zs else zs.take (lowT key.data.toList zs) ++ key.data.toList :: zs.drop (lowT key.data.toList zs)) := Lib.hid rfl
          have HQ : Hid (lowT key.data.toList zs ≤ n') := Lib.hid hlow
          generalize lowT key.data.toList zs = q at *
          clear hql hq
          by_cases hqn : q < n'
          · have e1 : decide ((q : Int) < (n' : Int)) = true := decide_eq_true (by omega)
            obtain ⟨b2, off2, rfl, D0⟩ := (HOW.out.at.ok HOKX.out) q (by rw [← HN'.out]; exact hqn)
            have e3 : Op.bytesLess (⟨(zs.getD q []).toArray⟩ : ByteArray).toList key.toList = false := by rw [Go.ByteArray.toList_eq, Go.ByteArray.toList_eq]; exact HAT.out (by rw [← HN'.out]; exact hqn)
            have hq0 : (0 : Int) ≤ (q : Int) := Int.natCast_nonneg _
            have hq1 : (q : Int) < (n' : Int) := by omega
            by_cases heq : zs.getD q [] = key.data.toList
            · have e4 : ((⟨(zs.getD q []).toArray⟩ : ByteArray).toList == key.toList) = true := by rw [Go.ByteArray.toList_eq, Go.ByteArray.toList_eq]; simpa using heq
              have HT2 : Hid (insL (l.take (k + 1)) = zs) := Lib.hid (by rw [HT.out, HINS.out, if_pos ⟨by rw [← HN'.out]; exact hqn, heq⟩])
              generalize (⟨(zs.getD q []).toArray⟩ : ByteArray) = sx at *
              clear heq HAT HINS HT
              go_wp2_with fail
              go_quiet (fail)
              go_wp2_with fail
              go_quiet (fail)
              go_wp2_with fail
              refine ⟨⟨k + 1, _, n', c', hlt, by go_num, rfl, by rw [HT2.out]; exact HOW.out.ok (Below.trans (Below.trans HOKX.out ⟨rfl, rfl, rfl, Nat.le_refl _, fun _ _ => rfl⟩) ⟨rfl, rfl, rfl, Nat.le_refl _, fun _ _ => rfl⟩), Ok.trans HOKR.out (Below.trans (Below.trans HOKX.out ⟨rfl, rfl, rfl, Nat.le_refl _, fun _ _ => rfl⟩) ⟨rfl, rfl, rfl, Nat.le_refl _, fun _ _ => rfl⟩)⟩, by simp [intOf]; omega⟩
            · have e4 : ((⟨(zs.getD q []).toArray⟩ : ByteArray).toList == key.toList) = false := by rw [Go.ByteArray.toList_eq, Go.ByteArray.toList_eq]; simpa using heq
              have HT2 : Hid (insL (l.take (k + 1)) = zs.take q ++ key.data.toList :: zs.drop q) := Lib.hid (by rw [HT.out, HINS.out, if_neg (fun h => heq h.2)])
              generalize (⟨(zs.getD q []).toArray⟩ : ByteArray) = sx at *
              clear heq HAT HINS HT
              have hs1 := sliceT_low _ n' c' _ w.heap.size zs HOW.out q (by omega)
              obtain ⟨A2, hs2, hs3, hs4⟩ := sliceT_high _ n' c' _ w.heap.size zs HOW.out q (by omega)
              have HS4 := Lib.hid hs4
              clear hs4
              go_wp2_with fail
              go_quiet (fail)
              go_wp2_with fail
              go_quiet (fail)
              go_wp2_with (at_builtin; go_must (refine wpList_appTN rfl (.tmp 47) (.tmp 50) rfl _ _ 0 0 [] rfl (OwnT.empty _) A2 (n' - q) (c' - q) (zs.drop q) rfl (by rw [List.length_drop, HN'.out]) hs3 (HS4.out _ (by (repeat (first | (with_reducible exact HOKX.out) | (with_reducible refine Ok.dN ?_ _) | (with_reducible refine Ok.drew ?_) | (with_reducible refine Ok.alloc ?_ _))))) (by simp; omega) (by simp) ?_; intro A5 c5 w5 ho5 hb5))
              have okw5 := Ok.trans (Ok.dN HOKX.out _) (Below.trans ((Ok.refl _).alloc _) hb5)
              have HOK5 := Lib.hid okw5
              have HO5 : Hid (OwnT w5 wr.heap.size A5 (n' - q) c5 (zs.drop q)) := Lib.hid (by rw [Nat.zero_add, List.nil_append] at ho5; exact ho5)
              have hlt5 : Hid (∀ k, Value.ownBlock (.slice (some ⟨b2, off2, none⟩) q c') = some k → k < wr.heap.size) := Lib.hid (fun k hk => Nat.lt_of_lt_of_le ((HOW.out.take q (by omega)).below k hk) HOKX.out.size)
              clear ho5 hb5
              have HOW7 : Hid (OwnT ((w5.drew).alloc (.cells #[.string key] 9)) w.heap.size (some ⟨b2, off2, none⟩) q c' (zs.take q)) := Lib.hid (((HOW.out.take q (by omega)).ok okw5).ok (Ok.alloc (Ok.drew (Ok.refl _)) _))
              have K5 := Ok.cell okw5 C1
              clear okw5
              have HBS : Hid (w.heap.size ≤ w5.heap.size) := Lib.hid (Nat.le_trans HOKR.out.size HOK5.out.size)
              have HLQ : Hid ((zs.drop q).length = n' - q) := Lib.hid (by rw [List.length_drop, HN'.out])
              have HK7 : Hid (((w5.drew).alloc (.cells #[.string key] 9)).cell? ⟨b, off + k * 4 + 1, none⟩ = some (.string key)) := Lib.hid (Ok.cell (Ok.alloc (Ok.drew (Ok.refl _)) _) K5)
              have HLT : Hid ((zs.take q).length ≤ 1000000) := Lib.hid (by rw [List.length_take]; omega)
              have HLD : Hid ((zs.take q ++ [key.data.toList]).length + (n' - q) ≤ 100000) := Lib.hid (by rw [List.length_append, List.length_take]; simp; omega)
              go_wp2_with fail
              go_region_held3 (fun w' => w'.cell? ⟨b, off + k * 4 + 1, none⟩ = some (.string key))
                (first | go_keep | exact (Below.cell (p := ⟨b, off + k * 4 + 1, none⟩) hb6 HBB.out).trans HK7.out | exact (Below.cell (p := ⟨b, off + k * 4 + 1, none⟩) hb7 HBB.out).trans ((Below.cell (p := ⟨b, off + k * 4 + 1, none⟩) hb6 HBB.out).trans HK7.out))
                (first | ((refine step_appT (by rfl) _ _ (by rfl) w.heap.size (some ⟨b2, off2, none⟩) q c' (zs.take q) w5.heap.size key (by rfl) (by rfl) HOW7.out (by go_cell) HLT.out (by simp; exact Nat.le_succ_of_le HBS.out) ?_; intro A6 c6 w6 ho6 hb6 hg6)) | ((refine step_appTN (by rfl) _ _ (by rfl) w.heap.size A6 (q + 1) c6 (zs.take q ++ [key.data.toList]) (by rfl) ho6 A5 (n' - q) c5 (zs.drop q) (by rfl) HLQ.out HO5.out.nilcap (TxAt.grown ((HO5.out.ok (Ok.alloc (Ok.drew (Ok.refl _)) _))) hg6 hlt5.out) HLD.out (Nat.le_trans (Nat.le_trans (by simp; exact Nat.le_succ_of_le HBS.out) hb6.size) (Nat.le_refl _)) ?_; intro A7 c7 w7 ho7 hb7)))
              have HF7 := Lib.hid ho7
              have HOF : Hid (Ok w w7) := Lib.hid (Below.trans (Below.trans (Ok.alloc (Ok.drew (Ok.trans HOKR.out HOK5.out)) _) hb6) hb7)
              clear ho7 ho6 hb6 hb7 hg6
              go_wp2_with fail
              refine ⟨⟨k + 1, A7, q + 1 + (n' - q), c7, hlt, by go_num, rfl, ?_, HOF.out⟩, by simp [intOf]; omega⟩
              rw [HT2.out]
              have h9 := HF7.out
              rw [List.append_assoc] at h9
              exact h9
          · have e1 : decide ((q : Int) < (n' : Int)) = false := decide_eq_false (by omega)
            have HT2 : Hid (insL (l.take (k + 1)) = zs.take q ++ key.data.toList :: zs.drop q) := Lib.hid (by rw [HT.out, HINS.out, if_neg (fun h => hqn (by rw [HN'.out]; exact h.1))])
            have hq0 : (0 : Int) ≤ (q : Int) := Int.natCast_nonneg _
            clear HAT HINS HT
            have hqe : q ≤ n' := by have := HQ.out; omega
            have hs1 := sliceT_low _ n' c' _ w.heap.size zs HOW.out q hqe
            obtain ⟨A2, hs2, hs3, hs4⟩ := sliceT_high _ n' c' _ w.heap.size zs HOW.out q hqe
            have HS4 := Lib.hid hs4
            clear hs4
            go_wp2_with fail
            go_quiet (fail)
            go_wp2_with fail
            go_quiet (fail)
            go_wp2_with (at_builtin; go_must (refine wpList_appTN rfl (.tmp 47) (.tmp 50) rfl _ _ 0 0 [] rfl (OwnT.empty _) A2 (n' - q) (c' - q) (zs.drop q) rfl (by rw [List.length_drop, HN'.out]) hs3 (HS4.out _ (by (repeat (first | (with_reducible exact HOKX.out) | (with_reducible refine Ok.dN ?_ _) | (with_reducible refine Ok.drew ?_) | (with_reducible refine Ok.alloc ?_ _))))) (by simp; omega) (by simp) ?_; intro A5 c5 w5 ho5 hb5))
            have okw5 := Ok.trans (Ok.dN HOKX.out _) (Below.trans ((Ok.refl _).alloc _) hb5)
            have HOK5 := Lib.hid okw5
            have HO5 : Hid (OwnT w5 wr.heap.size A5 (n' - q) c5 (zs.drop q)) := Lib.hid (by rw [Nat.zero_add, List.nil_append] at ho5; exact ho5)
            have hlt5 : Hid (∀ k, Value.ownBlock (.slice A' q c') = some k → k < wr.heap.size) := Lib.hid (fun k hk => Nat.lt_of_lt_of_le ((HOW.out.take q (by omega)).below k hk) HOKX.out.size)
            clear ho5 hb5
            have HOW7 : Hid (OwnT ((w5.drew).alloc (.cells #[.string key] 9)) w.heap.size A' q c' (zs.take q)) := Lib.hid (((HOW.out.take q (by omega)).ok okw5).ok (Ok.alloc (Ok.drew (Ok.refl _)) _))
            have K5 := Ok.cell okw5 C1
            clear okw5
            have HBS : Hid (w.heap.size ≤ w5.heap.size) := Lib.hid (Nat.le_trans HOKR.out.size HOK5.out.size)
            have HLQ : Hid ((zs.drop q).length = n' - q) := Lib.hid (by rw [List.length_drop, HN'.out])
            have HK7 : Hid (((w5.drew).alloc (.cells #[.string key] 9)).cell? ⟨b, off + k * 4 + 1, none⟩ = some (.string key)) := Lib.hid (Ok.cell (Ok.alloc (Ok.drew (Ok.refl _)) _) K5)
            have HLT : Hid ((zs.take q).length ≤ 1000000) := Lib.hid (by rw [List.length_take]; omega)
            have HLD : Hid ((zs.take q ++ [key.data.toList]).length + (n' - q) ≤ 100000) := Lib.hid (by rw [List.length_append, List.length_take]; simp; omega)
            go_wp2_with fail
            go_region_held3 (fun w' => w'.cell? ⟨b, off + k * 4 + 1, none⟩ = some (.string key))
              (first | go_keep | exact (Below.cell (p := ⟨b, off + k * 4 + 1, none⟩) hb6 HBB.out).trans HK7.out | exact (Below.cell (p := ⟨b, off + k * 4 + 1, none⟩) hb7 HBB.out).trans ((Below.cell (p := ⟨b, off + k * 4 + 1, none⟩) hb6 HBB.out).trans HK7.out))
              (first | ((refine step_appT (by rfl) _ _ (by rfl) w.heap.size A' q c' (zs.take q) w5.heap.size key (by rfl) (by rfl) HOW7.out (by go_cell) HLT.out (by simp; exact Nat.le_succ_of_le HBS.out) ?_; intro A6 c6 w6 ho6 hb6 hg6)) | ((refine step_appTN (by rfl) _ _ (by rfl) w.heap.size A6 (q + 1) c6 (zs.take q ++ [key.data.toList]) (by rfl) ho6 A5 (n' - q) c5 (zs.drop q) (by rfl) HLQ.out HO5.out.nilcap (TxAt.grown ((HO5.out.ok (Ok.alloc (Ok.drew (Ok.refl _)) _))) hg6 hlt5.out) HLD.out (Nat.le_trans (Nat.le_trans (by simp; exact Nat.le_succ_of_le HBS.out) hb6.size) (Nat.le_refl _)) ?_; intro A7 c7 w7 ho7 hb7)))
            have HF7 := Lib.hid ho7
            have HOF : Hid (Ok w w7) := Lib.hid (Below.trans (Below.trans (Ok.alloc (Ok.drew (Ok.trans HOKR.out HOK5.out)) _) hb6) hb7)
            clear ho7 ho6 hb6 hb7 hg6
            go_wp2_with fail
            refine ⟨⟨k + 1, A7, q + 1 + (n' - q), c7, hlt, by go_num, rfl, ?_, HOF.out⟩, by simp [intOf]; omega⟩
            rw [HT2.out]
            have h9 := HF7.out
            rw [List.append_assoc] at h9
            exact h9
    · have d1 : decide ((k : Int) < (n : Int)) = false := decide_eq_false (by omega)
      have htk : l.take k = l := List.take_of_length_le (by rw [HN.out]; omega)
      have h2 := HOW.out
      rw [htk, insL_keys] at h2
      have HF : Hid (n' = (keysT l).length ∧ TxAt wr A' (keysT l)) := Lib.hid ⟨h2.2, h2.at⟩
      clear h2 htk HOW
      go_wp2_with fail
      go_ret
      exact ⟨A', n', c', rfl, HF.out.1, HF.out.2, HOKR.out⟩
end Go.Proofs.YthbbbjkgfdnkhaaDoor
