/- Acts of one key done, one behind the other. -/
import Derived.Test.YthbbbjkgfdnkhaaDoorAg
namespace Go.Proofs.YthbbbjkgfdnkhaaDoor
open Go.RowKit Go.ChangeMaps
def fv (p k : Nat) : Value := .func (Fn.func k) #[.pointer (some ⟨p, 0, none⟩)] #[]
def tabL (p : Nat) : List (Int × Value) := [(1, fv p 34), (2, fv p 35), (3, fv p 36)]
theorem tab_no (p : Nat) (k : Int) (h1 : k ≠ 1) (h2 : k ≠ 2) (h3 : k ≠ 3) : (tabL p).find? (fun q => q.1 == k) = none := by
  simp [tabL, Ne.symm h1, Ne.symm h2, Ne.symm h3]
def DoP (w : World) (s : St) (e : Ending) (w' : World) : Prop := ∃ (A : Option Addr) (n c : Nat), e = .returned (.tuple #[.slice A n c, .bool s.put, .string (if s.put = true then s.val else ⟨#[]⟩)]) ∧ OwnR w' w.heap.size A n c s.rs ∧ Ok w w'
/-- What stands between rounds. -/
structure Rnd (p : Nat) (V wr : World) (s : St) : Prop where
  pl : ∃ A n c, Pl p wr A n c s.rs s.is s.val s.put
  tab : Tab wr (p + 1) (tabL p)
  below : Below p V wr
  tq : Tq p wr
theorem Rnd.call {p : Nat} {V wr w' : World} {s s' : St} (h : Rnd p V wr s) (hpl : ∃ A n c, Pl p w' A n c s'.rs s'.is s'.val s'.put) (hb : Below p wr w') (hk : Kq p wr w') : Rnd p V w' s' where
  pl := hpl
  tab := h.tab.kq hk (by omega)
  below := h.below.trans hb
  tq := h.tq.on hb
theorem Rnd.ok {p : Nat} {V wr w' : World} {s : St} (h : Rnd p V wr s) (k : Ok wr w') : Rnd p V w' s where
  pl := by obtain ⟨A, n, c, h1⟩ := h.pl; exact ⟨A, n, c, h1.ok k⟩
  tab := h.tab.ok k
  below := h.below.trans (Below.mono k (by obtain ⟨A, n, c, h1⟩ := h.pl; exact Nat.le_of_lt h1.lt))
  tq := h.tq.on (Below.mono k (by obtain ⟨A, n, c, h1⟩ := h.pl; exact Nat.le_of_lt h1.lt))
def PlNew (p : Nat) (w : World) (is : Bool) (val : Str) (wx : World) : Prop := Pl p wx none 0 0 [] is (if is = true then val else ⟨#[]⟩) false ∧ Ok w wx ∧ wx.heap.size = p + 1
theorem OwnR.base {w : World} {B B' : Nat} {A : Option Addr} {n c : Nat} {xs : List Rd} (h : OwnR w B A n c xs) (hb : B' ≤ B) : OwnR w B' A n c xs := by
  refine ⟨⟨h.1.1, ?_⟩, h.2⟩
  rcases h.1.2 with h2 | ⟨g, cap, cur, e, hbb, r⟩
  · exact .inl h2
  · exact .inr ⟨g, cap, cur, e, Nat.le_trans hb hbb, r⟩
theorem frz_raw {w : World} {p ty : Nat} {cs : Array Value} (h : w.heap[p]? = some (.cells cs ty (0, 0))) (i : Nat) : w.frozen? ⟨p, i, none⟩ = false := by
  simp [World.frozen?, h]
theorem pl_new {w : World} {p : Nat} (hp : w.heap.size = p) (is : Bool) (v : Str) : Pl p (w.alloc (.cells #[.slice none 0 0, .bool is, .string v, .bool false] 63)) none 0 0 [] is v false := by
  have h := blk_new (o := .cells #[.slice none 0 0, .bool is, .string v, .bool false] 63) hp
  exact ⟨by rw [cell_of_heap h]; rfl, OwnR.nil _ _, by rw [cell_of_heap h]; rfl, by rw [cell_of_heap h]; rfl, by rw [cell_of_heap h]; rfl, frz_raw h 0, frz_raw h 1, frz_raw h 2, frz_raw h 3⟩
theorem new_size {w : World} {p : Nat} (hp : w.heap.size = p) (o : Obj) : (w.alloc o).heap.size = p + 1 := by simp [hp]
set_option maxRecDepth 100000 in
set_option maxHeartbeats 4000000 in
theorem do_w (is : Bool) (val : Str) (A : Option Addr) (n c : Nat) (l : List Ac) (hn : l.length = n) (hn40 : n ≤ 1000) (hv : val.size ≤ 1000000) (hla : ∀ a ∈ l, a.value.size ≤ 1000000) (w : World) (ht : Tb w) (hI : ActsAt w A l) :
    Calls Tryd.prog 11 #[.bool is, .string val, .slice A n c] w (DoP w (runA (st0 is val) l)) := by
  have hmm := @run_makeMap Tryd.prog
  have HI := Lib.hid hI
  have HN := Lib.hid hn
  have HSM := Lib.hid (fun k => runA_small (st0 is val) 1000000 (by decide) (l.take k) (by unfold st0; simp only; split; exact hv; exact Nat.zero_le _) (fun a ha => hla a (List.mem_of_mem_take ha)))
  have HTQ := Lib.hid (Tq.of ht)
  have HST : Hid (st0 is val = ⟨[], is, if is = true then val else ⟨#[]⟩, false⟩) := Lib.hid rfl
  clear hI hn hv hla ht
  obtain ⟨p, hp⟩ : ∃ p, w.heap.size = p := ⟨_, rfl⟩
  have HP := Lib.hid hp
  go_enter Tryd.func11, Tryd.ntmps11
  go_upto_if 18 with fail
  go_cut [19, 20, 21, 22] from 19 to 22 (fun _ _ _ _ wx => PlNew p w is val wx)
  case first =>
    cases is with
    | true =>
      go_wp2_with fail
      go_meet
      exact ⟨pl_new HP.out true val, (Ok.refl w).alloc _, new_size HP.out _⟩
    | false =>
      go_wp2_with fail
      go_meet
      exact ⟨pl_new HP.out false _, (Ok.refl w).alloc _, new_size HP.out _⟩
  case rest =>
  obtain ⟨w1, hw1⟩ : ∃ v, v = wc := ⟨_, rfl⟩
  subst hw1
  obtain ⟨hpl, hk1, hz1⟩ := hcut
  have HPL := Lib.hid hpl
  have HK1 := Lib.hid hk1
  have hz1' : w1.heap.size = p + 1 := hz1
  have T0 : Hid (Tab (w1.alloc (.map #[] 0)) (p + 1) []) := Lib.hid (by have := Tab.new w1; rwa [hz1] at this)
  have K0 : Hid (Ok w1 (w1.alloc (.map #[] 0))) := Lib.hid ((Ok.refl w1).alloc _)
  have hbs : w1.heap.size ≤ p + 1 := by omega
  have tk0 : True := trivial
  clear hpl hk1 hz1
  go_wp2_with (first
    | (have _t := tk0; refine wpList_ins rfl _ _ _ rfl (p + 1) [] T0.out 1 (fv p 34) rfl rfl rfl rfl w1.heap.size hbs ?_; intro w2 t2 b2; have T1 := Lib.hid t2; have OK1 : Hid (Ok w1 w2) := Lib.hid (Below.trans K0.out b2); have tk1 : True := trivial; clear t2 b2 tk0)
    | (have _t := tk1; refine wpList_ins rfl _ _ _ rfl (p + 1) [(1, fv p 34)] T1.out 2 (fv p 35) rfl rfl rfl rfl w1.heap.size hbs ?_; intro w3 t3 b3; have T2 := Lib.hid t3; have OK2 : Hid (Ok w1 w3) := Lib.hid (Below.trans OK1.out b3); have tk2 : True := trivial; clear t3 b3 tk1)
    | (have _t := tk2; refine wpList_ins rfl _ _ _ rfl (p + 1) [(1, fv p 34), (2, fv p 35)] T2.out 3 (fv p 36) rfl rfl rfl rfl w1.heap.size hbs ?_; intro w4 t4 b4; have T3 := Lib.hid t4; have OK3 : Hid (Ok w1 w4) := Lib.hid (Below.trans OK2.out b4); have tk3 : True := trivial; clear t4 b4 tk2))
  have HR0 : Hid (Rnd p w1 w4 (runA (st0 is val) (l.take 0))) := Lib.hid (by
    have htq : Tq p w4 := by have h := HTQ.out; rw [HP.out] at h; exact h.on (Below.mono (Ok.trans HK1.out OK3.out) (by rw [HP.out]; exact Nat.le_refl _))
    refine ⟨⟨none, 0, 0, ?_⟩, T3.out, Below.mono OK3.out (by omega), htq⟩
    exact HPL.out.ok OK3.out)
  clear HPL T0 T1 T2 T3 K0 OK1 OK2 HTQ HST tk3
  go_loopw [12, 13, 14, 33] (fun _ _ _ i wr => ∃ k : Nat, k ≤ n ∧ i = .int .i64 k ∧ Rnd p w1 wr (runA (st0 is val) (l.take k))) (fun _ _ _ i _ => n - (intOf i).toNat)
  case atStart => exact ⟨0, Nat.zero_le _, rfl, HR0.out⟩
  case round =>
  obtain ⟨k, hk, rfl, hrnd⟩ := hrel
  have HRN := Lib.hid hrnd
  clear hrnd HR0
  by_cases hlt : k < n
  · have d1 : decide ((k : Int) < (n : Int)) = true := decide_eq_true (by omega)
    have hkl : k < l.length := by rw [HN.out]; exact hlt
    obtain ⟨b, off, rfl, h0, h1, h2, h3⟩ := HI.out k hkl
    have hbp : b < p := by have := World.block_lt_of_cell? _ _ h0; rw [← HP.out]; exact this
    have C0 : wr.cell? ⟨b, off + k * 4, none⟩ = some (.int .u8 (atA l k).kind) := by rw [HRN.out.below.cell (p := ⟨b, off + k * 4, none⟩) hbp]; exact HK1.out.cell h0
    have C1 : wr.cell? ⟨b, off + k * 4 + 1, none⟩ = some (.string (atA l k).key) := by rw [HRN.out.below.cell (p := ⟨b, off + k * 4 + 1, none⟩) hbp]; exact HK1.out.cell h1
    have C2 : wr.cell? ⟨b, off + k * 4 + 2, none⟩ = some (.string (atA l k).value) := by rw [HRN.out.below.cell (p := ⟨b, off + k * 4 + 2, none⟩) hbp]; exact HK1.out.cell h2
    have C3 : wr.cell? ⟨b, off + k * 4 + 3, none⟩ = some (.int .i64 (atA l k).num) := by rw [HRN.out.below.cell (p := ⟨b, off + k * 4 + 3, none⟩) hbp]; exact HK1.out.cell h3
    have HTK := Lib.hid (runA_take (st0 is val) l k hkl)
    have HSK := Lib.hid (HSM.out k)
    have HLK : Hid ((l.take k).length ≤ 1000) := Lib.hid (by rw [List.length_take]; omega)
    have HRSL : Hid ((runA (st0 is val) (l.take k)).rs.length ≤ 10000) := Lib.hid (by have := HSK.out.2; have := HLK.out; have : (st0 is val).rs.length = 0 := rfl; omega)
    have hi0 : (0 : Int) ≤ (k : Int) := Int.natCast_nonneg _
    have hi1 : (k : Int) < (n : Int) := by omega
    clear h0 h1 h2 h3 hkl HSM
    generalize atA l k = a at *
    generalize runA (st0 is val) (l.take k) = s at *
    obtain ⟨kind, key, value, num⟩ := a
    simp only at C0 C1 C2 C3
    have oV := (Ok.refl wr).alloc (.cells #[.int .u8 kind, .string key, .string value, .int .i64 num] 52)
    have HRV := Lib.hid (HRN.out.ok oV)
    obtain ⟨L1, L2⟩ := run_lookok _ _ _ HRV.out.tab kind
    have K0 : (wr.alloc (.cells #[.int .u8 kind, .string key, .string value, .int .i64 num] 52)).cell? ⟨wr.heap.size, 0, none⟩ = some (.int .u8 kind) := by rw [World.cell?_alloc_at _ _ _ _ rfl]; rfl
    have K1 : (wr.alloc (.cells #[.int .u8 kind, .string key, .string value, .int .i64 num] 52)).cell? ⟨wr.heap.size, 1, none⟩ = some (.string key) := by rw [World.cell?_alloc_at _ _ _ _ rfl]; rfl
    have K2 : (wr.alloc (.cells #[.int .u8 kind, .string key, .string value, .int .i64 num] 52)).cell? ⟨wr.heap.size, 2, none⟩ = some (.string value) := by rw [World.cell?_alloc_at _ _ _ _ rfl]; rfl
    have K3 : (wr.alloc (.cells #[.int .u8 kind, .string key, .string value, .int .i64 num] 52)).cell? ⟨wr.heap.size, 3, none⟩ = some (.int .i64 num) := by rw [World.cell?_alloc_at _ _ _ _ rfl]; rfl
    have HL1 := Lib.hid L1
    have HL2 := Lib.hid L2
    clear L1 L2 oV
    by_cases k1 : kind = 1
    · subst k1
      have hlk : (Instr.lookup 65 (.map (some (p + 1))) (.int .u8 1) true).run Tryd.prog (wr.alloc (.cells #[.int .u8 1, .string key, .string value, .int .i64 num] 52)) = .ok (.tuple #[.func (Fn.func 34) #[.pointer (some ⟨p, 0, none⟩)] #[], .bool true]) (wr.alloc (.cells #[.int .u8 1, .string key, .string value, .int .i64 num] 52)) := HL1.out _ rfl
      have hst : stepA s ⟨1, key, value, num⟩ = ⟨s.rs ++ [⟨key, s.is, s.val⟩], s.is, s.val, s.put⟩ := by unfold stepA; rw [if_pos rfl]
      obtain ⟨A1, n1, c1, hpl1⟩ := HRV.out.pl
      have HC := Lib.hid (doGet_w p _ A1 n1 c1 s.rs s.is s.val s.put hpl1 HRSL.out ⟨1, key, value, num⟩)
      have HST2 := Lib.hid hst
      clear HL1 HL2 hst hpl1
      unfold acV at HC
      simp only at HC
      go_wp2_with fail
      (with_reducible refine HC.out.mono ?_)
      rintro _ w5 ⟨rfl, hpl5, hb5, hk5⟩
      have HR5 : Hid (Rnd p w1 w5 (stepA s ⟨1, key, value, num⟩)) := Lib.hid (by rw [HST2.out]; exact HRV.out.call (s' := ⟨s.rs ++ [⟨key, s.is, s.val⟩], s.is, s.val, s.put⟩) hpl5 hb5 hk5)
      clear hpl5 hb5 hk5 hlk
      go_wp2_with fail
      refine ⟨⟨k + 1, by omega, by go_num, by rw [HTK.out]; exact HR5.out⟩, by simp [intOf]; omega⟩
    by_cases k2 : kind = 2
    · subst k2
      have hlk : (Instr.lookup 65 (.map (some (p + 1))) (.int .u8 2) true).run Tryd.prog (wr.alloc (.cells #[.int .u8 2, .string key, .string value, .int .i64 num] 52)) = .ok (.tuple #[.func (Fn.func 35) #[.pointer (some ⟨p, 0, none⟩)] #[], .bool true]) (wr.alloc (.cells #[.int .u8 2, .string key, .string value, .int .i64 num] 52)) := HL1.out _ rfl
      have hst : stepA s ⟨2, key, value, num⟩ = ⟨s.rs, true, value, true⟩ := by unfold stepA; rw [if_neg (by show ¬ (2 : Int) = 1; decide), if_pos rfl]
      obtain ⟨A1, n1, c1, hpl1⟩ := HRV.out.pl
      have HC := Lib.hid (doPut_w p _ A1 n1 c1 s.rs s.is s.val s.put hpl1 ⟨2, key, value, num⟩)
      have HST2 := Lib.hid hst
      clear HL1 HL2 hst hpl1
      unfold acV at HC
      simp only at HC
      go_wp2_with fail
      (with_reducible refine HC.out.mono ?_)
      rintro _ w5 ⟨rfl, hpl5, hb5, hk5⟩
      have HR5 : Hid (Rnd p w1 w5 (stepA s ⟨2, key, value, num⟩)) := Lib.hid (by rw [HST2.out]; exact HRV.out.call (s' := ⟨s.rs, true, value, true⟩) hpl5 hb5 hk5)
      clear hpl5 hb5 hk5 hlk
      go_wp2_with fail
      refine ⟨⟨k + 1, by omega, by go_num, by rw [HTK.out]; exact HR5.out⟩, by simp [intOf]; omega⟩
    by_cases k3 : kind = 3
    · subst k3
      have hlk : (Instr.lookup 65 (.map (some (p + 1))) (.int .u8 3) true).run Tryd.prog (wr.alloc (.cells #[.int .u8 3, .string key, .string value, .int .i64 num] 52)) = .ok (.tuple #[.func (Fn.func 36) #[.pointer (some ⟨p, 0, none⟩)] #[], .bool true]) (wr.alloc (.cells #[.int .u8 3, .string key, .string value, .int .i64 num] 52)) := HL1.out _ rfl
      have hst : stepA s ⟨3, key, value, num⟩ = ⟨s.rs ++ [⟨key, s.is, s.val⟩], true, sumV s.val num, true⟩ := by unfold stepA; rw [if_neg (by show ¬ (3 : Int) = 1; decide), if_neg (by show ¬ (3 : Int) = 2; decide), if_pos rfl]
      obtain ⟨A1, n1, c1, hpl1⟩ := HRV.out.pl
      have HC := Lib.hid (doAdd_w p _ HRV.out.tq A1 n1 c1 s.rs s.is s.val s.put hpl1 HRSL.out HSK.out.1 ⟨3, key, value, num⟩)
      have HST2 := Lib.hid hst
      clear HL1 HL2 hst hpl1
      unfold acV at HC
      simp only at HC
      go_wp2_with fail
      (with_reducible refine HC.out.mono ?_)
      rintro _ w5 ⟨rfl, hpl5, hb5, hk5⟩
      have HR5 : Hid (Rnd p w1 w5 (stepA s ⟨3, key, value, num⟩)) := Lib.hid (by rw [HST2.out]; exact HRV.out.call (s' := ⟨s.rs ++ [⟨key, s.is, s.val⟩], true, sumV s.val num, true⟩) hpl5 hb5 hk5)
      clear hpl5 hb5 hk5 hlk
      go_wp2_with fail
      refine ⟨⟨k + 1, by omega, by go_num, by rw [HTK.out]; exact HR5.out⟩, by simp [intOf]; omega⟩
    have hlk := HL2.out (tab_no p kind k1 k2 k3)
    have HST2 : Hid (stepA s ⟨kind, key, value, num⟩ = s) := Lib.hid (by unfold stepA; rw [if_neg k1, if_neg k2, if_neg k3])
    clear HL1 HL2 k1 k2 k3
    go_wp2_with fail
    refine ⟨⟨k + 1, by omega, by go_num, by rw [HTK.out, HST2.out]; exact HRV.out⟩, by simp [intOf]; omega⟩
  · have d1 : decide ((k : Int) < (n : Int)) = false := decide_eq_false (by omega)
    have hkn : l.take k = l := List.take_of_length_le (by rw [HN.out]; omega)
    rw [hkn] at HRN
    clear hkn HSM HI
    generalize runA (st0 is val) l = s at *
    obtain ⟨A1, n1, c1, hpl⟩ := HRN.out.pl
    obtain ⟨rs, is2, val2, put⟩ := s
    simp only at hpl
    have HPL := Lib.hid hpl
    obtain ⟨C0, -, -, C2, C3, -, -, -, -⟩ := hpl
    have HEND : Hid (∀ w', Ok wr w' → OwnR w' w.heap.size A1 n1 c1 rs ∧ Ok w w') := Lib.hid fun w' k' => ⟨(HPL.out.own.ok k').base (by rw [HP.out]; omega), by have hb := Below.trans (Below.mono HK1.out (by rw [HP.out]; exact Nat.le_refl p)) (HRN.out.below.trans (Below.mono k' (Nat.le_of_lt HPL.out.lt))); unfold Ok; rw [HP.out]; exact hb⟩
    clear HRN HPL
    cases put with
    | true =>
      go_wp2_with fail
      go_quiet (fail)
      go_wp2_with fail
      go_ret3
      have he := HEND.out (wr.drewN nq) ⟨rfl, rfl, rfl, Nat.le_refl _, fun _ _ => rfl⟩
      exact ⟨A1, n1, c1, rfl, he.1, he.2⟩
    | false =>
      go_wp2_with fail
      go_quiet (fail)
      go_wp2_with fail
      go_ret3
      have he := HEND.out (wr.drewN nq) ⟨rfl, rfl, rfl, Nat.le_refl _, fun _ _ => rfl⟩
      exact ⟨A1, n1, c1, rfl, he.1, he.2⟩
end Go.Proofs.YthbbbjkgfdnkhaaDoor
