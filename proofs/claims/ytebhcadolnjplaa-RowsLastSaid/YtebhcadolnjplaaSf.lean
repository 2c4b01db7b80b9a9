/- Rows: rows are put into a table. -/
import Derived.Test.YtebhcadolnjplaaSe
namespace Go.Proofs.Ytebhcadolnjplaa
open Go.RowKit

/-- The rows xs laid into l, one behind the other. -/
inductive LaidAll (l : List Rw) : List Rw → List Rw → Prop
  | nil : LaidAll l [] l
  | snoc {xs l1 l2 : List Rw} {r : Rw} : LaidAll l xs l1 → Laid l1 r l2 → LaidAll l (xs ++ [r]) l2
theorem LaidAll.spec {l xs l' : List Rw} (hr : Rises l) (h : LaidAll l xs l') : Rises l' ∧ l'.length ≤ l.length + xs.length := by
  induction h with
  | nil => exact ⟨hr, by simp⟩
  | snoc _ h2 ih =>
    obtain ⟨a, _, b⟩ := h2.spec ih.1
    exact ⟨a, by rw [List.length_append, List.length_singleton]; omega⟩
theorem TabY.ok {p : Nat} {A : Option Addr} {n c : Nat} {l : List Rw} {w w' : World} (h : TabY p A n c l w) (k : Ok w w') : TabY p A n c l w' :=
  ⟨k.cell h.c0, k.cell h.c1, fun j => (h.tab.ok k).f j, h.own.ok k⟩
theorem take_one (xs : List Rw) (k : Nat) (h : k < xs.length) : xs.take (k + 1) = xs.take k ++ [rwA xs k] := by
  rw [List.take_add_one, List.getElem?_eq_getElem h]
  unfold rwA
  rw [List.getD_eq_getElem?_getD, List.getElem?_eq_getElem h]
  rfl
def PutP (p : Nat) (l xs : List Rw) (W : World) (e : Ending) (w' : World) : Prop :=
  (allR xs = false ∧ e = .returned (.int .i64 2) ∧ Ok W w') ∨
  (allR xs = true ∧ ∃ l', LaidAll l xs l' ∧ ((400 < l'.length ∧ e = .returned (.int .i64 8) ∧ Ok W w') ∨
    (l'.length ≤ 400 ∧ e = .returned (.int .i64 0) ∧ (∃ A' c', TabAt p A' l'.length c' l' w' ∧ ∀ a, A' = some a → W.heap.size ≤ a.block) ∧ W.grownBy w' (some p))))
set_option maxRecDepth 100000 in
set_option maxHeartbeats 4000000 in
theorem put_fR (p : Nat) (A : Option Addr) (n c : Nat) (l : List Rw) (B : Option Addr) (m d : Nat) (xs : List Rw) (W : World) (h : TabAt p A n c l W) (hn : n ≤ 1000) (hr : Rises l) (hm : xs.length = m) (hm6 : m ≤ 2000) (hx : RowsIn W B xs) :
    Calls Try.prog 46 #[.pointer (some ⟨p, 0, none⟩), .slice B m d] W (PutP p l xs W) := by
  have hno := none85 p W h.c1
  have HT := Lib.hid h
  have HN := Lib.hid hn
  have HR := Lib.hid hr
  have HM := Lib.hid hm
  have HX := Lib.hid hx
  have HM6 := Lib.hid hm6
  clear h hn hr hm hx hm6
  go_enter Try.func46, Try.ntmps46
  go_wp2_with fail
  refine hno.mono ?_
  clear hno
  rintro _ w1 ⟨rfl, o1⟩
  have HO1 := Lib.hid o1
  clear o1
  have hct := contains_f B m d xs w1 HM.out (Nat.le_trans HM6.out (by decide)) (HX.out.ok HO1.out)
  go_wp2_with fail
  refine hct.mono ?_
  clear hct
  rintro _ w2 ⟨rfl, o2⟩
  have HO2 : Hid (Ok W w2) := Lib.hid (HO1.out.trans o2)
  clear o2 HO1
  cases hall : allR xs with
  | false =>
    have HALL := Lib.hid hall
    clear hall
    go_wp2_with fail
    go_ret
    exact .inl ⟨HALL.out, rfl, HO2.out⟩
  | true =>
    have HALL := Lib.hid hall
    clear hall
    have hcp := copy_f p A n c l w2 (HT.out.ok HO2.out) HN.out
    go_wp2_with fail
    refine hcp.mono ?_
    clear hcp
    rintro _ w3 ⟨q, A0, c0, rfl, hq, hT3, o3⟩
    have HQ : Hid (W.heap.size ≤ q) := Lib.hid (Nat.le_trans HO2.out.size hq)
    have HT3 := Lib.hid hT3
    have HTP := Lib.hid HT.out
    clear HT
    have HO3 : Hid (Ok W w3) := Lib.hid (HO2.out.trans o3)
    clear hq hT3 o3 HO2
    go_wp2_with fail
    go_loopw [16] (fun v wr => ∃ (k : Nat) (A1 : Option Addr) (n1 c1 : Nat) (l1 : List Rw), k ≤ m ∧ v = .int .i64 k ∧ LaidAll l (xs.take k) l1 ∧ TabY q A1 n1 c1 l1 wr ∧ Ok W wr) (fun v _ => m - (intOf v).toNat)
    case atStart => exact ⟨0, A0, n, c0, l, Nat.zero_le _, rfl, .nil, HT3.out, HO3.out⟩
    case round =>
      obtain ⟨k, A1, n1, c1, l1, hk, rfl, hla, htk, okr⟩ := hrel
      have HLA := Lib.hid hla
      have HT := Lib.hid htk
      have HOK := Lib.hid okr
      clear hla htk okr HT3 HO3
      by_cases hlt : k < m
      · have d1 : decide ((k : Int) < (m : Int)) = true := decide_eq_true (by omega)
        obtain ⟨b, off, rfl, x0, x1⟩ := HX.out.ok HOK.out k (by rw [HM.out]; exact hlt)
        have HN1 : Hid (n1 ≤ 100000) := Lib.hid (by
          have := (HLA.out.spec HR.out).2
          rw [HT.out.own.1, List.length_take, HTP.out.own.1] at this
          have := HN.out; have := HM6.out
          omega)
        have HR1 : Hid (Rises l1) := Lib.hid (HLA.out.spec HR.out).1
        have HKL : Hid (xs.take (k + 1) = xs.take k ++ [⟨(rwA xs k).key, (rwA xs k).val⟩]) := Lib.hid (take_one xs k (by rw [HM.out]; exact hlt))
        generalize (rwA xs k).key = km at *
        generalize (rwA xs k).val = vm at *
        have hi0 : (0 : Int) ≤ (k : Int) := Int.natCast_nonneg _
        have hi1 : (k : Int) < (m : Int) := by omega
        obtain ⟨z, hz⟩ : ∃ z, wr.heap.size = z := ⟨_, rfl⟩
        have HZC : Hid ((wr.alloc (.cells #[.string km, .string vm] 105)).cell? ⟨z, 0, none⟩ = some (.string km) ∧ (wr.alloc (.cells #[.string km, .string vm] 105)).cell? ⟨z, 1, none⟩ = some (.string vm)) := Lib.hid (by rw [← hz]; exact two_new wr _ _ _)
        have HZ : Hid (Ok wr (wr.alloc (.cells #[.string km, .string vm] 105))) := Lib.hid ((Ok.refl wr).alloc _)
        go_upto_region 9 with fail
        rename_i K0 Q0 hK0
        have HK0 := Lib.hid hK0
        clear hK0 hz x0 x1
        generalize wr.alloc (.cells #[.string km, .string vm] 105) = w0 at *
        have z0 := HZC.out.1
        have z1 := HZC.out.2
        refine Until.begin (S := fun V => V.cell? ⟨z, 0, none⟩ = some (.string km) ∧ V.cell? ⟨z, 1, none⟩ = some (.string vm)) (j := 4) (by kernel_rfl) ?_ ?_
        · exact ⟨(Ok.refl w0).drew.cell z0, (Ok.refl w0).drew.cell z1⟩
        intro hS
        have HD : Hid (Ok w0 w0.drew) := Lib.hid ((Ok.refl w0).drew)
        generalize w0.drew = V0 at *
        clear z0 z1
        refine Until.take0 (i := 0) (v := ?v0) rfl (by kernel_rfl) (by kernel_rfl) (by kernel_rfl) (by kernel_rfl) (fun _ _ _ h => h) (Or.inl ⟨by rfl, ?hy0⟩) (fun _ => hS) ?rest0
        case hy0 => ((intro w hSw); clear hSw; go_simp; (try with_reducible rfl))
        try go_frame
        refine Until.take0 (i := 1) (v := ?v1) rfl (by kernel_rfl) (by kernel_rfl) (by kernel_rfl) (by kernel_rfl) (fun _ _ _ h => h) (Or.inl ⟨by rfl, ?hy1⟩) (fun _ => hS) ?rest1
        case hy1 => ((intro w hSw); clear hSw; go_simp; (try with_reducible rfl))
        try go_frame
        refine Until.take0 (i := 2) (v := ?v2) rfl (by kernel_rfl) (by kernel_rfl) (by kernel_rfl) (by kernel_rfl) (fun _ _ _ h => h) (Or.inl ⟨by rfl, ?hy2⟩) (fun _ => hS) ?rest2
        case hy2 => ((intro w hSw); clear hSw; go_simp; (try with_reducible rfl))
        try go_frame
        refine Until.take (i := 3) (v := ?v3) rfl (by kernel_rfl) (by kernel_rfl) (by kernel_rfl) (by kernel_rfl) (fun _ _ _ h => h) (Or.inl ⟨by rfl, ?hy3⟩) hS ?rest3
        case hy3 => ((intro w hSw; (try dsimp only at hSw)); obtain ⟨s0, s1⟩ := hSw; go_simp; (try with_reducible rfl))
        try go_frame
        refine Until.one (i := 4) (by kernel_rfl) rfl (fun K hK => ?_)
        have HK := Lib.hid hK
        clear hK
        go_simp
        refine (lay_f q A1 n1 c1 l1 km vm V0 (HT.out.ok (HZ.out.trans HD.out)) HN1.out HR1.out).mono ?_
        rintro _ V1 ⟨rfl, A2, n2, c2, l2, hlaid, htab, hbl⟩
        have HLD := Lib.hid hlaid
        have HT2 := Lib.hid htab
        have HB2 := Lib.hid hbl
        clear hlaid htab hbl
        refine HK.out.out _ _ (fun h => absurd (h.symm.trans (by kernel_rfl : _ = true)) Bool.false_ne_true) (fun _ => ?_)
        clear HK K
        try go_frame
        refine Until.done (by kernel_rfl) ?_ _
        refine HK0.out _ _ ?_
        clear HK0
        have HF : Hid (LaidAll l (xs.take (k + 1)) l2 ∧ Ok W V1) := Lib.hid ⟨by rw [HKL.out]; exact .snoc HLA.out HLD.out, by
          have b1 : Ok W V0 := HOK.out.trans (HZ.out.trans HD.out)
          exact Below.trans b1 (Below.mono HB2.out HQ.out)⟩
        have e1 : IntKind.i64.wrap ((k : Int) + 1) = (k : Int) + 1 := IntWalk.i64_in _ (by have := HM6.out; omega)
        have HLT : Hid (m - ((k : Int) + 1).toNat < m - (k : Int).toNat) := Lib.hid (by omega)
        go_wp2_with fail
        exact ⟨⟨k + 1, A2, n2, c2, l2, hlt, rfl, HF.out.1, HT2.out, HF.out.2⟩, HLT.out⟩
      · have d1 : decide ((k : Int) < (m : Int)) = false := decide_eq_false (by omega)
        obtain rfl : k = m := by omega
        have HXS : Hid (xs.take k = xs) := Lib.hid (List.take_of_length_le (by rw [HM.out]; exact Nat.le_refl _))
        have c0 := HT.out.c0
        have HLN : Hid (l1.length = n1) := Lib.hid HT.out.own.1
        by_cases hbig : 400 < n1
        · have d2 : decide ((n1 : Int) > 400) = true := decide_eq_true (by omega)
          go_wp2_with fail
          go_ret
          exact .inr ⟨HALL.out, l1, by have := HLA.out; rwa [HXS.out] at this, .inl ⟨by rw [HLN.out]; exact hbig, rfl, HOK.out⟩⟩
        · have d2 : decide ((n1 : Int) > 400) = false := decide_eq_false (by omega)
          have p0 := HOK.out.cell HTP.out.c0
          have f0 : wr.frozen? ⟨p, 0, none⟩ = false := (HTP.out.ok HOK.out).f 0
          go_wp2_with fail
          go_ret
          refine .inr ⟨HALL.out, l1, by have := HLA.out; rwa [HXS.out] at this, .inr ⟨by rw [HLN.out]; omega, rfl, ⟨A1, c1, ?_, fun a e => by have := (HT.out.own.2.lt a.block (by rw [e]; rfl)).1; have := HQ.out; omega⟩, ?_⟩⟩
          · rw [HLN.out]
            have hpq : p ≠ q := by have := HTP.out.lt; have := HQ.out; omega
            have hA : ∀ a, A1 = some a → q + 1 ≤ a.block := fun a e => (HT.out.own.2.lt a.block (by rw [e]; rfl)).1
            have hpl := HTP.out.lt
            have hq := HQ.out
            refine ⟨World.cell?_setCell_same _ _ _ p0, ?_, ?_, ?_, fun a e => by have := hA a e; omega⟩
            · rw [World.cell?_setCell_other _ _ _ _ (fun e => by simp at e)]; exact HOK.out.cell HTP.out.c1
            · intro j
              rw [World.frozen?_setCell]; exact (HTP.out.ok HOK.out).f j
            · have := HT.out.own.far (p := p) (by omega) 0 (.slice A1 n1 c1)
              exact ⟨this.1, ownsRow_base this.2 (Nat.zero_le _)⟩
          · exact ⟨HOK.out.os, HOK.out.tape, HOK.out.output, by simp only [World.size_setCell]; exact HOK.out.size, fun j hj hn => by
              rw [Below.heap_setCell _ ⟨p, 0, none⟩ _ j (fun e => hn (by rw [e]))]; exact HOK.out.block j hj⟩
end Go.Proofs.Ytebhcadolnjplaa
