/- Frames of bytes, by definition, walked. -/
import Derived.Test.YtpebnlddmjfomaaDoorGn
namespace Go.Proofs.YtpebnlddmjfomaaDoor
open Go.RowKit
def RGetP (w : World) (bs : List B8) (e : Ending) (w' : World) : Prop := ∃ (A : Option Addr) (c : Nat) (xs : List Fr) (r : List B8), e = .returned (.tuple #[.slice A xs.length c, .int .i64 ((putL xs).length : Nat)]) ∧ Got bs xs r ∧ FramesAt w' A xs ∧ Ok w w'
/-- What waits in the cell g: the frame that what is left begins with, or none. -/
def Wait (B g : Nat) (wr : World) (t : List B8) (b : Value) : Prop :=
  (nextF t = none ∧ b = .bool false ∧ wr.heap[g]? = some (.cells #[.int .i64 0, .slice none 0 0] 45 (0, 0))) ∨
  ∃ (f : Fr) (t2 : List B8) (A : Option Addr) (n c : Nat), nextF t = some (f, t2) ∧ b = .bool true ∧ wr.heap[g]? = some (.cells #[.int .i64 f.kind, .slice A n c] 45 (0, 0)) ∧ OwnN wr B (.slice A n c) f.data
def RGetR (w : World) (g : Nat) (bs : List B8) (vo va vb : Value) (wr : World) : Prop := ∃ (A : Option Addr) (c : Nat) (xs : List Fr) (cs : List Value) (t : List B8), vo = .slice A xs.length c ∧ va = .int .i64 ((putL xs).length : Nat) ∧ (∀ f ∈ xs, RightF f) ∧ bs = putL xs ++ t ∧ OwnC 45 wr (g + 1) w.heap.size A xs.length c xs cs ∧ Wait w.heap.size g wr t vb ∧ g < wr.heap.size ∧ w.heap.size ≤ g ∧ Ok w wr
theorem RGetR.start {w w2 : World} {bs : List B8} {x y vb : Value} (hk : Ok w w2) (h : Wait w.heap.size w2.heap.size (w2.alloc (.cells #[x, y] 45)) bs vb) : RGetR w w2.heap.size bs (.slice none 0 0) (.int .i64 0) vb (w2.alloc (.cells #[x, y] 45)) :=
  ⟨none, 0, [], [], bs, rfl, rfl, fun _ hf => absurd hf List.not_mem_nil, rfl, OwnC.nil _ _ _ _, h, by simp, hk.size, hk.alloc _⟩
theorem RGetR.step {w w4 w5 : World} {g c N : Nat} {bs t2 : List B8} {A : Option Addr} {xs : List Fr} {cs : List Value} {f : Fr} {x0 y0 x y : Value} {b : Value} {va : Int} (hr : ∀ f ∈ xs, RightF f) (hf : RightF f) (hbs : bs = putL xs ++ (bytesF f ++ t2)) (hN : N = xs.length + 1) (hva : va = (((putL xs).length + 9 + f.data.length : Nat) : Int))
    (hC : OwnC 45 w4 (g + 1) w.heap.size A N c (xs ++ [f]) cs) (hk4 : Ok w w4) (hg : w.heap.size ≤ g) (hgl : g < w4.heap.size) (h5 : Ok w4 w5) (hcell : w5.heap[g]? = some (.cells #[x0, y0] 45 (0, 0))) (hw : Wait w.heap.size g ((w5.setCell ⟨g, 0, none⟩ x).setCell ⟨g, 1, none⟩ y) t2 b) :
    RGetR w g bs (.slice A N c) (.int .i64 va) b ((w5.setCell ⟨g, 0, none⟩ x).setCell ⟨g, 1, none⟩ y) := by
  have hp : putL (xs ++ [f]) = putL xs ++ bytesF f := by rw [putL_append, putL_cons, putL_nil, List.append_nil]
  have hNx : N = (xs ++ [f]).length := by simp [hN]
  subst hNx
  refine ⟨A, c, xs ++ [f], cs, t2, rfl, ?_, fun k hk => ?_, ?_, (hC.ok h5).far (Nat.lt_succ_self g) hcell (by decide) x y, hw, ?_, hg, (Ok.trans hk4 h5).set2 hg⟩
  · rw [hva, hp, List.length_append, bytesF_len, Nat.add_assoc]
  · rcases List.mem_append.1 hk with h | h
    · exact hr k h
    · obtain rfl : k = f := by simpa using h
      exact hf
  · rw [hp, hbs, List.append_assoc]
  · have := h5.size
    simp [World.setCell]; omega
theorem Wait.none_ {B g : Nat} {wr : World} {t : List B8} {x0 y0 : Value} (hn : nextF t = none) (h : wr.heap[g]? = some (.cells #[x0, y0] 45 (0, 0))) : Wait B g ((wr.setCell ⟨g, 0, none⟩ (.int .i64 0)).setCell ⟨g, 1, none⟩ (.slice none 0 0)) t (.bool false) := .inl ⟨hn, rfl, set2_heap h⟩
theorem Wait.some_ {B g n c : Nat} {wr : World} {t t2 : List B8} {f : Fr} {A : Option Addr} {x0 y0 : Value} (hn : nextF t = some (f, t2)) (h : wr.heap[g]? = some (.cells #[x0, y0] 45 (0, 0))) (ho : OwnN wr B (.slice A n c) f.data) : Wait B g ((wr.setCell ⟨g, 0, none⟩ (.int .i64 f.kind)).setCell ⟨g, 1, none⟩ (.slice A n c)) t (.bool true) :=
  .inr ⟨f, t2, A, n, c, hn, rfl, set2_heap h, ho.far h (by decide) _ _⟩
set_option maxRecDepth 100000 in
set_option maxHeartbeats 4000000 in
theorem rget_w (A : Option Addr) (n c : Nat) (bs : List B8) (hn : bs.length = n) (hm : n ≤ 1000000) (w : World) (hB : BytesIn w (.slice A n c) bs) :
    Calls Tryd.prog 14 #[.slice A n c] w (RGetP w bs) := by
  have HB := Lib.hid hB
  have HN := Lib.hid hn
  clear hB hn
  go_enter Tryd.func14, Tryd.ntmps14
  go_upto_region 3 with fail
  go_cut [6, 7] from 8 to 12 (fun vg vb wx => ∃ g, vg = .pointer (some ⟨g, 0, none⟩) ∧ RGetR w g bs (.slice none 0 0) (.int .i64 0) vb wx)
  case first =>
    rename_i K0 Q0 hK0
    have HKK := Lib.hid hK0
    clear hK0
    have HBE := Lib.hid (begins_w _ n c bs HN.out (by omega) w HB.out)
    go_wp2_with fail
    (with_reducible refine HBE.out.mono ?_)
    rintro _ w2 ⟨⟨hnx, rfl⟩ | ⟨f, t, A3, n3, c3, hnx, rfl, ho⟩, hk2⟩
    · have HNX := Lib.hid hnx
      have HK2 := Lib.hid hk2
      clear hnx hk2 HBE
      go_wp2_with fail
      refine HKK.out _ _ ?_
      go_meet
      exact ⟨_, rfl, RGetR.start HK2.out (.inl ⟨HNX.out, rfl, heap_alloc_new w2 _⟩)⟩
    · have HNX := Lib.hid hnx
      have HK2 := Lib.hid hk2
      have HOD := Lib.hid ho
      clear hnx hk2 HBE ho
      go_wp2_with fail
      refine HKK.out _ _ ?_
      go_meet
      exact ⟨_, rfl, RGetR.start HK2.out (.inr ⟨f, t, A3, n3, c3, HNX.out, rfl, heap_alloc_new w2 _, HOD.out.ok ((Ok.refl w2).alloc _)⟩)⟩
  case rest =>
    obtain ⟨g, rfl, hst⟩ := hcut
    go_wp2_with fail
    go_loopw [4, 5, 7] (fun vo va vb wr => RGetR w g bs vo va vb wr) (fun vo _ _ _ => bs.length + 1 - lenOf vo)
    case atStart => exact hst
    case round =>
      clear hst
      obtain ⟨A1, c1, xs, cs, t, rfl, rfl, hr, hbs, hC, hw, hgl, hg, hk⟩ := hrel
      have hlen : (putL xs).length + t.length = n := by rw [← HN.out, hbs, List.length_append]
      have hcnt := putL_count xs
      have HR := Lib.hid hr
      have HBS := Lib.hid hbs
      have HC := Lib.hid hC
      have HG := Lib.hid hg
      have HGL := Lib.hid hgl
      have HK := Lib.hid hk
      clear hr hbs hC hg hgl hk
      rcases hw with ⟨hnx, rfl, hcell⟩ | ⟨f, t2, A3, n3, c3, hnx, rfl, hcell, hod⟩
      · have HGOT : Hid (Got bs xs t) := Lib.hid ⟨HR.out, HBS.out, hnx⟩
        go_wp2_with fail
        go_ret2
        exact ⟨A1, c1, xs, t, rfl, HGOT.out, HC.out.at, HK.out⟩
      · obtain ⟨hfr, hbt⟩ := next_some hnx
        have hn3 := hod.len'
        have HCL := Lib.hid hcell
        have HOD := Lib.hid hod
        have HFR := Lib.hid hfr
        have hb2 : t.length = 9 + n3 + t2.length := by rw [hbt, List.length_append, bytesF_len, hn3]
        have HBT : Hid (bs = putL xs ++ (bytesF f ++ t2)) := Lib.hid (by rw [← hbt]; exact HBS.out)
        have HDRP : Hid (bs.drop ((putL xs).length + 9 + n3) = t2) := Lib.hid (by rw [HBT.out, ← List.append_assoc]; exact List.drop_left' (by rw [List.length_append, bytesF_len, hn3]; omega))
        have HN3 := Lib.hid hn3
        obtain ⟨q0, q1, f0, f1⟩ := res_of_heap hcell
        generalize hM : (putL xs).length = M at *
        have HM := Lib.hid hM
        obtain ⟨A9, c9, hsl, hdr⟩ := high_cut A n c (M + 9 + n3) bs HN.out (by omega)
        have HHB := Lib.hid (fun V (k : Ok w V) => hdr V (k.bytes HB.out))
        have HFL : Hid (f.data.length ≤ 140737488351232) := Lib.hid (by omega)
        have HXL : Hid (xs.length ≤ 1000000000) := Lib.hid (by omega)
        have HMS : Hid (bs.length + 1 - (xs.length + 1) < bs.length + 1 - xs.length) := Lib.hid (by have := HN.out; omega)
        have HLT : Hid (t2.length = n - (M + 9 + n3)) := Lib.hid (by omega)
        have HT6 : Hid (n - (M + 9 + n3) ≤ 1000000000) := Lib.hid (by omega)
        have HRW3 := Lib.hid (HC.out.ok ((Ok.refl wr).alloc (.cells #[.int .i64 f.kind, .slice A3 n3 c3] 45)))
        have HOD3 := Lib.hid (hod.ok ((Ok.refl wr).alloc (.cells #[.int .i64 f.kind, .slice A3 n3 c3] 45)))
        have HK3 : Hid (Ok w (wr.alloc (.cells #[.int .i64 f.kind, .slice A3 n3 c3] 45))) := Lib.hid (HK.out.alloc _)
        have HCN3 : Hid ((wr.alloc (.cells #[.int .i64 f.kind, .slice A3 n3 c3] 45)).heap[wr.heap.size]? = some (.cells #[.int .i64 f.kind, .slice A3 n3 c3] 45 (0, 0))) := Lib.hid (heap_alloc_new wr _)
        have HCL3 : Hid ((wr.alloc (.cells #[.int .i64 f.kind, .slice A3 n3 c3] 45)).heap[g]? = some (.cells #[.int .i64 f.kind, .slice A3 n3 c3] 45 (0, 0))) := Lib.hid ((((Ok.refl wr).alloc (.cells #[.int .i64 f.kind, .slice A3 n3 c3] 45)).block g HGL.out).trans HCL.out)
        have HGL3 : Hid (g + 1 ≤ (wr.alloc (.cells #[.int .i64 f.kind, .slice A3 n3 c3] 45)).heap.size) := Lib.hid (by have := HGL.out; simp; omega)
        have hsl2 : ∀ wx, (Instr.slice 23 (.slice A n c) (some (.int .i64 ((M : Int) + 9 + (n3 : Int)))) none none).run Tryd.prog wx = .ok (.slice A9 (n - (M + 9 + n3)) c9) wx := fun wx => by
          have h := hsl wx
          rw [Int.natCast_add, Int.natCast_add] at h
          exact h
        have e0 : wrap64 ((M : Int) + 9) = (M : Int) + 9 := by simp only [wrap64]; omega
        have e1 : wrap64 ((M : Int) + 9 + (n3 : Int)) = (M : Int) + 9 + (n3 : Int) := by simp only [wrap64]; omega
        clear hnx hcell hod hfr hbt hn3 hb2 hdr hM hlen hcnt HCL HOD HC hsl
        go_wp2_with (at_builtin; go_must (refine wpList_app2 rfl (.tmp 14) (.tmp 16) 34 45 Tryd.underlying34 info45 rfl (g + 1) A1 xs.length c1 cs rfl HRW3.out.2.1 wr.heap.size f.kind (.slice A3 n3 c3) rfl rfl HCN3.out HXL.out HGL3.out ?_; intro A4 c4 w4 ho4 hb4 hg4; have HC4 := Lib.hid (HRW3.out.snoc (by decide) HOD3.out HFL.out ho4 hg4); have HK4 : Hid (Ok w w4) := Lib.hid (Below.trans HK3.out (hb4.mono (Nat.le_succ_of_le HG.out))); have HCL4 := Lib.hid ((hb4.block g (Nat.lt_succ_self g)).trans HCL3.out); have HGL4 := Lib.hid (Nat.lt_of_lt_of_le (Nat.lt_succ_self g) (Nat.le_trans HGL3.out hb4.size)); clear ho4 hb4 hg4 HRW3 HOD3 HCN3 HCL3 HGL3 q0 q1 f0 f1; obtain ⟨q0, q1, f0, f1⟩ := res_of_heap HCL4.out))
        have HBE : Hid (Calls Tryd.prog 28 #[.slice A9 (n - (M + 9 + n3)) c9] w4 (BegP w4 t2)) := Lib.hid (begins_w A9 _ c9 t2 HLT.out HT6.out w4 (by have := HHB.out w4 HK4.out; rw [HDRP.out] at this; exact this))
        (with_reducible refine HBE.out.mono ?_)
        rintro _ w5 ⟨⟨hnx, rfl⟩ | ⟨f5, t5, A5, n5, c5, hnx, rfl, ho⟩, hk5⟩
        · have HNX := Lib.hid hnx
          have HK5 := Lib.hid hk5
          have HCL5 := Lib.hid ((hk5.block g HGL4.out).trans HCL4.out)
          clear hnx hk5 HBE q0 q1 f0 f1
          obtain ⟨q0, q1, f0, f1⟩ := res_of_heap HCL5.out
          go_wp2_with fail
          exact ⟨RGetR.step HR.out HFR.out HBT.out rfl (by rw [HM.out, HN3.out]; omega) HC4.out HK4.out HG.out HGL4.out HK5.out HCL5.out (Wait.none_ HNX.out HCL5.out), HMS.out⟩
        · have HNX := Lib.hid hnx
          have HK5 := Lib.hid hk5
          have HO5 := Lib.hid (ho.mono HK4.out.size)
          have HCL5 := Lib.hid ((hk5.block g HGL4.out).trans HCL4.out)
          clear hnx hk5 HBE ho q0 q1 f0 f1
          obtain ⟨q0, q1, f0, f1⟩ := res_of_heap HCL5.out
          go_wp2_with fail
          exact ⟨RGetR.step HR.out HFR.out HBT.out rfl (by rw [HM.out, HN3.out]; omega) HC4.out HK4.out HG.out HGL4.out HK5.out HCL5.out (Wait.some_ HNX.out HCL5.out HO5.out), HMS.out⟩
end Go.Proofs.YtpebnlddmjfomaaDoor
