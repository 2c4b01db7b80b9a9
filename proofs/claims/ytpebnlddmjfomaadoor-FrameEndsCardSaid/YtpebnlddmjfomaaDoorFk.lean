/- Frames got, walked. -/
import Derived.Test.YtpebnlddmjfomaaDoorFj
namespace Go.Proofs.YtpebnlddmjfomaaDoor
open Go.RowKit
def lenOf : Value → Nat
  | .slice _ n _ => n
  | _ => 0
def GetP (w : World) (bs : List B8) (e : Ending) (w' : World) : Prop := ∃ (A : Option Addr) (n c : Nat) (xs : List Fr) (r : List B8), e = .returned (.tuple #[.slice A n c, .int .i64 ((putL xs).length : Nat)]) ∧ Got bs xs r ∧ OwnF w' w.heap.size A n c xs ∧ Ok w w'
theorem OwnF.mono {w : World} {B B' : Nat} {A : Option Addr} {n c : Nat} {xs : List Fr} (h : OwnF w B A n c xs) (hb : B' ≤ B) : OwnF w B' A n c xs := by
  obtain ⟨hn, cs, h1, h2⟩ := h
  refine ⟨hn, cs, ⟨h1.1, ?_⟩, fun j hj => ?_⟩
  · rcases h1.2 with h | ⟨g, cap, cur, e, r1, r2⟩
    · exact .inl h
    · exact .inr ⟨g, cap, cur, e, Nat.le_trans hb r1, r2⟩
  · obtain ⟨e1, v, e2, ho, hl⟩ := h2 j hj
    exact ⟨e1, v, e2, ho.mono hb, hl⟩
theorem putL_count : ∀ l : List Fr, 9 * l.length ≤ (putL l).length
  | [] => Nat.le_refl _
  | f :: l => by
    rw [putL_cons, List.length_append, bytesF_len, List.length_cons]
    have := putL_count l
    omega
def GetR (w : World) (p : Nat) (bs : List B8) (v : Value) (wr : World) : Prop := ∃ (A : Option Addr) (n c : Nat) (xs : List Fr) (t : List B8), v = .slice A n c ∧ n = xs.length ∧ (∀ f ∈ xs, RightF f) ∧ bs = putL xs ++ t ∧ OwnF wr (p + 1) A n c xs ∧ Pl w p wr t (putL xs).length ∧ Ok w wr
theorem pl_new (w : World) (A : Option Addr) (c : Nat) (bs : List B8) (h : BytesIn w (.slice A bs.length c) bs) : Pl w w.heap.size (w.alloc (.cells #[.slice A bs.length c, .int .i64 0] 60)) bs 0 := by
  have hb := heap_alloc_new w (.cells #[.slice A bs.length c, .int .i64 0] 60)
  exact ⟨Nat.le_refl _, (Ok.refl w).alloc _, ⟨A, c, cell_of_heap hb 0, h⟩, cell_of_heap hb 1, World.frozen?_alloc_at _ _ _ _ rfl, World.frozen?_alloc_at _ _ _ _ rfl⟩
theorem Pl.up {W0 : World} {p : Nat} {w w' : World} {bs : List B8} {m : Nat} (h : Pl W0 p w bs m) (k : Below (p + 1) w w') : Pl W0 p w' bs m := by
  obtain ⟨h1, h2, ⟨A, c, c0, hB⟩, c1, f0, f1⟩ := h
  have hl : p < p + 1 := Nat.lt_succ_self p
  refine ⟨h1, Below.trans h2 (k.mono (Nat.le_succ_of_le h1)), ⟨A, c, ?_, hB⟩, ?_, ?_, ?_⟩
  · rw [k.cell (p := ⟨p, 0, none⟩) hl]; exact c0
  · rw [k.cell (p := ⟨p, 1, none⟩) hl]; exact c1
  · rw [k.frozen (p := ⟨p, 0, none⟩) hl]; exact f0
  · rw [k.frozen (p := ⟨p, 1, none⟩) hl]; exact f1
theorem GetP.mk {w w' : World} {bs r : List B8} {xs : List Fr} {A : Option Addr} {n c M : Nat} (hM : (putL xs).length = M) (hG : Got bs xs r) (hF : OwnF w' w.heap.size A n c xs) (k : Ok w w') : GetP w bs (.returned (.tuple #[.slice A n c, .int .i64 (M : Int)])) w' := by
  subst hM
  exact ⟨A, n, c, xs, r, rfl, hG, hF, k⟩
set_option maxRecDepth 100000 in
set_option maxHeartbeats 4000000 in
theorem get_w (A : Option Addr) (n c : Nat) (bs : List B8) (hn : bs.length = n) (hm : n ≤ 1000000000) (w : World) (ht : Tab w) (h : BytesIn w (.slice A n c) bs) :
    Calls Tryd.prog 13 #[.slice A n c] w (GetP w bs) := by
  subst hn
  have HP := Lib.hid (pl_new w A c bs h)
  have HO := Lib.hid ((Ok.refl w).alloc (.cells #[.slice A bs.length c, .int .i64 0] 60))
  have HT := Lib.hid ht
  have HM := Lib.hid hm
  clear h ht hm
  generalize hL : bs.length = L at *
  have HL := Lib.hid hL
  clear hL
  go_enter Tryd.func13, Tryd.ntmps13
  go_wp2_with fail
  obtain ⟨p, hp⟩ : ∃ p, p = w.heap.size := ⟨_, rfl⟩
  have HPW : Hid (w.heap.size ≤ p) := Lib.hid (Nat.le_of_eq hp.symm)
  rw [← hp] at HP ⊢
  clear hp
  generalize w.alloc (.cells #[.slice A L c, .int .i64 0] 60) = w1 at *
  go_loopw [5] (fun v wr => GetR w p bs v wr) (fun v _ => bs.length + 1 - lenOf v)
  case atStart => exact ⟨none, 0, 0, [], bs, rfl, rfl, fun f hf => absurd hf List.not_mem_nil, rfl, OwnF.nil _ _, HP.out, HO.out⟩
  case round =>
    obtain ⟨A2, n2, c2, xs, t, rfl, hn2, hr, hbs, hF, hP, hO⟩ := hrel
    have hlen : (putL xs).length + t.length = bs.length := by rw [hbs, List.length_append]
    have HNX := Lib.hid (next_w w p wr t (putL xs).length hP HT.out (by have := HM.out; have := HL.out; omega))
    have HRI := Lib.hid hr
    have HBS := Lib.hid hbs
    have HF := Lib.hid hF
    have HO2 := Lib.hid hO
    have HN2 := Lib.hid hn2
    have HLE := Lib.hid hlen
    have hPlt := hP.lt
    clear hr hbs hF hO hlen hn2 hP HP HO
    go_wp2_with fail
    (with_reducible refine HNX.out.mono ?_)
    rintro _ w2 (⟨hn, rfl, hP, hB⟩ | ⟨f, t2, A3, n3, c3, hn, rfl, hO, hP, hB⟩)
    · obtain ⟨-, -, -, D1, -, -⟩ := hP.ok ((Ok.refl w2).alloc (.cells #[.int .i64 0, .slice none 0 0] 28))
      have HG : Hid (Got bs xs t) := Lib.hid ⟨HRI.out, HBS.out, hn⟩
      have HF2 := Lib.hid ((HF.out.but hB).ok ((Ok.refl w2).alloc (.cells #[.int .i64 0, .slice none 0 0] 28)))
      have HO3 : Hid (Ok w (w2.alloc (.cells #[.int .i64 0, .slice none 0 0] 28))) := Lib.hid (Ok.alloc (show Ok w w2 from Below.trans HO2.out (hB.below HPW.out HO2.out.size)) _)
      clear hn hP hB HNX HF HRI HBS HLE
      generalize hMM : (putL xs).length = M at *
      have HMM := Lib.hid hMM
      clear hMM
      go_wp2_with fail
      generalize w2.alloc (.cells #[.int .i64 0, .slice none 0 0] 28) = w3 at *
      go_quiet (fail)
      go_wp2_with fail
      go_ret2
      exact GetP.mk HMM.out HG.out ((HF2.out.mono (Nat.le_succ_of_le HPW.out)).ok ((Ok.refl _).drewN nq)) (HO3.out.drewN nq)
    · obtain ⟨hfr, hbt⟩ := next_some hn
      have ok3 : Ok w w2 := Below.trans HO2.out (hB.below HPW.out HO2.out.size)
      have HRX : Hid (∀ g ∈ xs ++ [f], RightF g) := Lib.hid fun g hg => by
        rcases List.mem_append.1 hg with h | h
        · exact HRI.out g h
        · obtain rfl : g = f := by simpa using h
          exact hfr
      have HPX : Hid (putL (xs ++ [f]) = putL xs ++ bytesF f) := Lib.hid (by rw [putL_append, putL_cons, putL_nil, List.append_nil])
      have HBX : Hid (bs = putL (xs ++ [f]) ++ t2) := Lib.hid (by rw [HPX.out, HBS.out, hbt, List.append_assoc])
      have HLX : Hid ((putL (xs ++ [f])).length = (putL xs).length + 9 + f.data.length) := Lib.hid (by rw [HPX.out, List.length_append, bytesF_len]; omega)
      have HDF : Hid (f.data.length ≤ 140737488351232) := Lib.hid (by have := hfr.2.2; omega)
      have hcnt := putL_count (xs ++ [f])
      have htot : (putL (xs ++ [f])).length ≤ bs.length := by rw [HBX.out, List.length_append]; omega
      rw [List.length_append, List.length_singleton] at hcnt
      have HCX : Hid (9 * (xs.length + 1) ≤ bs.length) := Lib.hid (by omega)
      have HXL : Hid (xs.length ≤ 1000000000) := Lib.hid (by have := HM.out; have := HL.out; omega)
      have HPB : Hid (p + 1 ≤ w2.heap.size) := Lib.hid hP.lt
      have okA : Ok w2 ((w2.alloc (.cells #[.int .i64 f.kind, .slice A3 n3 c3] 28)).alloc (.cells #[.int .i64 f.kind, .slice A3 n3 c3] 28)) := ((Ok.refl w2).alloc _).alloc _
      have HOA : Hid (Ok w ((w2.alloc (.cells #[.int .i64 f.kind, .slice A3 n3 c3] 28)).alloc (.cells #[.int .i64 f.kind, .slice A3 n3 c3] 28))) := Lib.hid (Ok.trans ok3 okA)
      have HFA := Lib.hid ((HF.out.but hB).ok okA)
      have HNA := Lib.hid ((hO.mono (show p + 1 ≤ wr.heap.size from by have := HNX; exact Nat.succ_le_of_lt hPlt)).ok okA)
      have HPA := Lib.hid (hP.ok okA)
      have HBA : Hid (((w2.alloc (.cells #[.int .i64 f.kind, .slice A3 n3 c3] 28)).alloc (.cells #[.int .i64 f.kind, .slice A3 n3 c3] 28)).heap[w2.heap.size + 1]? = some (.cells #[.int .i64 f.kind, .slice A3 n3 c3] 28)) := Lib.hid (by have := heap_alloc_new (w2.alloc (.cells #[.int .i64 f.kind, .slice A3 n3 c3] 28)) (.cells #[.int .i64 f.kind, .slice A3 n3 c3] 28); rw [show (w2.alloc (.cells #[.int .i64 f.kind, .slice A3 n3 c3] 28)).heap.size = w2.heap.size + 1 from by simp] at this; exact this)
      have HPS : Hid (p + 1 ≤ ((w2.alloc (.cells #[.int .i64 f.kind, .slice A3 n3 c3] 28)).alloc (.cells #[.int .i64 f.kind, .slice A3 n3 c3] 28)).heap.size) := Lib.hid (Nat.le_trans HPB.out okA.size)
      clear hn hP hB HNX HF HRI HBS HLE hO ok3 okA hfr hbt hcnt htot HPB HPX
      go_wp2_with (at_builtin; go_must (refine wpList_appF rfl (.tmp 23) (.tmp 25) rfl (p + 1) A2 n2 c2 xs rfl HFA.out (w2.heap.size + 1) f (.slice A3 n3 c3) rfl HBA.out HNA.out HDF.out HXL.out HPS.out ?_; intro A4 N4 c4 w4 hN4 hF4 hb4; have HF4 := Lib.hid hF4; have HB4 := Lib.hid hb4; have HN4 := Lib.hid hN4; clear hF4 hb4 hN4))
      refine ⟨⟨A4, N4, c4, xs ++ [f], t2, rfl, HF4.out.1, HRX.out, HBX.out, HF4.out, by rw [HLX.out]; exact HPA.out.up HB4.out, Below.trans HOA.out (HB4.out.mono (Nat.le_succ_of_le HPW.out))⟩, ?_⟩
      show bs.length + 1 - N4 < bs.length + 1 - n2
      have h1 := HN4.out
      have h2 := HCX.out
      have h3 := HN2.out
      omega
end Go.Proofs.YtpebnlddmjfomaaDoor
