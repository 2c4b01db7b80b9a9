/- The law FrameEnds: what it stands on. -/
import Derived.Test.YtpebnlddmjfomaaDoorGs
import Derived.Deep.OwnRows
namespace Go.Proofs.YtpebnlddmjfomaaDoor
open Go.RowKit
def zz (n : Nat) : List B8 := List.replicate n 0#8
theorem zz_len (n : Nat) : (zz n).length = n := by simp [zz]
theorem zz_take (n m : Nat) (h : m ≤ n) : (zz n).take m = zz m := by simp [zz, List.take_replicate, Nat.min_eq_left h]
/-- A row of zeros. -/
theorem zeros_new (w : World) (N : Nat) (hN : N ≤ 1000000000) : BytesIn (w.alloc (.cells (madeCells #[.int .u8 0] N) 5)) (.slice (some ⟨w.heap.size, 0, none⟩) N N) (zz N) := by
  have h := (own_new w (zz N) N (zz_len N).symm hN).bytes (by rw [zz_len]; omega)
  have e : ((zz N).map bv).toArray = madeCells #[.int .u8 0] N := by
    apply Array.toList_inj.1
    rw [toList_madeCells_one]
    simp [zz, bv, ub]
  rw [e] at h
  exact h
theorem frames_two (w : World) (k0 k1 : Int) (v0 v1 : Value) {d0 d1 : List B8} (h0 : BytesIn w v0 d0) (h1 : BytesIn w v1 d1) : FramesAt (w.alloc (.cells #[.int .i64 k0, v0, .int .i64 k1, v1] 28)) (some ⟨w.heap.size, 0, none⟩) [⟨k0, d0⟩, ⟨k1, d1⟩] := fun j hj => by
  have hb := heap_alloc_new w (.cells #[.int .i64 k0, v0, .int .i64 k1, v1] 28)
  have ho := (Ok.refl w).alloc (.cells #[.int .i64 k0, v0, .int .i64 k1, v1] 28)
  match j, hj with
  | 0, _ => exact ⟨w.heap.size, 0, rfl, cell_of_heap hb 0, v0, cell_of_heap hb 1, ho.bytes h0⟩
  | 1, _ => exact ⟨w.heap.size, 0, rfl, cell_of_heap hb 2, v1, cell_of_heap hb 3, ho.bytes h1⟩
theorem frames_three (w : World) (k0 k1 k2 : Int) (v0 v1 v2 : Value) {d0 d1 d2 : List B8} (h0 : BytesIn w v0 d0) (h1 : BytesIn w v1 d1) (h2 : BytesIn w v2 d2) : FramesAt (w.alloc (.cells #[.int .i64 k0, v0, .int .i64 k1, v1, .int .i64 k2, v2] 28)) (some ⟨w.heap.size, 0, none⟩) [⟨k0, d0⟩, ⟨k1, d1⟩, ⟨k2, d2⟩] := fun j hj => by
  have hb := heap_alloc_new w (.cells #[.int .i64 k0, v0, .int .i64 k1, v1, .int .i64 k2, v2] 28)
  have ho := (Ok.refl w).alloc (.cells #[.int .i64 k0, v0, .int .i64 k1, v1, .int .i64 k2, v2] 28)
  match j, hj with
  | 0, _ => exact ⟨w.heap.size, 0, rfl, cell_of_heap hb 0, v0, cell_of_heap hb 1, ho.bytes h0⟩
  | 1, _ => exact ⟨w.heap.size, 0, rfl, cell_of_heap hb 2, v1, cell_of_heap hb 3, ho.bytes h1⟩
  | 2, _ => exact ⟨w.heap.size, 0, rfl, cell_of_heap hb 4, v2, cell_of_heap hb 5, ho.bytes h2⟩
def l3 : List Fr := [⟨1, [5#8, 0#8, 7#8]⟩, ⟨255, []⟩, ⟨0, [0#8]⟩]
theorem l3_len : (putL l3).length ≤ 100 := by
  unfold l3
  rw [putL_cons, putL_cons, putL_cons, putL_nil, List.append_nil, List.length_append, List.length_append, bytesF_len, bytesF_len, bytesF_len]
  decide
theorem frames_l3 (w : World) : FramesAt (((w.alloc (.cells #[.int .u8 5, .int .u8 0, .int .u8 7] 5)).alloc (.cells #[.int .u8 0] 5)).alloc (.cells #[.int .i64 1, .slice (some ⟨w.heap.size, 0, none⟩) 3 3, .int .i64 255, .slice none 0 0, .int .i64 0, .slice (some ⟨w.heap.size + 1, 0, none⟩) 1 1] 28)) (some ⟨w.heap.size + 1 + 1, 0, none⟩) l3 := by
  have h0 : BytesIn (w.alloc (.cells #[.int .u8 5, .int .u8 0, .int .u8 7] 5)) (.slice (some ⟨w.heap.size, 0, none⟩) 3 3) [5#8, 0#8, 7#8] := bytes_new w [5#8, 0#8, 7#8] _ 5 (0, 0) _ 3 3 rfl rfl (Nat.le_refl _) (by simp) rfl
  have h2 : BytesIn ((w.alloc (.cells #[.int .u8 5, .int .u8 0, .int .u8 7] 5)).alloc (.cells #[.int .u8 0] 5)) (.slice (some ⟨(w.alloc (.cells #[.int .u8 5, .int .u8 0, .int .u8 7] 5)).heap.size, 0, none⟩) 1 1) [0#8] := bytes_new _ [0#8] _ 5 (0, 0) _ 1 1 rfl rfl (Nat.le_refl _) (by simp) rfl
  rw [show (w.alloc (.cells #[.int .u8 5, .int .u8 0, .int .u8 7] 5)).heap.size = w.heap.size + 1 by simp] at h2
  have h := frames_three ((w.alloc (.cells #[.int .u8 5, .int .u8 0, .int .u8 7] 5)).alloc (.cells #[.int .u8 0] 5)) 1 255 0 _ (.slice none 0 0) _ (((Ok.refl _).alloc _).bytes h0) (BytesIn.nil _) h2
  rw [show ((w.alloc (.cells #[.int .u8 5, .int .u8 0, .int .u8 7] 5)).alloc (.cells #[.int .u8 0] 5)).heap.size = w.heap.size + 1 + 1 by simp] at h
  exact h
theorem frames_one (w : World) (k0 : Int) (v0 : Value) {d0 : List B8} (h0 : BytesIn w v0 d0) : FramesAt (w.alloc (.cells #[.int .i64 k0, v0] 45)) (some ⟨w.heap.size, 0, none⟩) [⟨k0, d0⟩] := fun j hj => by
  have hb := heap_alloc_new w (.cells #[.int .i64 k0, v0] 45)
  have ho := (Ok.refl w).alloc (.cells #[.int .i64 k0, v0] 45)
  match j, hj with
  | 0, _ => exact ⟨w.heap.size, 0, rfl, cell_of_heap hb 0, v0, cell_of_heap hb 1, ho.bytes h0⟩
theorem step_appW {ops : Array Oper} {o : Oper} {a : Act} {w : World} {K : Act → World → Prop} {Q : Exit → Act → World → Prop} {E : Prop} (hgd : Region.wanted o (yielded ops a.tmps) = true) (s x : Operand)
    (ho : o.op = .call { callee := .builtin .append, args := #[s, x], argTypes := #[23, 23] })
    (base : Nat) (v : Value) (xs ys : List B8) (vx : Value) (hs : a.eval s = v) (hx : a.eval x = vx) (hown : OwnN w base v xs) (hy : BytesIn w vx ys)
    (hlen : xs.length + ys.length ≤ 140737488351232) (hbase : base ≤ w.heap.size)
    (h : ∀ A N c w', OwnN w' base (.slice A N c) (xs ++ ys) → Below base w w' → K (a.put o.dst (.slice A N c)) w') :
    if Region.wanted o (yielded ops a.tmps) = true then Oper.wp Tryd.prog o a w K Q else E := by
  rw [if_pos hgd]
  have h2 := step_appB (ops := #[]) (o := { o with guard := none }) (a := a) (w := w) (K := K) (Q := Q) (E := E) rfl s x ho base v xs ys vx hs hx hown hy hlen hbase (fun A N c w' h1 h2 _ => h A N c w' h1 h2)
  rw [if_pos (by simp [Region.wanted])] at h2
  exact h2
def kk (i : Nat) : Int := [-1, 0, 1, 255, 256].getD i 0
theorem right_zero : RightF ⟨0, zz 262144⟩ := ⟨by decide, by decide, by rw [zz_len]; exact Nat.le_refl _⟩
theorem put_zero : putErr [⟨0, zz 262144⟩] = 0 := (putErr_all _).2 fun f hf => by
  rw [List.mem_singleton.1 hf]; exact right_zero
theorem putM_zero : putM [⟨0, zz 262144⟩] = putL [⟨0, zz 262144⟩] := by unfold putM; rw [if_pos put_zero]
theorem putL_zero_len : (putL [⟨0, zz 262144⟩]).length = 262153 := by rw [putL_cons, putL_nil, List.append_nil, bytesF_len, zz_len]
theorem got_zero : Got (putL [⟨0, zz 262144⟩]) [⟨0, zz 262144⟩] [] := ⟨fun f hf => by rw [List.mem_singleton.1 hf]; exact right_zero, by rw [List.append_nil], next_short (by decide)⟩
theorem hN_bytes (f : Fr) (hf : f.data.length < 4294967296) : hN (bytesF f) = f.data.length := by
  unfold hN bytesF headB four
  exact un4_four _ hf
theorem next_over : nextF (bytesF ⟨0, zz 262145⟩) = none := by
  refine beg_far fun h => ?_
  have h2 := h.2
  have e := hN_bytes ⟨0, zz 262145⟩ (by show (zz 262145).length < _; rw [zz_len]; decide)
  rw [e] at h2
  have h3 : (zz 262145).length ≤ 262144 := h2
  rw [zz_len] at h3
  omega
theorem tells_nil (w : World) (ht : Tab w) (B : Option Addr) (m d : Nat) (bs : List B8) (hm : bs.length = m) (hB : BytesIn w (.slice B m d) bs) : Calls Tryd.prog 3 #[.slice none 0 0, .slice B m d] w (Ret w (.bool true)) :=
  tells_w w ht none 0 0 [] rfl B m d bs hm hB (fun _ hj => absurd hj (Nat.not_lt_zero _))
set_option maxRecDepth 100000 in
set_option maxHeartbeats 4000000 in
theorem ends_w (w : World) (ht : Tab w) : Calls Tryd.prog 4 #[] w (Ret w (.bool true)) := by
  have HAW := Lib.hid (fun V (k : Ok w V) => awake_w V (ht.ok k))
  have HT := Lib.hid ht
  clear ht
  go_enter Tryd.func4, Tryd.ntmps4
  go_wp2_with fail
  (with_reducible refine (HAW.out _ (Ok.refl _)).mono ?_)
  rintro _ w1 ⟨rfl, o1⟩
  have HO1 := Lib.hid o1
  clear o1
  obtain ⟨i0, hi, hz0, hz1, hz2⟩ := info_parts info5
  obtain ⟨N, hN⟩ : ∃ N, N = 262145 := ⟨_, rfl⟩
  have HN := Lib.hid hN
  have HN2 : Hid ((262145 : Int) = (N : Int)) := Lib.hid (by rw [hN]; rfl)
  clear hN
  have HB2 : Hid (i0.bytes * N ≤ 281474976710656) := Lib.hid (by rw [hz2, HN.out]; decide)
  have HKK : Hid ((w1.alloc (.cells #[.int .i64 (-1), .int .i64 0, .int .i64 1, .int .i64 255, .int .i64 256] 3)).heap[w1.heap.size]? = some (.cells #[.int .i64 (-1), .int .i64 0, .int .i64 1, .int .i64 255, .int .i64 256] 3 (0, 0))) := Lib.hid (heap_alloc_new w1 _)
  have HO2 : Hid (Ok w (w1.alloc (.cells #[.int .i64 (-1), .int .i64 0, .int .i64 1, .int .i64 255, .int .i64 256] 3))) := Lib.hid (HO1.out.alloc _)
  have HI := Lib.hid hi
  have HZ0 := Lib.hid hz0
  have HZ1 := Lib.hid hz1
  clear hi hz0 hz1 hz2
  go_wp2_with (at_make; go_must (refine wpList_make_row _ rfl _ _ 23 rfl 5 i0 (.int .u8 0) Tryd.underlying23 HI.out HZ0.out HZ1.out rfl .i64 .i64 N (by rw [← HN2.out]; rfl) (by rw [← HN2.out]; rfl) HB2.out (by rw [HN.out]; decide) ?_))
  have hzl := zeros_new (w1.alloc (.cells #[.int .i64 (-1), .int .i64 0, .int .i64 1, .int .i64 255, .int .i64 256] 3)) N (by rw [HN.out]; decide)
  rw [show (w1.alloc (.cells #[.int .i64 (-1), .int .i64 0, .int .i64 1, .int .i64 255, .int .i64 256] 3)).heap.size = w1.heap.size + 1 by simp] at hzl
  have HZL := Lib.hid hzl
  clear hzl
  have HO3 : Hid (Ok w ((w1.alloc (.cells #[.int .i64 (-1), .int .i64 0, .int .i64 1, .int .i64 255, .int .i64 256] 3)).alloc (.cells (madeCells #[.int .u8 0] N) 5))) := Lib.hid (HO2.out.alloc _)
  have HC3 : Hid (∀ i, i < 5 → ((w1.alloc (.cells #[.int .i64 (-1), .int .i64 0, .int .i64 1, .int .i64 255, .int .i64 256] 3)).alloc (.cells (madeCells #[.int .u8 0] N) 5)).cell? ⟨w1.heap.size, i, none⟩ = some (.int .i64 (kk i))) := Lib.hid (fun i hi5 => ((Ok.refl _).alloc _).cell (by
    rw [cell_of_heap HKK.out]
    match i, hi5 with
    | 0, _ => rfl
    | 1, _ => rfl
    | 2, _ => rfl
    | 3, _ => rfl
    | 4, _ => rfl))
  clear HKK HO2 HO1 HB2 HI HZ0 HZ1 HN2
  generalize (w1.alloc (.cells #[.int .i64 (-1), .int .i64 0, .int .i64 1, .int .i64 255, .int .i64 256] 3)).alloc (.cells (madeCells #[.int .u8 0] N) 5) = w3 at *
  generalize w1.heap.size = gk at *
  go_loopw [3] (fun vi wr => ∃ i : Nat, i ≤ 5 ∧ vi = .int .i64 i ∧ Ok w3 wr) (fun vi _ => 5 - (intOf vi).toNat)
  case atStart => exact ⟨0, Nat.zero_le _, rfl, Ok.refl _⟩
  case round =>
    obtain ⟨i, hi5, rfl, okr⟩ := hrel
    have HOK := Lib.hid okr
    clear okr
    by_cases hlt : i < 5
    · have d1 : decide ((i : Int) < 5) = true := decide_eq_true (by omega)
      obtain ⟨ki, hki⟩ : ∃ ki, kk i = ki := ⟨_, rfl⟩
      have HCI : Hid (w3.cell? ⟨gk, i, none⟩ = some (.int .i64 ki)) := Lib.hid (by rw [HC3.out i hlt, hki])
      clear hki
      obtain ⟨wb, hwb⟩ : ∃ x, x = wr := ⟨_, rfl⟩
      subst hwb
      go_wp2_with fail
      go_loopw [4] (fun vk wr => ∃ k : Nat, k ≤ 2 ∧ vk = .int .i64 k ∧ Ok wb wr) (fun vk _ => 2 - (intOf vk).toNat)
      case atStart => exact ⟨0, Nat.zero_le _, rfl, Ok.refl _⟩
      case round =>
        obtain ⟨k, hk2, rfl, okr⟩ := hrel
        have HOB := Lib.hid okr
        have HO3R := Lib.hid (Ok.trans HOK.out okr)
        clear okr
        by_cases hlk : k < 2
        · have d2 : decide ((k : Int) < 2) = true := decide_eq_true (by omega)
          obtain ⟨q, hq⟩ : ∃ q, q = 262144 + k := ⟨_, rfl⟩
          have hqi : wrap64 (262144 + (k : Int)) = (q : Int) := by rw [hq]; simp only [wrap64]; omega
          have hqi2 : IntKind.i64.wrap (262144 + (k : Int)) = (q : Int) := by rw [hq]; simp only [IntKind.wrap_i64]; omega
          have HQ := Lib.hid hq
          have HQN : Hid (q ≤ N) := Lib.hid (by rw [HN.out, hq]; omega)
          clear hq
          have hqn := HQN.out
          have hlow := low23 (some ⟨gk + 1, 0, none⟩) N N q HQN.out
          have HZQ : Hid (BytesIn wr (.slice (some ⟨gk + 1, 0, none⟩) q N) (zz q)) := Lib.hid (by
            have h := bytes_take (N := q) (HO3R.out.bytes HZL.out) (by rw [zz_len]; exact HQN.out)
            rw [zz_take N q HQN.out] at h
            exact h)
          have x0 := HO3R.out.cell HCI.out
          have hi0 : (0 : Int) ≤ (i : Int) := Int.natCast_nonneg _
          have hi1 : (i : Int) < 5 := by omega
          have hn5 : i < 5 := hlt
          go_upto_region 11 with fail
          refine Until.begin (S := fun V => V.cell? ⟨gk, i, none⟩ = some (.int .i64 ki)) (j := 12) (by kernel_rfl) ?_ ?_
          · exact (Ok.refl wr).drew.cell x0
          intro hS
          have HD : Hid (Ok wr wr.drew) := Lib.hid ((Ok.refl wr).drew)
          generalize wr.drew = V0 at *
          refine Until.take0 (i := 2) (v := ?v2) rfl (by kernel_rfl) (by kernel_rfl) (by kernel_rfl) (by kernel_rfl) (fun _ _ _ h => h) (Or.inl ⟨by rfl, ?hy2⟩) (fun _ => hS) ?rest2
          case hy2 => ((intro w hSw); clear hSw; go_simp; (try with_reducible rfl))
          try go_frame
          refine Until.take0 (i := 3) (v := ?v3) rfl (by kernel_rfl) (by kernel_rfl) (by kernel_rfl) (by kernel_rfl) (fun _ _ _ h => h) (Or.inl ⟨by rfl, ?hy3⟩) (fun _ => hS) ?rest3
          case hy3 => ((intro w hSw); clear hSw; go_simp; (try with_reducible rfl))
          try go_frame
          refine Until.take0 (i := 4) (v := ?v4) rfl (by kernel_rfl) (by kernel_rfl) (by kernel_rfl) (by kernel_rfl) (fun _ _ _ h => h) (Or.inl ⟨by rfl, ?hy4⟩) (fun _ => hS) ?rest4
          case hy4 => ((intro w hSw); clear hSw; go_simp; (try with_reducible rfl))
          try go_frame
          refine Until.take (i := 5) (v := ?v5) rfl (by kernel_rfl) (by kernel_rfl) (by kernel_rfl) (by kernel_rfl) (fun _ _ _ h => h) (Or.inl ⟨by rfl, ?hy5⟩) hS ?rest5
          case hy5 => ((intro w hSw; (try dsimp only at hSw)); have s0 := hSw; go_simp; (try with_reducible rfl))
          try go_frame
          refine Until.take0 (i := 6) (v := ?v6) rfl (by kernel_rfl) (by kernel_rfl) (by kernel_rfl) (by kernel_rfl) (fun _ _ _ h => h) (Or.inl ⟨by rfl, ?hy6⟩) (fun _ => hS) ?rest6
          case hy6 => ((intro w hSw); clear hSw; go_simp; (try with_reducible rfl))
          try go_frame
          refine Until.take0 (i := 7) (v := ?v7) rfl (by kernel_rfl) (by kernel_rfl) (by kernel_rfl) (by kernel_rfl) (fun _ _ _ h => h) (Or.inl ⟨by rfl, ?hy7⟩) (fun _ => hS) ?rest7
          case hy7 => ((intro w hSw); clear hSw; go_simp; (try with_reducible rfl))
          try go_frame
          refine Until.take0 (i := 8) (v := ?v8) rfl (by kernel_rfl) (by kernel_rfl) (by kernel_rfl) (by kernel_rfl) (fun _ _ _ h => h) (Or.inl ⟨by rfl, ?hy8⟩) (fun _ => hS) ?rest8
          case hy8 => ((intro w hSw); clear hSw; go_simp; (try with_reducible rfl))
          try go_frame
          refine Until.take0 (i := 9) (v := ?v9) rfl (by kernel_rfl) (by kernel_rfl) (by kernel_rfl) (by kernel_rfl) (fun _ _ _ h => h) (Or.inl ⟨by rfl, ?hy9⟩) (fun _ => hS) ?rest9
          case hy9 => ((intro w hSw); clear hSw; go_simp; (try with_reducible rfl))
          try go_frame
          refine Until.take0 (i := 10) (v := ?v10) rfl (by kernel_rfl) (by kernel_rfl) (by kernel_rfl) (by kernel_rfl) (fun _ _ _ h => h) (Or.inl ⟨by rfl, ?hy10⟩) (fun _ => hS) ?rest10
          case hy10 => ((intro w hSw); clear hSw; go_simp; (try with_reducible rfl))
          try go_frame
          refine Until.one (i := 0) (by kernel_rfl) rfl (fun K hK => ?_)
          have HK := Lib.hid hK
          clear hK
          go_simp
          have HB1 : Hid (BytesIn (V0.alloc (.cells #[.int .u8 1, .int .u8 2] 5)) (.slice (some ⟨V0.heap.size, 0, none⟩) 2 2) [1#8, 2#8]) := Lib.hid (bytes_new V0 [1#8, 2#8] _ 5 (0, 0) _ 2 2 rfl rfl (Nat.le_refl _) (by simp) rfl)
          have HK1 : Hid (Ok wr (V0.alloc (.cells #[.int .u8 1, .int .u8 2] 5))) := Lib.hid (HD.out.alloc _)
          generalize V0.alloc (.cells #[.int .u8 1, .int .u8 2] 5) = V1 at *
          have hS1 := HK1.out.cell x0
          refine HK.out.out _ _ (fun _ => hS1) (fun _ => ?_)
          clear hS
          have hS := hS1
          clear HK K
          try go_frame
          refine Until.take0 (i := 1) (v := ?v1) rfl (by kernel_rfl) (by kernel_rfl) (by kernel_rfl) (by kernel_rfl) (fun _ _ _ h => h) (Or.inl ⟨by rfl, ?hy1⟩) (fun _ => hS) ?rest1
          case hy1 => ((intro w hSw); clear hSw; go_simp; (try with_reducible rfl))
          try go_frame
          refine Until.one (i := 11) (by kernel_rfl) rfl (fun K hK => ?_)
          have HK := Lib.hid hK
          clear hK
          go_simp
          have HFR : Hid (FramesAt (V1.alloc (.cells #[.int .i64 3, .slice (some ⟨V0.heap.size, 0, none⟩) 2 2, .int .i64 ki, .slice (some ⟨gk + 1, 0, none⟩) q N] 28)) (some ⟨V1.heap.size, 0, none⟩) [⟨3, [1#8, 2#8]⟩, ⟨ki, zz q⟩]) := Lib.hid (frames_two V1 _ _ _ _ HB1.out (Ok.bytes HK1.out HZQ.out))
          have HK2 : Hid (Ok wr (V1.alloc (.cells #[.int .i64 3, .slice (some ⟨V0.heap.size, 0, none⟩) 2 2, .int .i64 ki, .slice (some ⟨gk + 1, 0, none⟩) q N] 28))) := Lib.hid (HK1.out.alloc _)
          generalize V1.alloc (.cells #[.int .i64 3, .slice (some ⟨V0.heap.size, 0, none⟩) 2 2, .int .i64 ki, .slice (some ⟨gk + 1, 0, none⟩) q N] 28) = V2 at *
          generalize V1.heap.size = gf at *
          have hS1 := HK2.out.cell x0
          refine HK.out.out _ _ (fun _ => hS1) (fun _ => ?_)
          clear hS
          have hS := hS1
          clear HK K
          try go_frame
          refine Until.one (i := 12) (by kernel_rfl) rfl (fun K hK => ?_)
          have HK := Lib.hid hK
          clear hK
          go_simp
          refine HK.out.out _ _ (fun h => absurd (h.symm.trans (by kernel_rfl : _ = true)) Bool.false_ne_true) (fun _ => ?_)
          clear HK K
          try go_frame
          refine Until.done (by kernel_rfl) ?_ _
          have HLL : Hid ((putL [⟨3, [1#8, 2#8]⟩, ⟨ki, zz q⟩]).length ≤ 300000) := Lib.hid (by
            rw [putL_cons, putL_cons, putL_nil, List.append_nil, List.length_append, bytesF_len, bytesF_len]
            show 9 + 2 + (9 + (zz q).length) ≤ _
            rw [zz_len]
            have := HQN.out
            have := HN.out
            omega)
          have HL2 : Hid (([⟨3, [1#8, 2#8]⟩, ⟨ki, zz q⟩] : List Fr).length = 2) := Lib.hid rfl
          generalize ([⟨3, [1#8, 2#8]⟩, ⟨ki, zz q⟩] : List Fr) = l2 at *
          clear hqi hqi2 HQ hqn hlow HZQ x0 hi0 hi1 hn5
          go_wp2_with fail
          (with_reducible refine (put_w (some ⟨gf, 0, none⟩) 2 2 l2 HL2.out (by decide) (by have := HLL.out; omega) V2 (HT.out.ok (Ok.trans HO3.out (Ok.trans HO3R.out HK2.out))) HFR.out).mono ?_)
          rintro _ w5 ⟨As, cs, rfl, ho5, k5⟩
          have HO5 := Lib.hid ho5
          have HK5 := Lib.hid k5
          clear ho5 k5
          go_wp2_with fail
          (with_reducible refine (turned_w (some ⟨gf, 0, none⟩) 2 2 l2 HL2.out (by decide) w5 (HFR.out.ok HK5.out)).mono ?_)
          rintro _ w6 ⟨At, ct, rfl, hft, k6⟩
          have HFT := Lib.hid hft
          have HK6 := Lib.hid k6
          clear hft k6
          go_wp2_with fail
          (with_reducible refine (rput_w At l2.length ct l2 rfl (by have := HL2.out; omega) (by have := HLL.out; omega) w6 HFT.out).mono ?_)
          rintro _ w7 ⟨A7, c7, rfl, ho7, k7⟩
          have HO7 := Lib.hid ho7
          have HK7 := Lib.hid (Ok.trans HK6.out k7)
          clear ho7 k7 HK6 HFT
          have HPL : Hid ((putM l2).length ≤ 300000) := Lib.hid (by
            have := HLL.out
            unfold putM
            split
            · omega
            · simp)
          generalize putM l2 = pm at *
          generalize hL : pm.length = L at *
          have HL := Lib.hid hL
          clear hL
          generalize putErr l2 = er at *
          have hne1 : (er != er) = false := by simp
          have HSB : Hid (Calls Tryd.prog 15 #[.slice As L cs, .slice A7 L c7] w7 fun e w' => e = .returned (.bool true) ∧ Ok w7 w') := Lib.hid (sameBytes_v _ _ pm w7 ((HO5.out.ok HK7.out).bytes (by have := HPL.out; have := HL.out; omega)) (HO7.out.bytes (by have := HPL.out; have := HL.out; omega)))
          go_wp2_with fail
          (with_reducible refine HSB.out.mono ?_)
          rintro _ w8 ⟨rfl, k8⟩
          have HK8 := Lib.hid (Ok.trans HOB.out (Ok.trans HK2.out (Ok.trans HK5.out (Ok.trans HK7.out k8))))
          clear k8
          go_wp2_with fail
          exact ⟨⟨k + 1, by omega, by go_num, HK8.out⟩, by simp [intOf]; omega⟩
        · have d2 : decide ((k : Int) < 2) = false := decide_eq_false (by omega)
          go_wp2_with fail
          exact ⟨⟨i + 1, by omega, by go_num, Ok.trans HOK.out HOB.out⟩, by simp [intOf]; omega⟩
    · have d1 : decide ((i : Int) < 5) = false := decide_eq_false (by omega)
      clear HC3
      obtain ⟨wc, hwc⟩ : ∃ x, x = wr := ⟨_, rfl⟩
      subst hwc
      go_wp2_with fail
      have HF3 := Lib.hid (frames_l3 wc)
      have HOA := Lib.hid ((((Ok.refl wc).alloc (.cells #[.int .u8 5, .int .u8 0, .int .u8 7] 5)).alloc (.cells #[.int .u8 0] 5)).alloc (.cells #[.int .i64 1, .slice (some ⟨wc.heap.size, 0, none⟩) 3 3, .int .i64 255, .slice none 0 0, .int .i64 0, .slice (some ⟨wc.heap.size + 1, 0, none⟩) 1 1] 28))
      (with_reducible refine (put_w (some ⟨wc.heap.size + 1 + 1, 0, none⟩) 3 3 l3 rfl (by decide) (by have := l3_len; omega) _ (HT.out.ok (Ok.trans HO3.out (Ok.trans HOK.out HOA.out))) HF3.out).mono ?_)
      rintro _ wd ⟨Ab, cb, rfl, hob, kd⟩
      have HBD := Lib.hid (hob.bytes (by
        have := l3_len
        unfold putM
        split
        · omega
        · simp))
      have HPL : Hid ((putM l3).length ≤ 100) := Lib.hid (by
        have := l3_len
        unfold putM
        split
        · omega
        · simp)
      have HOD : Hid (Ok w3 wd) := Lib.hid (Ok.trans HOK.out (Ok.trans HOA.out kd))
      clear hob kd HF3 HOA HOK
      generalize putM l3 = pm at *
      generalize putErr l3 = er at *
      generalize hL : pm.length = L at *
      have HL := Lib.hid hL
      have hL100 : L ≤ 100 := HPL.out
      clear hL
      have hcap := HBD.out.cap.2
      have HTN : Hid (∀ V B m d bs, Ok wd V → bs.length = m → BytesIn V (.slice B m d) bs → Calls Tryd.prog 3 #[.slice none 0 0, .slice B m d] V (Ret V (.bool true))) := Lib.hid (fun V B m d bs o hm hB => tells_nil V (HT.out.ok (Ok.trans HO3.out (Ok.trans HOD.out o))) B m d bs hm hB)
      go_wp2_with fail
      go_loopw [12] (fun vi wr => ∃ i : Nat, i ≤ L + 1 ∧ vi = .int .i64 i ∧ Ok wd wr) (fun vi _ => L + 1 - (intOf vi).toNat)
      case atStart => exact ⟨0, Nat.zero_le _, rfl, Ok.refl _⟩
      case round =>
        obtain ⟨i, hi, rfl, okr⟩ := hrel
        have HOR := Lib.hid okr
        clear okr
        by_cases hle : i ≤ L
        · have d2 : decide ((i : Int) ≤ (L : Int)) = true := decide_eq_true (by omega)
          have d2n : decide (i ≤ L) = true := decide_eq_true hle
          have hlow := low23 Ab L cb i (by omega)
          obtain ⟨A9, c9, hhigh, hhb⟩ := high_cut Ab L cb i pm HL.out hle
          have HHB := Lib.hid (fun V (o : Ok wd V) => hhb V (o.bytes HBD.out))
          have HT1 := Lib.hid (fun V (o : Ok wd V) => HTN.out V Ab i cb (pm.take i) o (by rw [List.length_take, HL.out]; omega) (bytes_take (N := i) (o.bytes HBD.out) (by rw [HL.out]; exact hle)))
          have hi0 : (0 : Int) ≤ (i : Int) := Int.natCast_nonneg _
          clear hhb
          go_wp2_with fail
          (with_reducible refine (HT1.out _ HOR.out).mono ?_)
          rintro _ w5 ⟨rfl, k5⟩
          have HK5 := Lib.hid (Ok.trans HOR.out k5)
          have HEM := Lib.hid (own_empty w5)
          have HKE : Hid (Ok wd (w5.alloc (.cells #[] 5))) := Lib.hid (HK5.out.alloc _)
          have HB9 := Lib.hid (HHB.out _ HKE.out)
          have HDL : Hid ((pm.drop i).length ≤ 100) := Lib.hid (by rw [List.length_drop, HL.out]; omega)
          have HSE : Hid (w5.heap.size ≤ (w5.alloc (.cells #[] 5)).heap.size) := Lib.hid (by simp)
          clear k5
          go_wp2_with (at_builtin; first
            | (refine wpList_step (fun K hK => ?_); refine step_appW (by rfl) (.tmp 90) (.tmp 93) rfl w5.heap.size (.slice (some ⟨w5.heap.size, 0, none⟩) 0 0) [] (pm.drop i) (.slice A9 (L - i) c9) rfl rfl HEM.out HB9.out (by have := HDL.out; simp only [List.length_nil]; omega) HSE.out ?_; intro A1 N1 c1 v1 ho1 hb1; have HO1 := Lib.hid ho1; have HKE1 : Hid (Ok w5 v1) := Lib.hid (Below.trans ((Ok.refl w5).alloc _) hb1); have HB1 := Lib.hid ((Ok.trans HK5.out HKE1.out).bytes HBD.out); refine hK _ _ ?_; clear hK K ho1 hb1)
            | (refine wpList_step (fun K hK => ?_); refine step_appW (by rfl) (.tmp 94) (.tmp 95) rfl w5.heap.size (.slice A1 N1 c1) ([] ++ pm.drop i) pm (.slice Ab L cb) rfl rfl HO1.out HB1.out (by have := HDL.out; have := HL.out; simp only [List.nil_append]; omega) HKE1.out.size ?_; intro A2 N2 c2 v2 ho2 hb2; have HO2 := Lib.hid ho2; have HKE2 : Hid (Ok wd v2) := Lib.hid (Ok.trans HK5.out (Below.trans HKE1.out hb2)); refine hK _ _ ?_; clear hK K ho2 hb2))
          obtain rfl : ([] ++ pm.drop i ++ pm).length = N2 := HO2.out.len'
          have HT2 := Lib.hid (HTN.out v2 A2 _ c2 ([] ++ pm.drop i ++ pm) HKE2.out rfl (HO2.out.bytes (by have := HDL.out; have := HL.out; simp only [List.nil_append, List.length_append]; omega)))
          (with_reducible refine HT2.out.mono ?_)
          rintro _ w6 ⟨rfl, k6⟩
          have HK6 := Lib.hid (Ok.trans HKE2.out k6)
          clear k6 HT2 HO2 HKE2 HO1 HB1 HKE1 HEM HKE HB9 HSE HDL HHB HT1 hhigh hlow
          go_wp2_with fail
          obtain ⟨wf, hwf⟩ : ∃ x, x = w6 := ⟨_, rfl⟩
          subst hwf
          go_loopw [13] (fun vk wr => ∃ k : Nat, k ≤ 256 ∧ vk = .int .i64 k ∧ Ok wd wr) (fun vk _ => 256 - (intOf vk).toNat)
          case atStart => exact ⟨0, Nat.zero_le _, rfl, HK6.out⟩
          case round =>
            obtain ⟨k, hk, rfl, okr⟩ := hrel
            have HOK := Lib.hid okr
            clear okr
            by_cases hlk : k < 256
            · have e1 : decide ((k : Int) < 256) = true := decide_eq_true (by omega)
              by_cases hil : i < L
              · have e2 : decide ((i : Int) < (L : Int)) = true := decide_eq_true (by omega)
                have HEM := Lib.hid (own_empty wr)
                have HKE : Hid (Ok wd (wr.alloc (.cells #[] 5))) := Lib.hid (HOK.out.alloc _)
                have HB9 := Lib.hid (HKE.out.bytes HBD.out)
                have HSE : Hid (wr.heap.size ≤ (wr.alloc (.cells #[] 5)).heap.size) := Lib.hid (by simp)
                have HB9L : Hid (([] : List B8).length + pm.length ≤ 140737488351232) := Lib.hid (by have := HL.out; simp only [List.length_nil]; omega)
                go_upto_region 26 with (at_builtin; go_must (refine wpList_appG rfl (.tmp 110) (.tmp 111) rfl wr.heap.size (.slice (some ⟨wr.heap.size, 0, none⟩) 0 0) [] pm (.slice Ab L cb) rfl rfl HEM.out HB9.out HB9L.out HSE.out ?_; intro A1 N1 c1 v1 ho1 hb1 hg1; have HO1 : Hid (OwnN v1 wr.heap.size (.slice A1 N1 c1) pm) := Lib.hid ho1; have HKE1 : Hid (Ok wr v1) := Lib.hid (Below.trans ((Ok.refl wr).alloc _) hb1); clear ho1 hb1 hg1))
                obtain rfl : L = N1 := HL.out.symm.trans HO1.out.len'
                obtain ⟨g1, rfl, hgc, hgw⟩ := HO1.out.capd (by omega)
                obtain ⟨C0, F0⟩ := HO1.out.cell i (by rw [HL.out]; exact hil)
                have hkw : IntKind.u8.wrap (k : Int) = ub (BitVec.ofNat 8 k) := by rw [IntKind.wrap_u8, ub, BitVec.toNat_ofNat]; omega
                obtain ⟨y, hy⟩ : ∃ y, BitVec.ofNat 8 k = y := ⟨_, rfl⟩
                rw [hy] at hkw
                have HST := Lib.hid (HO1.out.store i y)
                clear hy
                have hi1 : (i : Int) < (L : Int) := by omega
                go_upto_region 27 with fail
                have HOS := Lib.hid HST.out.1
                have HKS : Hid (Ok wd (v1.setCell ⟨g1, i, none⟩ (.int .u8 (ub y)))) := Lib.hid (Ok.trans HOK.out (Below.trans HKE1.out HST.out.2))
                clear HST C0 F0
                generalize v1.setCell ⟨g1, i, none⟩ (.int .u8 (ub y)) = v2 at *
                have HT3 := Lib.hid (HTN.out v2 (some ⟨g1, 0, none⟩) L c1 (pm.set i y) HKS.out (by rw [List.length_set]; exact HL.out) (HOS.out.bytes (by rw [List.length_set, HL.out]; omega)))
                go_wp2_with fail
                (with_reducible refine HT3.out.mono ?_)
                rintro _ v3 ⟨rfl, k7⟩
                have HK7 := Lib.hid (Ok.trans HKS.out k7)
                clear k7 HT3
                go_wp2_with fail
                exact ⟨⟨k + 1, hlk, by go_num, HK7.out⟩, by simp [intOf]; omega⟩
              · have e2 : decide ((i : Int) < (L : Int)) = false := decide_eq_false (by omega)
                go_wp2_with fail
                exact ⟨⟨i + 1, by omega, by go_num, HOK.out⟩, by simp [intOf]; omega⟩
            · have e1 : decide ((k : Int) < 256) = false := decide_eq_false (by omega)
              go_wp2_with fail
              exact ⟨⟨i + 1, by omega, by go_num, HOK.out⟩, by simp [intOf]; omega⟩
        · have d2 : decide ((i : Int) ≤ (L : Int)) = false := decide_eq_false (by omega)
          have d2n : decide (i ≤ L) = false := decide_eq_false hle
          obtain rfl : i = L + 1 := by omega
          obtain ⟨we, hwe⟩ : ∃ x, x = wr := ⟨_, rfl⟩
          subst hwe
          have hn1 : 262144 ≤ N := by rw [HN.out]; decide
          have hlow : ∀ wx, (Instr.slice 23 (.slice (some ⟨gk + 1, 0, none⟩) N N) none (some (.int .i64 262144)) none).run Tryd.prog wx = .ok (.slice (some ⟨gk + 1, 0, none⟩) 262144 N) wx := fun wx => low23 (some ⟨gk + 1, 0, none⟩) N N 262144 hn1 wx
          have HWE : Hid (Ok w3 we) := Lib.hid (Ok.trans HOD.out HOR.out)
          have HZM : Hid (BytesIn we (.slice (some ⟨gk + 1, 0, none⟩) 262144 N) (zz 262144)) := Lib.hid (by
            have h := bytes_take (N := 262144) (HWE.out.bytes HZL.out) (by rw [zz_len]; exact hn1)
            rw [zz_take N 262144 hn1] at h
            exact h)
          have HFZ := Lib.hid (frames_one we 0 (.slice (some ⟨gk + 1, 0, none⟩) 262144 N) HZM.out)
          have HKZ : Hid (Ok we (we.alloc (.cells #[.int .i64 0, .slice (some ⟨gk + 1, 0, none⟩) 262144 N] 45))) := Lib.hid ((Ok.refl we).alloc _)
          have HP0 := Lib.hid put_zero
          have HPM := Lib.hid putM_zero
          have HPN := Lib.hid putL_zero_len
          have HGZ := Lib.hid got_zero
          have HLZ : Hid (([⟨0, zz 262144⟩] : List Fr).length = 1) := Lib.hid rfl
          clear HZM
          generalize ([⟨0, zz 262144⟩] : List Fr) = lz at *
          have HPX := Lib.hid (rput_w (some ⟨we.heap.size, 0, none⟩) 1 1 lz HLZ.out (by decide) (by rw [HPN.out]; decide) _ HFZ.out)
          have HPY : Hid (Calls Tryd.prog 11 #[.slice (some ⟨we.heap.size, 0, none⟩) 1 1] (we.alloc (.cells #[.int .i64 0, .slice (some ⟨gk + 1, 0, none⟩) 262144 N] 45)) (fun e w' => ∃ A c, e = .returned (.tuple #[.slice A 262153 c, .int .i64 0]) ∧ OwnN w' (we.alloc (.cells #[.int .i64 0, .slice (some ⟨gk + 1, 0, none⟩) 262144 N] 45)).heap.size (.slice A 262153 c) (putL lz) ∧ Ok (we.alloc (.cells #[.int .i64 0, .slice (some ⟨gk + 1, 0, none⟩) 262144 N] 45)) w')) := Lib.hid (by
            have h := HPX.out
            unfold PutP at h
            rw [HP0.out, HPM.out, HPN.out] at h
            exact h)
          clear HPX HP0 HPM HFZ
          have HOV : Hid (nextF (bytesF ⟨0, zz N⟩) = none) := Lib.hid (by rw [HN.out]; exact next_over)
          have HOL : Hid ((bytesF ⟨0, zz N⟩).length ≤ 300009) := Lib.hid (by
            rw [bytesF_len]
            show 9 + (zz N).length ≤ _
            rw [zz_len, HN.out]
            decide)
          have HONE : Hid (∀ V, Ok we V → Calls Tryd.prog 19 #[.agg #[.int .i64 0, .slice (some ⟨gk + 1, 0, none⟩) N N]] V (RowG V (bytesF ⟨0, zz N⟩))) := Lib.hid (fun V o => rone_w 0 (by decide) (some ⟨gk + 1, 0, none⟩) N N (zz N) (zz_len N) (by rw [HN.out]; decide) V ((Ok.trans HWE.out o).bytes HZL.out))
          generalize bytesF ⟨0, zz N⟩ = ob at *
          go_wp2_with fail
          (with_reducible refine HPY.out.mono ?_)
          rintro _ w5 ⟨Aw, cw, rfl, how, k5⟩
          have HOW := Lib.hid how
          have HK5 := Lib.hid (Ok.trans HKZ.out k5)
          clear how k5 HPY HKZ hlow
          go_wp2_with fail
          (with_reducible refine (HONE.out _ HK5.out).mono ?_)
          rintro _ w6 ⟨A6, n6, c6, rfl, ho6, k6⟩
          have HO6 := Lib.hid ho6
          have HK6 := Lib.hid k6
          have HN6 := Lib.hid ho6.len'
          have HWK6 := Lib.hid (Ok.trans HWE.out (Ok.trans HK5.out k6))
          clear ho6 k6 HONE
          have HG1 := Lib.hid (get_w Aw 262153 cw (putL lz) HPN.out (by decide) w6 (HT.out.ok (Ok.trans HO3.out HWK6.out)) ((HOW.out.ok HK6.out).bytes (by rw [HPN.out]; decide)))
          go_wp2_with fail
          (with_reducible refine HG1.out.mono ?_)
          rintro _ w7 ⟨Ax, nx, cx, xs, r, rfl, hG, hF, k7⟩
          obtain ⟨rfl, rfl⟩ := got_uniq HGZ.out hG
          obtain rfl : nx = 1 := hF.1.trans HLZ.out
          rw [HPN.out]
          have HK7 := Lib.hid k7
          have HWK7 := Lib.hid (Ok.trans HWK6.out k7)
          clear hG hF k7 HG1
          have HG2 := Lib.hid (get_w A6 n6 c6 ob HN6.out (by have := HN6.out; have := HOL.out; omega) w7 (HT.out.ok (Ok.trans HO3.out HWK7.out)) ((HO6.out.ok HK7.out).bytes (by have := HOL.out; omega)))
          go_wp2_with fail
          (with_reducible refine HG2.out.mono ?_)
          rintro _ w8 ⟨Ay, ny, cy, ys, r2, rfl, hG, hF, k8⟩
          obtain ⟨rfl, -⟩ := got_none HOV.out hG
          obtain rfl : ny = 0 := hF.1
          have HWK8 := Lib.hid (Ok.trans HO3.out (Ok.trans HWK7.out k8))
          clear hG hF k8 HG2
          rw [putL_nil, List.length_nil]
          go_wp2_with fail
          (with_reducible refine (HAW.out _ HWK8.out).mono ?_)
          rintro _ w9 ⟨rfl, k9⟩
          go_wp2_with fail
          go_ret
          exact ⟨rfl, Ok.trans HWK8.out k9⟩
end Go.Proofs.YtpebnlddmjfomaaDoor
