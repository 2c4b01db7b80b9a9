/- The chapter's example, walked. -/
import Derived.Test.YtpebnlddmjfomaaDoorFl
namespace Go.Proofs.YtpebnlddmjfomaaDoor
open Go.RowKit
def f7 : Fr := ⟨7, []⟩
theorem put7 : putL [f7] = headB 7 0 ++ four (sumF 7 []) := by
  rw [putL_cons, putL_nil, List.append_nil]
  simp [bytesF, f7]
theorem right7 : putErr [f7] = 0 := by decide
theorem putM7 : putM [f7] = headB 7 0 ++ four (sumF 7 []) := by unfold putM; rw [if_pos right7, put7]
theorem sum7 : more 0#32 [headB 7 0] = more 0#32 [headB 7 0, []] := by
  unfold more
  rw [fdss_flat, fdss_flat]
  simp
theorem sum7_ne : sumF 7 [] ≠ 0 := by decide +kernel
theorem rows1_of (w : World) (v : Value) (xs : List B8) (g c : Nat) (hc : w.cell? ⟨g, 0, none⟩ = some v) (h : BytesIn w v xs) : RowsIn w (.slice (some ⟨g, 0, none⟩) 1 c) [xs] :=
  .inr ⟨g, 0, c, rfl, by simp, fun r hr => match r, hr with
    | 0, _ => ⟨v, hc, h⟩⟩
theorem sum7_w (v : Value) (W : World) (hr : RowsIn W v [headB 7 0]) (ht : Tab W) : Calls Tryd.prog 22 #[v] W (Ret W (.int .u32 (sumF 7 [] : Nat))) := by
  have h := sum0_v v _ W hr ht
  rw [sum7] at h
  exact h
theorem frames7 (w : World) : FramesAt (w.alloc (.cells #[.int .i64 7, .slice none 0 0] 28)) (some ⟨w.heap.size, 0, none⟩) [f7] := fun j hj => by
  obtain rfl : j = 0 := by simpa using hj
  have h := heap_alloc_new w (.cells #[.int .i64 7, .slice none 0 0] 28)
  exact ⟨_, 0, rfl, cell_of_heap h 0, .slice none 0 0, cell_of_heap h 1, BytesIn.nil _⟩
theorem head7 : (headB 7 0).map bv = [.int .u8 0, .int .u8 0, .int .u8 0, .int .u8 0, .int .u8 7] := by simp [headB, four, bv, ub]
set_option maxRecDepth 100000 in
set_option maxHeartbeats 4000000 in
theorem awake_w (w : World) (ht : Tab w) : Calls Tryd.prog 8 #[] w (Ret w (.bool true)) := by
  have HT := Lib.hid ht
  have HPU := Lib.hid (put_w (some ⟨w.heap.size, 0, none⟩) 1 1 [f7] rfl (by decide) (by rw [put7]; show (9 : Nat) ≤ _; decide) _ (ht.ok ((Ok.refl w).alloc _)) (frames7 w))
  clear ht
  have HS0 : Hid (((sumF 7 [] : Nat) : Int) != 0) := Lib.hid (by have := sum7_ne; simp; omega)
  have HS := Lib.hid (sumF_lt 7 [])
  have HSW := Lib.hid (fun V v (hr : RowsIn V v [headB 7 0]) (k : Ok w V) => sum7_w v V hr (HT.out.ok k))
  unfold PutP at HPU
  rw [putM7, right7] at HPU
  generalize sumF 7 [] = sn at *
  go_enter Tryd.func8, Tryd.ntmps8
  go_wp2_with fail
  (with_reducible refine HPU.out.mono ?_)
  rintro _ w1 ⟨A, c, rfl, hO, o1⟩
  have HB := Lib.hid (hO.bytes (by rw [List.length_append, headB_len, four_len]; decide))
  have HO := Lib.hid (Ok.trans ((Ok.refl w).alloc _) o1)
  clear hO o1 HPU
  go_wp2_with fail
  have okD : Ok w ((w1.alloc (.cells #[.int .u8 0, .int .u8 0, .int .u8 0, .int .u8 0, .int .u8 7] 5)).alloc (.cells #[.slice (some ⟨w1.heap.size, 0, none⟩) 5 5] 23)) := (HO.out.alloc _).alloc _
  have hY : BytesIn (w1.alloc (.cells #[.int .u8 0, .int .u8 0, .int .u8 0, .int .u8 0, .int .u8 7] 5)) (.slice (some ⟨w1.heap.size, 0, none⟩) 5 5) (headB 7 0) := bytes_new _ _ _ _ _ _ _ _ rfl rfl (Nat.le_refl _) (by rw [headB_len]; decide) (by rw [show ((headB 7 0).map fun b => Value.int .u8 (ub b)) = (headB 7 0).map bv from rfl, head7])
  (with_reducible refine (HSW.out _ _ (rows1_of _ _ _ _ _ (by go_cell) (((Ok.refl _).alloc _).bytes hY)) okD).mono ?_)
  rintro _ w2 ⟨rfl, o2⟩
  have HO2 := Lib.hid (Ok.trans okD o2)
  have HB2 := Lib.hid (Ok.bytes (Ok.trans (((Ok.refl w1).alloc _).alloc _) o2) HB.out)
  have h0 : (0 : Int) ≤ (sn : Int) := Int.natCast_nonneg _
  have h1 : (sn : Int) < 4294967296 := by have := HS.out; omega
  have e1 : ((sn : Int) != 0) = true := HS0.out
  clear okD hY o2 HO HB HSW HS0
  have HC : Hid (#[Value.int .u8 0, .int .u8 0, .int .u8 0, .int .u8 0, .int .u8 7, .int .u8 ((sn : Int) % 256), .int .u8 ((sn : Int) / 256 % 256), .int .u8 ((sn : Int) / 65536 % 256), .int .u8 ((sn : Int) / 16777216)].toList = (headB 7 0 ++ four sn).map bv) := Lib.hid (by
    have h4 := congrArg Array.toList (four_cells sn HS.out)
    rw [List.map_append, head7, show ((four sn).map bv) = ((four sn).map bv).toArray.toList from rfl, h4]
    rfl)
  go_wp2_with fail
  have hb := HB2.out
  rw [List.length_append] at hb
  (with_reducible refine (sameBytes_v _ _ (headB 7 0 ++ four sn) _ (((Ok.refl w2).alloc _).bytes hb) (bytes_new _ _ _ _ _ _ _ _ rfl (by rw [List.length_append, headB_len, four_len]) (Nat.le_refl _) (by rw [List.length_append, headB_len, four_len]; decide) HC.out)).mono ?_)
  rintro _ w3 ⟨rfl, o3⟩
  have HO3 := Lib.hid (Ok.trans (HO2.out.alloc _) o3)
  clear o3 hb
  go_wp2_with fail
  go_ret
  exact ⟨rfl, HO3.out⟩
end Go.Proofs.YtpebnlddmjfomaaDoor
