/- Contracts of the writer's calls with one thing each, and of what it tells at the end, whether it is spoilt or not. -/
import Derived.Test.YtmbnknbbfipciaaWc
import Derived.Test.YtmbnknbbfipciaaI
namespace Go.Proofs.Ytmbnknbbfipciaa
open Go.RowKit

set_option maxHeartbeats 400000 in
theorem none_s (sp : Bool) (g : Nat) (v : Value) (xs : List B8) (W : World) (hw : Ws sp g W v xs) :
    Calls Try.prog 33 #[.pointer (some ⟨g, 0, none⟩)] W fun e w' => e = .returned (.bool false) ∧ W = w' := by
  have hc := hw.c2
  clear hw
  go_enter Try.func33, Try.ntmps33
  go_wp2
  go_ret
  exact ⟨rfl, rfl⟩

set_option maxHeartbeats 400000 in
theorem newWriter_s (W : World) :
    Calls Try.prog 8 #[] W fun e w' => e = .returned (.pointer (some ⟨W.heap.size, 0, none⟩)) ∧ Ws false W.heap.size w' (.slice none 0 0) [] ∧ Below W.heap.size W w' := by
  have HF : Hid (Ws false W.heap.size (W.alloc (.cells #[.slice none 0 0, .bool false, .bool true] 64)) (.slice none 0 0) []) := Lib.hid (by
    refine ⟨?_, World.ownsRow_nil _ _ _ _, ?_, ?_, World.frozen?_alloc_at _ _ _ _ rfl, World.frozen?_alloc_at _ _ _ _ rfl⟩ <;> (rw [World.cell?_alloc_at _ _ _ _ rfl]; rfl)
    )
  go_enter Try.func8, Try.ntmps8
  go_wp2
  go_ret
  exact ⟨rfl, HF.out, (Below.refl _ _).alloc (Nat.le_refl _) _⟩

set_option maxRecDepth 100000 in
set_option maxHeartbeats 1000000 in
theorem texts_s (sp : Bool) (g : Nat) (v : Value) (xs : List B8) (s : ByteArray) (W : World) (hw : Ws sp g W v xs) (hs : s.size ≤ 1000000000) (hx : xs.length ≤ 140000000000000) (b o c : Nat) (hc : W.cell? ⟨b, o, none⟩ = some (.string s)) :
    Calls Try.prog 12 #[.pointer (some ⟨g, 0, none⟩), .slice (some ⟨b, o, none⟩) 1 c] W (WsP sp g W (.pointer (some ⟨g, 0, none⟩)) (xs ++ enc s.size ++ ofStr s)) := by
  have HW := Lib.hid hw
  clear hw
  go_enter Try.func12, Try.ntmps12
  go_wp2_with fail
  refine (none_s sp g v xs _ HW.out).mono ?_
  rintro e w1 ⟨rfl, rfl⟩
  go_wp2_with fail
  refine wp_loop_rounds 2 ?_
  rw [rounds_succ]
  go_wp2_with fail
  refine (text_s sp g v xs s _ HW.out hs hx).mono ?_
  rintro e w2 ⟨rfl, hwx, hb2⟩
  have HWX := Lib.hid hwx
  have HB2 := Lib.hid hb2
  clear hwx hb2 hc
  go_wp2_with fail
  rw [rounds_succ]
  go_wp2_with fail
  go_ret
  exact ⟨rfl, HWX.out, HB2.out⟩

set_option maxRecDepth 100000 in
set_option maxHeartbeats 1000000 in
theorem numbers_s (sp : Bool) (g : Nat) (v : Value) (xs : List B8) (n : Int) (W : World) (hw : Ws sp g W v xs) (hx : xs.length ≤ 140000000000000) (b o c : Nat) (hc : W.cell? ⟨b, o, none⟩ = some (.int .i64 n)) :
    Calls Try.prog 11 #[.pointer (some ⟨g, 0, none⟩), .slice (some ⟨b, o, none⟩) 1 c] W (WsP (sp || !goodB n) g W (.pointer (some ⟨g, 0, none⟩)) (xs ++ (Item.num n).enc)) := by
  have HW := Lib.hid hw
  clear hw
  go_enter Try.func11, Try.ntmps11
  go_wp2_with fail
  refine (none_s sp g v xs _ HW.out).mono ?_
  rintro e w1 ⟨rfl, rfl⟩
  go_wp2_with fail
  refine wp_loop_rounds 2 ?_
  rw [rounds_succ]
  go_wp2_with fail
  refine (number_any sp g v xs n _ HW.out (by omega)).mono ?_
  rintro e w2 ⟨rfl, hwx, hb2⟩
  have HWX := Lib.hid hwx
  have HB2 := Lib.hid hb2
  clear hwx hb2 hc
  go_wp2_with fail
  rw [rounds_succ]
  go_wp2_with fail
  go_ret
  exact ⟨rfl, HWX.out, HB2.out⟩

set_option maxRecDepth 100000 in
set_option maxHeartbeats 1000000 in
theorem flags_s (sp : Bool) (g : Nat) (v : Value) (xs : List B8) (f : Bool) (W : World) (hw : Ws sp g W v xs) (hx : xs.length ≤ 140000000000000) (b o c : Nat) (hc : W.cell? ⟨b, o, none⟩ = some (.bool f)) :
    Calls Try.prog 10 #[.pointer (some ⟨g, 0, none⟩), .slice (some ⟨b, o, none⟩) 1 c] W (WsP sp g W (.pointer (some ⟨g, 0, none⟩)) (xs ++ (Item.flag f).enc)) := by
  have HW := Lib.hid hw
  clear hw
  go_enter Try.func10, Try.ntmps10
  go_wp2_with fail
  refine (none_s sp g v xs _ HW.out).mono ?_
  rintro e w1 ⟨rfl, rfl⟩
  go_wp2_with fail
  refine wp_loop_rounds 2 ?_
  rw [rounds_succ]
  go_wp2_with fail
  refine (flag_s sp g v xs f _ HW.out hx).mono ?_
  rintro e w2 ⟨rfl, hwx, hb2⟩
  have HWX := Lib.hid hwx
  have HB2 := Lib.hid hb2
  clear hwx hb2 hc
  go_wp2_with fail
  rw [rounds_succ]
  go_wp2_with fail
  go_ret
  exact ⟨rfl, HWX.out, HB2.out⟩

set_option maxRecDepth 100000 in
set_option maxHeartbeats 1000000 in
theorem rows_s (sp : Bool) (g : Nat) (v : Value) (xs ys : List B8) (V : Value) (W : World) (hw : Ws sp g W v xs) (hy : BytesIn W V ys) (hB : ∀ A c, V = .slice (some A) ys.length c → 0 < ys.length → A.block < g) (hs : ys.length ≤ 1000000000) (hx : xs.length ≤ 140000000000000) (b o c : Nat) (hc : W.cell? ⟨b, o, none⟩ = some V) :
    Calls Try.prog 9 #[.pointer (some ⟨g, 0, none⟩), .slice (some ⟨b, o, none⟩) 1 c] W (WsP sp g W (.pointer (some ⟨g, 0, none⟩)) (xs ++ enc ys.length ++ ys)) := by
  have HW := Lib.hid hw
  have HY := Lib.hid hy
  have HBB := Lib.hid hB
  clear hw hy hB
  go_enter Try.func9, Try.ntmps9
  go_wp2_with fail
  refine (none_s sp g v xs _ HW.out).mono ?_
  rintro e w1 ⟨rfl, rfl⟩
  go_wp2_with fail
  refine wp_loop_rounds 2 ?_
  rw [rounds_succ]
  go_wp2_with fail
  refine (row_s sp g v xs ys V _ HW.out HY.out HBB.out hs hx).mono ?_
  rintro e w2 ⟨rfl, hwx, hb2⟩
  have HWX := Lib.hid hwx
  have HB2 := Lib.hid hb2
  clear hwx hb2 hc
  go_wp2_with fail
  rw [rounds_succ]
  go_wp2_with fail
  go_ret
  exact ⟨rfl, HWX.out, HB2.out⟩

set_option maxRecDepth 100000 in
set_option maxHeartbeats 1000000 in
theorem done_s (g : Nat) (v : Value) (xs : List B8) (W : World) (hw : Ws false g W v xs) (hx : xs.length ≤ 140737488350000) :
    Calls Try.prog 13 #[.pointer (some ⟨g, 0, none⟩)] W (DonePost W xs) := by
  obtain ⟨A, c, rfl⟩ := hw.form
  exact done_w g (.slice A xs.length c) xs W ⟨hw.c0, hw.own, hw.c1, hw.c2, hw.f0⟩ hx
set_option maxHeartbeats 1000000 in
theorem done_bad (g : Nat) (v : Value) (xs : List B8) (W : World) (hw : Ws true g W v xs) :
    Calls Try.prog 13 #[.pointer (some ⟨g, 0, none⟩)] W fun e w' => e = .returned (.tuple #[.slice none 0 0, .int .i64 2]) ∧ W = w' := by
  have HW := Lib.hid hw
  have hc1 := hw.c1
  clear hw
  go_enter Try.func13, Try.ntmps13
  go_wp2_with fail
  refine (none_s true g v xs _ HW.out).mono ?_
  rintro e w1 ⟨rfl, rfl⟩
  go_wp2_with fail
  go_ret2
  exact ⟨rfl, rfl⟩
end Go.Proofs.Ytmbnknbbfipciaa
