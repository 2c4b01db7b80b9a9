/- What nil, and a log that nobody made, answer. -/
import Derived.Test.YtebhcadolnjplaaGp
import Derived.Test.YtebhcadolnjplaaGg
namespace Go.Proofs.Ytebhcadolnjplaa
open Go.RowKit

/-- No log: nil, or one that nobody made. -/
def NoLog (v : Value) (w : World) : Prop := v = .pointer none ∨ ∃ q, v = .pointer (some ⟨q, 0, none⟩) ∧ w.cell? ⟨q, 8, none⟩ = some (.bool false)
theorem NoLog.ok {v : Value} {w w' : World} (h : NoLog v w) (k : Ok w w') : NoLog v w' := h.imp id fun ⟨q, e, c⟩ => ⟨q, e, k.cell c⟩
theorem nil_none (v : Value) (w : World) (h : NoLog v w) : Calls Try.prog 55 #[v] w (Ret w (.bool true)) := by
  rcases h with rfl | ⟨q, rfl, c8⟩
  · go_enter Try.func55, Try.ntmps55
    go_wp2_with fail
    go_ret
    exact ⟨rfl, Ok.refl _⟩
  · go_enter Try.func55, Try.ntmps55
    go_wp2_with fail
    go_ret
    exact ⟨rfl, Ok.refl _⟩
set_option maxRecDepth 100000 in
theorem nil_12 (v : Value) (x : Int) (y : Value) (w : World) (h : NoLog v w) : Calls Try.prog 12 #[v, .int .i64 x, y] w (Ret w (.tuple #[.int .i64 0, .bool false])) := by
  have hno := nil_none v w h
  clear h
  go_enter Try.func12, Try.ntmps12
  go_wp2_with fail
  refine hno.mono ?_
  clear hno
  rintro _ w1 ⟨rfl, o1⟩
  go_wp2_with fail
  first
    | (go_ret; exact ⟨rfl, o1⟩)
    | (refine bodyPost_ret (v := .tuple #[.int .i64 0, .bool false]) (by simp [results, Try.results12, go_sem]; try rfl) rfl ?_
       exact ⟨rfl, o1⟩)
set_option maxRecDepth 100000 in
theorem nil_13 (v : Value) (x : Int) (w : World) (h : NoLog v w) : Calls Try.prog 13 #[v, .int .i64 x] w (Ret w (.tuple #[.int .i64 0, .bool false])) := by
  have hno := nil_none v w h
  clear h
  go_enter Try.func13, Try.ntmps13
  go_wp2_with fail
  refine hno.mono ?_
  clear hno
  rintro _ w1 ⟨rfl, o1⟩
  go_wp2_with fail
  first
    | (go_ret; exact ⟨rfl, o1⟩)
    | (refine bodyPost_ret (v := .tuple #[.int .i64 0, .bool false]) (by simp [results, Try.results13, go_sem]; try rfl) rfl ?_
       exact ⟨rfl, o1⟩)
set_option maxRecDepth 100000 in
theorem nil_16 (v : Value) (y : Value) (w : World) (h : NoLog v w) : Calls Try.prog 16 #[v, y] w (Ret w (.int .i64 0)) := by
  have hno := nil_none v w h
  clear h
  go_enter Try.func16, Try.ntmps16
  go_wp2_with fail
  refine hno.mono ?_
  clear hno
  rintro _ w1 ⟨rfl, o1⟩
  go_wp2_with fail
  first
    | (go_ret; exact ⟨rfl, o1⟩)
    | (refine bodyPost_ret (v := .int .i64 0) (by simp [results, Try.results16, go_sem]; try rfl) rfl ?_
       exact ⟨rfl, o1⟩)
set_option maxRecDepth 100000 in
theorem nil_18 (v : Value)  (w : World) (h : NoLog v w) : Calls Try.prog 18 #[v] w (Ret w (.int .i64 0)) := by
  have hno := nil_none v w h
  clear h
  go_enter Try.func18, Try.ntmps18
  go_wp2_with fail
  refine hno.mono ?_
  clear hno
  rintro _ w1 ⟨rfl, o1⟩
  go_wp2_with fail
  first
    | (go_ret; exact ⟨rfl, o1⟩)
    | (refine bodyPost_ret (v := .int .i64 0) (by simp [results, Try.results18, go_sem]; try rfl) rfl ?_
       exact ⟨rfl, o1⟩)
set_option maxRecDepth 100000 in
theorem nil_19 (v : Value) (x : Int) (w : World) (h : NoLog v w) : Calls Try.prog 19 #[v, .int .i64 x] w (Ret w (.bool false)) := by
  have hno := nil_none v w h
  clear h
  go_enter Try.func19, Try.ntmps19
  go_wp2_with fail
  refine hno.mono ?_
  clear hno
  rintro _ w1 ⟨rfl, o1⟩
  go_wp2_with fail
  first
    | (go_ret; exact ⟨rfl, o1⟩)
    | (refine bodyPost_ret (v := .bool false) (by simp [results, Try.results19, go_sem]; try rfl) rfl ?_
       exact ⟨rfl, o1⟩)
set_option maxRecDepth 100000 in
theorem nil_21 (v : Value) (x y : Int) (w : World) (h : NoLog v w) : Calls Try.prog 21 #[v, .int .i64 x, .int .i64 y] w (Ret w (.slice none 0 0)) := by
  have hno := nil_none v w h
  clear h
  go_enter Try.func21, Try.ntmps21
  go_wp2_with fail
  refine hno.mono ?_
  clear hno
  rintro _ w1 ⟨rfl, o1⟩
  go_wp2_with fail
  first
    | (go_ret; exact ⟨rfl, o1⟩)
    | (refine bodyPost_ret (v := .slice none 0 0) (by simp [results, Try.results21, go_sem]; try rfl) rfl ?_
       exact ⟨rfl, o1⟩)
set_option maxRecDepth 100000 in
set_option maxHeartbeats 4000000 in
theorem nil_14 (v : Value) (x : Int) (W : World) (h : NoLog v W) : Calls Try.prog 14 #[v, .int .i64 x] W (AtP W en0 false) := by
  have HZ : Hid (Sev W.heap.size (.int .i64 0) (.int .u8 0) (.slice none 0 0) (.slice none 0 0) (.slice none 0 0) (.slice none 0 0) (.slice none 0 0) (W.alloc (.cells #[.int .i64 0, .int .u8 0, .slice none 0 0, .slice none 0 0, .slice none 0 0, .slice none 0 0, .slice none 0 0] 44))) := Lib.hid (Sev.new _ _ _ _ _ _ _ _ _)
  have HO : Hid (Ok W (W.alloc (.cells #[.int .i64 0, .int .u8 0, .slice none 0 0, .slice none 0 0, .slice none 0 0, .slice none 0 0, .slice none 0 0] 44))) := Lib.hid ((Ok.refl W).alloc _)
  have HN := Lib.hid h
  clear h
  go_enter Try.func14, Try.ntmps14
  go_wp2_with fail
  obtain ⟨z, hz⟩ : ∃ z, z = W.heap.size := ⟨_, rfl⟩
  have HS := Lib.hid hz
  rw [← hz] at HZ ⊢
  clear hz
  generalize (W.alloc (.cells #[.int .i64 0, .int .u8 0, .slice none 0 0, .slice none 0 0, .slice none 0 0, .slice none 0 0, .slice none 0 0] 44)) = w0 at *
  refine (nil_none v w0 (HN.out.ok HO.out)).mono ?_
  rintro _ w1 ⟨rfl, o1⟩
  have HZ2 := Lib.hid (HZ.out.ok o1)
  have HO2 : Hid (Ok W w1) := Lib.hid (HO.out.trans o1)
  clear o1 HZ HO
  have z0 := HZ2.out.c0
  have z1 := HZ2.out.c1
  have z2 := HZ2.out.c2
  have z3 := HZ2.out.c3
  have z4 := HZ2.out.c4
  have z5 := HZ2.out.c5
  have z6 := HZ2.out.c6
  have f0 := HZ2.out.f 0
  have f1 := HZ2.out.f 1
  have f2 := HZ2.out.f 2
  have f3 := HZ2.out.f 3
  have f4 := HZ2.out.f 4
  have f5 := HZ2.out.f 5
  have f6 := HZ2.out.f 6
  go_wp2_with fail
  refine bodyPost_ret (v := .tuple #[er0.val, .bool false]) (by simp [results, Try.results14, go_sem, z0, z1, z2, z3, z4, z5, z6, er0, ER.val]; try rfl) rfl ?_
  clear z0 z1 z2 z3 z4 z5 z6 f0 f1 f2 f3 f4 f5 f6
  refine ⟨er0, rfl, fun S' _ => EnAt.zero _ _, ?_⟩
  have hg : W.heap.size ≤ z := Nat.le_of_eq HS.out.symm
  show Below W.heap.size W _
  repeat refine Below.setCell ?_ hg _
  exact HO2.out
set_option maxRecDepth 100000 in
set_option maxHeartbeats 4000000 in
theorem nil_15 (v : Value) (W : World) (h : NoLog v W) : Calls Try.prog 15 #[v] W (Ret W (.tuple #[.agg #[.slice none 0 0, .slice none 0 0, .slice none 0 0, .slice none 0 0], .int .i64 0])) := by
  have HZ : Hid (Fo W.heap.size (.slice none 0 0) (.slice none 0 0) (.slice none 0 0) (.slice none 0 0) (W.alloc (.cells #[.slice none 0 0, .slice none 0 0, .slice none 0 0, .slice none 0 0] 25))) := Lib.hid (Fo.new _ _ _ _ _ _)
  have HO : Hid (Ok W (W.alloc (.cells #[.slice none 0 0, .slice none 0 0, .slice none 0 0, .slice none 0 0] 25))) := Lib.hid ((Ok.refl W).alloc _)
  have HN := Lib.hid h
  clear h
  go_enter Try.func15, Try.ntmps15
  go_wp2_with fail
  obtain ⟨z, hz⟩ : ∃ z, z = W.heap.size := ⟨_, rfl⟩
  have HS := Lib.hid hz
  rw [← hz] at HZ ⊢
  clear hz
  generalize (W.alloc (.cells #[.slice none 0 0, .slice none 0 0, .slice none 0 0, .slice none 0 0] 25)) = w0 at *
  refine (nil_none v w0 (HN.out.ok HO.out)).mono ?_
  rintro _ w1 ⟨rfl, o1⟩
  have HZ2 := Lib.hid (HZ.out.ok o1)
  have HO2 : Hid (Ok W w1) := Lib.hid (HO.out.trans o1)
  clear o1 HZ HO
  have z0 := HZ2.out.c0
  have z1 := HZ2.out.c1
  have z2 := HZ2.out.c2
  have z3 := HZ2.out.c3
  have f0 := HZ2.out.f 0
  have f1 := HZ2.out.f 1
  have f2 := HZ2.out.f 2
  have f3 := HZ2.out.f 3
  go_wp2_with fail
  refine bodyPost_ret (v := .tuple #[.agg #[.slice none 0 0, .slice none 0 0, .slice none 0 0, .slice none 0 0], .int .i64 0]) (by simp [results, Try.results15, go_sem, z0, z1, z2, z3]; try rfl) rfl ?_
  clear z0 z1 z2 z3 f0 f1 f2 f3
  refine ⟨rfl, ?_⟩
  have hg : W.heap.size ≤ z := Nat.le_of_eq HS.out.symm
  show Below W.heap.size W _
  repeat refine Below.setCell ?_ hg _
  exact HO2.out
set_option maxRecDepth 100000 in
set_option maxHeartbeats 4000000 in
theorem nil_23 (v : Value) (W : World) (h : NoLog v W) : Calls Try.prog 23 #[v] W (Ret W (.agg #[.int .i64 0, .int .i64 0, .slice none 0 0, .slice none 0 0, .slice none 0 0, .slice none 0 0])) := by
  have HZ : Hid (Six W.heap.size (.int .i64 0) (.int .i64 0) (.slice none 0 0) (.slice none 0 0) (.slice none 0 0) (.slice none 0 0) (W.alloc (.cells #[.int .i64 0, .int .i64 0, .slice none 0 0, .slice none 0 0, .slice none 0 0, .slice none 0 0] 27))) := Lib.hid (Six.new _ _ _ _ _ _ _ _)
  have HO : Hid (Ok W (W.alloc (.cells #[.int .i64 0, .int .i64 0, .slice none 0 0, .slice none 0 0, .slice none 0 0, .slice none 0 0] 27))) := Lib.hid ((Ok.refl W).alloc _)
  have HN := Lib.hid h
  clear h
  go_enter Try.func23, Try.ntmps23
  go_wp2_with fail
  obtain ⟨z, hz⟩ : ∃ z, z = W.heap.size := ⟨_, rfl⟩
  have HS := Lib.hid hz
  rw [← hz] at HZ ⊢
  clear hz
  generalize (W.alloc (.cells #[.int .i64 0, .int .i64 0, .slice none 0 0, .slice none 0 0, .slice none 0 0, .slice none 0 0] 27)) = w0 at *
  refine (nil_none v w0 (HN.out.ok HO.out)).mono ?_
  rintro _ w1 ⟨rfl, o1⟩
  have HZ2 := Lib.hid (HZ.out.ok o1)
  have HO2 : Hid (Ok W w1) := Lib.hid (HO.out.trans o1)
  clear o1 HZ HO
  have z0 := HZ2.out.c0
  have z1 := HZ2.out.c1
  have z2 := HZ2.out.c2
  have z3 := HZ2.out.c3
  have z4 := HZ2.out.c4
  have z5 := HZ2.out.c5
  have f0 := HZ2.out.f 0
  have f1 := HZ2.out.f 1
  have f2 := HZ2.out.f 2
  have f3 := HZ2.out.f 3
  have f4 := HZ2.out.f 4
  have f5 := HZ2.out.f 5
  go_wp2_with fail
  refine bodyPost_ret (v := .agg #[.int .i64 0, .int .i64 0, .slice none 0 0, .slice none 0 0, .slice none 0 0, .slice none 0 0]) (by simp [results, Try.results23, go_sem, z0, z1, z2, z3, z4, z5]; try rfl) rfl ?_
  clear z0 z1 z2 z3 z4 z5 f0 f1 f2 f3 f4 f5
  refine ⟨rfl, ?_⟩
  have hg : W.heap.size ≤ z := Nat.le_of_eq HS.out.symm
  show Below W.heap.size W _
  repeat refine Below.setCell ?_ hg _
  exact HO2.out
end Go.Proofs.Ytebhcadolnjplaa
