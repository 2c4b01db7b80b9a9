/- Install of nil; how a drawn region that changes nothing is walked. -/
import Derived.Test.YtebhcadolnjplaaHb
import Derived.Lib.QuietBelow
import Derived.BigQuiet
namespace Go.Proofs.Ytebhcadolnjplaa
open Go.RowKit

structure HeldU (p : Prop) : Prop where
  out : p
theorem hqU_step {P : Program} {ops : Array Oper} {C : World → Prop} {Q : Act → Prop} {a : Act} {o : Oper} {rest : List Oper}
    (h : ∀ K : Act → Prop, (∀ a, HeldU (wpQuiet P ops C Q rest a) → K a) → if Region.wanted o (yielded ops a.tmps) then o.quiet P a C K else K (a.put o.dst undef)) : HeldU (wpQuiet P ops C Q (o :: rest) a) :=
  ⟨h (fun a => wpQuiet P ops C Q rest a) (fun _ h => h.out)⟩
theorem Rg {f : FuncId} {args : Array Value} {w : World} {d : Nat} {os : Array Obj} {v : Value} (h : Calls Try.prog f args (Go.Sort.grow (redrawn w d) os) (Ret (Go.Sort.grow (redrawn w d) os) v)) :
    Calls Try.prog f args (Go.Sort.grow (redrawn w d) os) fun e w'' => e = .returned v ∧ ∃ q : Regrown, w'' = Go.Sort.grow (redrawn w q.d) q.os := Calls.regrown_of h
set_option maxRecDepth 100000 in
theorem nil_20 (v : Value) (i t : Int) (s : S4) (W : World) (h : NoLog v W) : Calls Try.prog 20 #[v, .agg #[.int .i64 i, .int .i64 t, .slice s.A0 s.n0 s.c0, .slice s.A1 s.n1 s.c1, .slice s.A2 s.n2 s.c2, .slice s.A3 s.n3 s.c3]] W (Ret W (.bool false)) := by
  have HO : Hid (Ok W (W.alloc (.cells #[.int .i64 i, .int .i64 t, .slice s.A0 s.n0 s.c0, .slice s.A1 s.n1 s.c1, .slice s.A2 s.n2 s.c2, .slice s.A3 s.n3 s.c3] 27))) := Lib.hid ((Ok.refl W).alloc _)
  have HN := Lib.hid h
  clear h
  go_enter Try.func20, Try.ntmps20
  go_upto_region 1 with fail
  generalize (W.alloc (.cells #[.int .i64 i, .int .i64 t, .slice s.A0 s.n0 s.c0, .slice s.A1 s.n1 s.c1, .slice s.A2 s.n2 s.c2, .slice s.A3 s.n3 s.c3] 27)) = w0 at *
  have q55 : ∀ d os, Calls Try.prog 55 #[v] (Go.Sort.grow (redrawn w0 d) os) fun e w'' => e = .returned (.bool true) ∧ ∃ q : Regrown, w'' = Go.Sort.grow (redrawn w0 q.d) q.os := fun d os => Rg (nil_none v _ (HN.out.ok (Ok.trans HO.out (below_regrown w0 d os))))
  refine wp_region_quiet_below (by kernel_rfl) (by kernel_rfl) ?_
  refine HeldU.out ?_
  repeat (
    refine hqU_step (fun K hK => ?_)
    go_simp
    first
      | (refine hK _ ?_; clear hK K)
      | (apply Exists.intro
         refine ⟨fun _ => ?_, hK _ ?_⟩
         (with_reducible first
           | exact q55 _ _)
         clear hK K))
  refine HeldU.mk (wpQuiet_nil ?_)
  intro _ hw'
  obtain ⟨⟨dq, osq⟩, hw''⟩ := hw'
  subst hw''
  have HO1 := Lib.hid (Ok.trans HO.out (below_regrown w0 dq osq))
  clear q55
  generalize Go.Sort.grow (redrawn w0 dq) osq = w1 at *
  go_wp2_with fail
  go_ret
  exact ⟨rfl, HO1.out⟩
end Go.Proofs.Ytebhcadolnjplaa
