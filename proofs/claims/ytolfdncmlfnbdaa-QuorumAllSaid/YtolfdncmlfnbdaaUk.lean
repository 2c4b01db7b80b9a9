/- The program's nodes of a configuration. -/
import Derived.Test.YtolfdncmlfnbdaaUj
namespace Go.Proofs.Ytolfdncmlfnbdaa
open Go.RowKit Go.Sort

set_option maxRecDepth 100000 in
set_option maxHeartbeats 1000000 in
theorem nodes_w (v : Value) (c : Cfg) (W : World) (h : CfgIn W v c) (hs : Short c) :
    Calls Try.prog 56 #[v] W (NodesP W c) := by
  obtain ⟨A0, c0, A1, c1, A2, c2, A3, c3, rfl, h1, h2, h3, h4⟩ := h.forms
  have H1 := Lib.hid h1
  have H2 := Lib.hid h2
  have H3 := Lib.hid h3
  obtain ⟨s0, s1, s2, _⟩ := hs
  clear h h1 h2 h3 h4
  have HAT0 := Lib.hid (At.new W (.slice A0 c.vs.length c0) (.slice A1 c.os.length c1) (.slice A2 c.ls.length c2) (.slice A3 c.ws.length c3) 71)
  have HOK0 : Hid (Ok W (W.alloc (.cells #[.slice A0 c.vs.length c0, .slice A1 c.os.length c1, .slice A2 c.ls.length c2, .slice A3 c.ws.length c3] 71))) := Lib.hid ((Ok.refl W).alloc _)
  have HZ : Hid ((W.alloc (.cells #[.slice A0 c.vs.length c0, .slice A1 c.os.length c1, .slice A2 c.ls.length c2, .slice A3 c.ws.length c3] 71)).heap.size = W.heap.size + 1) := Lib.hid (World.size_alloc _ _)
  have HND := Lib.hid (nodes_of c)
  have HSL := Lib.hid (sortI_len (c.vs ++ (c.os ++ c.ls)))
  have HCL := Lib.hid (Lib.compact_length_le (sortI (c.vs ++ (c.os ++ c.ls))))
  have HLL : Hid ((c.vs ++ (c.os ++ c.ls)).length ≤ 3000) := Lib.hid (by simp; omega)
  generalize hn0 : c.vs.length = n0 at *
  generalize hn1 : c.os.length = n1 at *
  generalize hn2 : c.ls.length = n2 at *
  generalize c.ws.length = n3 at *
  have HN0 := Lib.hid hn0
  have HN1 := Lib.hid hn1
  have HN2 := Lib.hid hn2
  clear hn0 hn1 hn2
  go_enter Try.func56, Try.ntmps56
  obtain ⟨hc0, hc1, hc2, hc3⟩ := HAT0.out
  go_wp2_with fail
  clear hc0 hc1 hc2 hc3
  generalize (W.alloc (.cells #[.slice A0 n0 c0, .slice A1 n1 c1, .slice A2 n2 c2, .slice A3 n3 c3] 71)) = W1 at *
  have HOK1 : Hid (Ok W (W1.alloc (.cells #[.slice A0 n0 c0, .slice A1 n1 c1, .slice A2 n2 c2] 22))) := Lib.hid (HOK0.out.alloc _)
  refine (concatI_w (W.heap.size + 1) A0 A1 A2 n0 n1 n2 c0 c1 c2 c.vs c.os c.ls HN0.out HN1.out HN2.out s0 s1 s2 _ (by rw [← HZ.out]; exact box_cell _ _ _ _ _ rfl) (by rw [← HZ.out]; exact box_cell _ _ _ _ _ rfl) (by rw [← HZ.out]; exact box_cell _ _ _ _ _ rfl) (HOK1.out.ints H1.out) (HOK1.out.ints H2.out) (HOK1.out.ints H3.out)).mono ?_
  rintro e w1 ⟨A, cc, rfl, hown, hok⟩
  generalize (W1.alloc (.cells #[.slice A0 n0 c0, .slice A1 n1 c1, .slice A2 n2 c2] 22)) = W2 at *
  generalize c.vs ++ (c.os ++ c.ls) = L at *
  have HS2 := Lib.hid (sortI_w A L.length cc L W2.heap.size w1 (by have := HLL.out; omega) hown)
  have HK1 := Lib.hid hok
  clear hown hok
  go_wp2_with fail
  refine HS2.out.mono ?_
  rintro e w2 ⟨rfl, hown, hbel⟩
  have HS3 := Lib.hid (compactI_w A L.length cc (sortI L) W2.heap.size w2 (by rw [HSL.out]; have := HLL.out; omega) hown)
  have HB2 : Hid (Below W2.heap.size W2 w2) := Lib.hid (Below.trans HK1.out hbel)
  clear hown hbel HS2
  go_wp2_with fail
  refine HS3.out.mono ?_
  rintro e w3 ⟨rfl, hown, hbel⟩
  have HFIN : Hid (NodesP W c (.returned (.slice A (Lib.compact (sortI L)).length cc)) w3) := Lib.hid ⟨A, cc, _, rfl, hown.ints (by have := HCL.out; rw [HSL.out] at this; have := HLL.out; omega), HND.out, HOK1.out.trans (Below.trans HB2.out hbel)⟩
  clear hown hbel HS3
  go_wp2_with fail
  go_ret
  exact HFIN.out
end Go.Proofs.Ytolfdncmlfnbdaa
