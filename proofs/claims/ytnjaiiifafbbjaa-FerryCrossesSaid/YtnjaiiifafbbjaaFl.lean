/- A piece that is asked for and filled; the example. -/
import Derived.Test.YtnjaiiifafbbjaaFj
import Derived.Test.YtnjaiiifafbbjaaFk
import Derived.Test.YtnjaiiifafbbjaaPj
namespace Go.Proofs.Ytnjaiiifafbbjaa
open Go.RowKit

theorem Ok.frz {w w' : World} {b k : Nat} (h : Ok w w') (hf : w.frozen? ⟨b, k, none⟩ = false) (hb : b < w.heap.size) : w'.frozen? ⟨b, k, none⟩ = false := by
  rw [Below.frozen h (p := ⟨b, k, none⟩) hb]; exact hf
theorem fill_z (i t z : Int) (s : S4) (cf : Cfg) (A : Option Addr) (n c a : Nat) (bs : List B8) (W : World) (hz : z = (a : Int)) (h : CfgAt W s cf) (hb : BytesIn W (.slice A n c) bs) (ha : a ≤ bs.length) (hl : bs.length ≤ 100000)
    (l0 : cf.vs.length ≤ 1000) (l1 : cf.os.length ≤ 1000) (l2 : cf.ls.length ≤ 1000) (l3 : cf.ws.length ≤ 1000) :
    Calls Try.prog 38 #[.agg #[.int .u8 5, .int .i64 0, .int .i64 1, .int .i64 2, .int .i64 4, .int .i64 0, .int .i64 0, .int .i64 0, .bool false, .slice none 0 0, .int .i64 i, .int .i64 t, .slice s.A0 s.n0 s.c0, .slice s.A1 s.n1 s.c1, .slice s.A2 s.n2 s.c2, .slice s.A3 s.n3 s.c3, .int .i64 0, .int .i64 z, .int .i64 0, .slice none 0 0], .agg #[.int .i64 i, .int .i64 t, .slice s.A0 s.n0 s.c0, .slice s.A1 s.n1 s.c1, .slice s.A2 s.n2 s.c2, .slice s.A3 s.n3 s.c3, .slice A n c]] W (FillP W i t cf a bs) := by
  subst hz
  exact fill_f i t s cf A n c a bs W h hb ha hl l0 l1 l2 l3
/-- A piece that was filled, in its variable. -/
def PcR (W : World) (i t : Int) (cf : Cfg) (a L : Nat) (ps : List B8) (x ok : Value) (w : World) : Prop :=
  ∃ (bx : Nat) (s' : S4) (B' : Option Addr) (d' : Nat), x = .pointer (some ⟨bx, 0, none⟩) ∧ ok = .bool true ∧ w.rangeAt bx 0 [.int .u8 5, .int .i64 0, .int .i64 1, .int .i64 2, .int .i64 4, .int .i64 0, .int .i64 0, .int .i64 0, .bool false, .slice none 0 0, .int .i64 i, .int .i64 t, .slice s'.A0 s'.n0 s'.c0, .slice s'.A1 s'.n1 s'.c1, .slice s'.A2 s'.n2 s'.c2, .slice s'.A3 s'.n3 s'.c3, .int .i64 (L : Int), .int .i64 (a : Int), .int .i64 0, .slice B' ps.length d'] ∧ (∀ k, w.frozen? ⟨bx, k, none⟩ = false) ∧ CfgOwn w W.heap.size s' cf ∧ OwnN w W.heap.size (.slice B' ps.length d') ps ∧
    W.heap.size ≤ bx ∧ bx < w.heap.size ∧ Ok W w ∧ ∀ v, CfgOwn (w.setCell ⟨bx, 4, none⟩ v) W.heap.size s' cf ∧ OwnN (w.setCell ⟨bx, 4, none⟩ v) W.heap.size (.slice B' ps.length d') ps
theorem pick_z (x z : Int) (n : Nat) (w : World) (hz : z = (n : Int)) (hn : 0 < n) (hn6 : n ≤ 1000000) : Calls Try.prog 33 #[.int .i64 x, .int .i64 z] w fun e w' => (∃ k : Nat, k < n ∧ e = .returned (.int .i64 (k : Int))) ∧ w = w' := by
  subst hz
  exact pick_w x n hn hn6 w
theorem laid_take (bs : List B8) (k a : Nat) (ha : a ≤ k) (hk : k ≤ bs.length) : laid (bs.take k) ((bs.drop a).take 600) a = bs.take (max k (min (a + 600) bs.length)) := by
  have e1 : (bs.take k).length = k := by rw [List.length_take]; omega
  have e2 : ((bs.drop a).take 600).length = min 600 (bs.length - a) := by rw [List.length_take, List.length_drop]
  unfold laid
  rw [e1, e2]
  by_cases h : k - a < min 600 (bs.length - a)
  · rw [if_pos h, show max k (min (a + 600) bs.length) = k + (min (a + 600) bs.length - k) from by omega, List.take_add, List.drop_take, List.drop_drop, show a + (k - a) = k from by omega]
    congr 1
    rw [List.take_eq_take_iff, List.length_drop]
    omega
  · rw [if_neg h, show max k (min (a + 600) bs.length) = k from by omega]

/-- Four rows that are none. -/
theorem cfg_nil (w : World) : CfgAt w ⟨none, 0, 0, none, 0, 0, none, 0, 0, none, 0, 0⟩ ⟨[], [], [], []⟩ := ⟨InI.nil _, InI.nil _, InI.nil _, InI.nil _⟩
end Go.Proofs.Ytnjaiiifafbbjaa
