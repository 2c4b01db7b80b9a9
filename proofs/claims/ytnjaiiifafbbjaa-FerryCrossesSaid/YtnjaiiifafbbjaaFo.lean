/- The ferry's example: what it takes where the piece lies before the ferry. -/
import Derived.Test.YtnjaiiifafbbjaaFm
namespace Go.Proofs.Ytnjaiiifafbbjaa
open Go.RowKit

/-- .. where the piece lies before the ferry. -/
theorem take_in (W1 wr w : World) (p : Nat) (hp : W1.heap.size = p) (tm i t : Int) (s : S4) (cf : Cfg) (L was a m d : Nat) (B : Option Addr) (bs ps : List B8) (hL : L = bs.length) (hps : (bs.drop a).take 600 = ps) (hm : m = ps.length) (h1 : L ≤ 4000) (haw : a ≤ was) (hwL : was ≤ L)
    (htm : tm = 4 ∨ (tm = 9 ∧ 0 < a)) (hok : Ok W1 wr) (hfs : FS p i t L bs was wr) (hox : Ok wr w) (hx : ∀ w', Ok W1 w' → CfgAt w' s cf ∧ BytesIn w' (.slice B m d) ps)
    (l0 : cf.vs.length ≤ 1000) (l1 : cf.os.length ≤ 1000) (l2 : cf.ls.length ≤ 1000) (l3 : cf.ws.length ≤ 1000) :
    Calls Try.prog 40 #[.pointer (some ⟨p, 0, none⟩), .agg #[.int .u8 5, .int .i64 0, .int .i64 1, .int .i64 2, .int .i64 tm, .int .i64 0, .int .i64 0, .int .i64 0, .bool false, .slice none 0 0, .int .i64 i, .int .i64 t, .slice s.A0 s.n0 s.c0, .slice s.A1 s.n1 s.c1, .slice s.A2 s.n2 s.c2, .slice s.A3 s.n3 s.c3, .int .i64 (L : Int), .int .i64 (a : Int), .int .i64 0, .slice B m d]] w (TakenP W1 wr p i t L bs cf tm was a w) := by
  have e600 : ps.length = min 600 (L - a) := by rw [← hps, List.length_take, List.length_drop, hL]
  have h3 : m ≤ L - a := by omega
  have hz : ∀ (tm0 i0 t0 z0 : Int) (u0 : Bool) (A : Option Addr) (n c : Nat) (xs : List B8) (_ : FAt p tm0 i0 t0 z0 u0 A n c xs wr) (w' : World), Fr p A n c w w' → CfgAt w' s cf ∧ BytesIn w' (.slice B m d) ps :=
    fun _ _ _ _ _ _ _ _ _ hf w' k => hx w' (Below.trans (hok.trans hox) (k.below (hf.ok hox) (Nat.le_of_eq hp)))
  rcases hfs with ⟨hw0, hf⟩ | ⟨hwl, A, c, hf⟩
  · have ha0 : a = 0 := by omega
    have htm4 : tm = 4 := by rcases htm with h | ⟨_, h⟩; exact h; omega
    subst htm4
    refine (take_begin p 4 i t s cf L a m d B none 0 0 [] ps w (hf.ok hox) ⟨rfl, rfl, rfl, rfl⟩ ha0 hm (by omega) (by omega) h3 (by omega) (by omega) (hz _ _ _ _ _ _ _ _ _ hf) l0 l1 l2 l3).mono ?_
    intro e w' h
    have hl := laid_take bs 0 a (by omega) (by omega)
    rw [hps, List.take_zero, ← hL] at hl
    rw [hl, show 0 = was from hw0.symm] at h
    subst hw0
    exact yes_taken W1 wr w w' p hp i t cf L _ a bs hL hwL hok hox _ _ _ _ _ _ _ _ _ hf e h
  · rcases htm with rfl | ⟨rfl, ha⟩
    · refine (take_same p 4 i t s cf L a m d B A was c (bs.take was) ps w (hf.ok hox) hm (by omega) (by omega) h3 haw hwL (hz _ _ _ _ _ _ _ _ _ hf) l0 l1 l2 l3).mono ?_
      intro e w' h
      have hl := laid_take bs was a haw (by omega)
      rw [hps, ← hL] at hl
      rw [hl] at h
      exact yes_taken W1 wr w w' p hp i t cf L was a bs hL hwL hok hox _ _ _ _ _ _ _ _ _ hf e h
    · refine (take_no p 9 i t s L a m d B A was c (bs.take was) w (hf.ok hox) rfl ha (by omega) (by omega) h3).mono ?_
      rintro e w' ⟨he, hf', k⟩
      exact ⟨0, false, 0, 0, ⟨none, 0, 0, none, 0, 0, none, 0, 0, none, 0, 0⟩, none, 0, 0, was, he, ⟨(hok.trans hox).trans k, k.size, fun b _ hs => k.block b hs⟩, .inr ⟨hwl, A, c, hf', fun j h1 _ e' => by have := (hf.ownGe j e').2; omega⟩, .inl ⟨rfl, by omega, hwL, .inr ⟨rfl, rfl⟩⟩⟩
/-- .. where the piece lies before the ferry. -/
theorem taken_new2 (W1 wr w w' : World) (p : Nat) (i t : Int) (L : Nat) (bs : List B8) (cf : Cfg) (tm : Int) (was a bx bz : Nat) (hbz : w'.heap.size = bz) (xs : List Value) (now : Nat) (wh : Bool) (i' t' : Int) (s' : S4) (A' : Option Addr) (n' c' nw : Nat) (hLb : bs.length ≤ 100000)
    (l0 : cf.vs.length ≤ 1000) (l1 : cf.os.length ≤ 1000) (l2 : cf.ls.length ≤ 1000) (l3 : cf.ws.length ≤ 1000) (hxr : ∀ w', Ok W1 w' → w'.rangeAt bx 0 xs)
    (h0 : Ok W1 w' ∧ w.heap.size ≤ w'.heap.size ∧ Keep wr.heap.size w w') (hf : FSo p i t L bs nw wr.heap.size w.heap.size w')
    (h : (wh = false ∧ now ≤ L ∧ nw ≤ L ∧ ((tm = 4 ∧ now = nw ∧ was ≤ nw ∧ nw = max was (min (a + 600) L) ∧ nw ≠ L) ∨ (tm = 9 ∧ nw = was))) ∨
     (wh = true ∧ now = L ∧ i' = i ∧ t' = t ∧ n' = L ∧ nw = 0 ∧ CfgOwn w' w.heap.size s' cf ∧ OwnN w' w.heap.size (.slice A' n' c') bs ∧ max was (min (a + 600) L) = L ∧ tm = 4)) :
    TakR W1 p i t L bs cf tm was a bx xs (.int .i64 (now : Int)) (.bool wh) (.pointer (some ⟨bz, 0, none⟩)) ((w'.alloc (.cells #[.int .i64 0, .int .i64 0, .slice none 0 0, .slice none 0 0, .slice none 0 0, .slice none 0 0, .slice none 0 0] 75)).setCells bz 0 [.int .i64 i', .int .i64 t', .slice s'.A0 s'.n0 s'.c0, .slice s'.A1 s'.n1 s'.c1, .slice s'.A2 s'.n2 s'.c2, .slice s'.A3 s'.n3 s'.c3, .slice A' n' c']) := by
  subst hbz
  have hok : Ok w' ((w'.alloc (.cells #[.int .i64 0, .int .i64 0, .slice none 0 0, .slice none 0 0, .slice none 0 0, .slice none 0 0, .slice none 0 0] 75)).setCells w'.heap.size 0 [.int .i64 i', .int .i64 t', .slice s'.A0 s'.n0 s'.c0, .slice s'.A1 s'.n1 s'.c1, .slice s'.A2 s'.n2 s'.c2, .slice s'.A3 s'.n3 s'.c3, .slice A' n' c']) := Ok.sets (Nat.le_refl _) _ _ _ ((Ok.refl w').alloc _)
  exact taken_r W1 wr w w' _ p i t L bs cf tm was a bx _ xs now wh i' t' s' A' n' c' nw hLb l0 l1 l2 l3 h (h0.1.trans hok) (hxr _ (h0.1.trans hok))
    (World.rangeAt_setCells_same _ _ 0 _ (there_new w' #[.int .i64 0, .int .i64 0, .slice none 0 0, .slice none 0 0, .slice none 0 0, .slice none 0 0, .slice none 0 0] 75)) (hf.fs.ok hok) (fun k => k.ok hok) (fun k => k.okk hok)
end Go.Proofs.Ytnjaiiifafbbjaa
