/- What the ferry takes, whatever it has. -/
import Derived.Test.YtnjaiiifafbbjaaFl
namespace Go.Proofs.Ytnjaiiifafbbjaa
open Go.RowKit

/-- Where the ferry stands: it has no crossing, or so many bytes of this one. -/
def FS (p : Nat) (i t : Int) (L : Nat) (bs : List B8) (was : Nat) (w : World) : Prop :=
  (was = 0 ∧ FAt p 0 0 0 0 false none 0 0 [] w) ∨ (was < L ∧ ∃ A c, FAt p 4 i t (L : Int) true A was c (bs.take was) w)
/-- .. and its bytes lie in none of these blocks. -/
def FSo (p : Nat) (i t : Int) (L : Nat) (bs : List B8) (was lo hi : Nat) (w : World) : Prop :=
  (was = 0 ∧ FAt p 0 0 0 0 false none 0 0 [] w) ∨ (was < L ∧ ∃ A c, FAt p 4 i t (L : Int) true A was c (bs.take was) w ∧ ∀ j, lo ≤ j → j < hi → (Value.slice A was c).ownBlock ≠ some j)
theorem FSo.fs {p : Nat} {i t : Int} {L lo hi : Nat} {bs : List B8} {was : Nat} {w : World} (h : FSo p i t L bs was lo hi w) : FS p i t L bs was w := by
  rcases h with h | ⟨e, A, c, h, _⟩
  · exact .inl h
  · exact .inr ⟨e, A, c, h⟩
theorem FS.ok {p : Nat} {i t : Int} {L : Nat} {bs : List B8} {was : Nat} {w w' : World} (h : FS p i t L bs was w) (k : Ok w w') : FS p i t L bs was w' := by
  rcases h with ⟨e, h⟩ | ⟨e, A, c, h⟩
  · exact .inl ⟨e, h.ok k⟩
  · exact .inr ⟨e, A, c, h.ok k⟩
theorem FS.lt {p : Nat} {i t : Int} {L : Nat} {bs : List B8} {was : Nat} {w : World} (h : FS p i t L bs was w) : p < w.heap.size := by
  rcases h with ⟨_, h⟩ | ⟨_, A, c, h⟩
  · exact h.lt
  · exact h.lt
theorem FS.any {p : Nat} {i t : Int} {L : Nat} {bs : List B8} {was : Nat} {w : World} (h : FS p i t L bs was w) : ∃ tm0 i0 t0 z0 u0 A0 n0 c0 xs0, FAt p tm0 i0 t0 z0 u0 A0 n0 c0 xs0 w := by
  rcases h with ⟨_, h⟩ | ⟨_, A, c, h⟩
  · exact ⟨_, _, _, _, _, _, _, _, _, h⟩
  · exact ⟨_, _, _, _, _, _, _, _, _, h⟩
theorem FAt.fars {p : Nat} {tm i t sz : Int} {u : Bool} {A : Option Addr} {n c : Nat} {xs : List B8} {q : Nat} (hq : q ≠ p) (ho : (Value.slice A n c).ownBlock ≠ some q) : ∀ (vs : List Value) (o : Nat) (w : World), FAt p tm i t sz u A n c xs w → FAt p tm i t sz u A n c xs (w.setCells q o vs)
  | [], _, _, h => h
  | v :: r, o, _, h => FAt.fars hq ho r (o + 1) _ (h.far q o v hq ho)
theorem FSo.fars {p : Nat} {i t : Int} {L lo hi : Nat} {bs : List B8} {was : Nat} {w : World} (h : FSo p i t L bs was lo hi w) (q : Nat) (hq : q ≠ p) (h1 : lo ≤ q) (h2 : q < hi) (vs : List Value) : FS p i t L bs was (w.setCells q 0 vs) := by
  rcases h with ⟨e, h⟩ | ⟨e, A, c, h, ho⟩
  · exact .inl ⟨e, h.fars hq (fun e => by cases e) vs 0 _⟩
  · exact .inr ⟨e, A, c, h.fars hq (ho q h1 h2) vs 0 _⟩
/-- These blocks are as they were. -/
def Keep (lo : Nat) (w w' : World) : Prop := ∀ k, lo ≤ k → k < w.heap.size → w'.heap[k]? = w.heap[k]?
theorem Keep.range {lo b : Nat} {w w' : World} {cs : List Value} (h : Keep lo w w') (r : w.rangeAt b 0 cs) (hb : lo ≤ b) : w'.rangeAt b 0 cs := fun j v hv => by
  have hc := r j v hv
  rw [World.cell?_of_block (w := w) (h b hb (World.block_lt_of_cell? _ _ hc))]; exact hc
theorem Keep.there {lo b n : Nat} {w w' : World} (h : Keep lo w w') (r : w.there b 0 n) (hb : lo ≤ b) : w'.there b 0 n := fun j hj => by
  obtain ⟨h1, h2⟩ := r j hj
  obtain ⟨u, hu⟩ := Option.isSome_iff_exists.1 h1
  have hk := h b hb (World.block_lt_of_cell? _ _ hu)
  exact ⟨by rw [World.cell?_of_block (w := w) hk, hu]; rfl, by rw [World.frozen?_of_block (w := w) hk]; exact h2⟩
def TakenP (W1 wr : World) (p : Nat) (i t : Int) (L : Nat) (bs : List B8) (cf : Cfg) (tm : Int) (was a : Nat) (w : World) (e : Ending) (w' : World) : Prop :=
  ∃ (now : Nat) (wh : Bool) (i' t' : Int) (s' : S4) (A' : Option Addr) (n' c' nw : Nat),
    e = .returned (.tuple #[.int .i64 (now : Int), .bool wh, .agg #[.int .i64 i', .int .i64 t', .slice s'.A0 s'.n0 s'.c0, .slice s'.A1 s'.n1 s'.c1, .slice s'.A2 s'.n2 s'.c2, .slice s'.A3 s'.n3 s'.c3, .slice A' n' c']]) ∧
    (Ok W1 w' ∧ w.heap.size ≤ w'.heap.size ∧ Keep wr.heap.size w w') ∧ FSo p i t L bs nw wr.heap.size w.heap.size w' ∧
    ((wh = false ∧ now ≤ L ∧ nw ≤ L ∧ ((tm = 4 ∧ now = nw ∧ was ≤ nw ∧ nw = max was (min (a + 600) L) ∧ nw ≠ L) ∨ (tm = 9 ∧ nw = was))) ∨
     (wh = true ∧ now = L ∧ i' = i ∧ t' = t ∧ n' = L ∧ nw = 0 ∧ CfgOwn w' w.heap.size s' cf ∧ OwnN w' w.heap.size (.slice A' n' c') bs ∧ max was (min (a + 600) L) = L ∧ tm = 4))
theorem yes_taken (W1 wr w w' : World) (p : Nat) (hp : W1.heap.size = p) (i t : Int) (cf : Cfg) (L was a : Nat) (bs : List B8) (hL : L = bs.length) (hwL : was ≤ L)
    (hok : Ok W1 wr) (hox : Ok wr w) (tm0 i0 t0 z0 : Int) (u0 : Bool) (A : Option Addr) (n c : Nat) (xs : List B8) (hfr : FAt p tm0 i0 t0 z0 u0 A n c xs wr) (e : Ending) (h : TakeYes p 4 i t L cf A n c w (bs.take (max was (min (a + 600) L))) e w') :
    TakenP W1 wr p i t L bs cf 4 was a w e w' := by
  have hlen : (bs.take (max was (min (a + 600) L))).length = max was (min (a + 600) L) := by rw [List.length_take]; omega
  have hfw := hfr.ok hox
  have frame : ∀ (k : Fr p A n c w w'), Ok W1 w' ∧ w.heap.size ≤ w'.heap.size ∧ Keep wr.heap.size w w' := by
    intro k
    refine ⟨Below.trans (hok.trans hox) (k.below hfw (Nat.le_of_eq hp)), k.size, fun b hb hs => k.block b hs ?_ ?_⟩
    · have := hfr.lt; omega
    · intro e'; have := (hfr.ownGe b e').2; omega
  rcases h with ⟨hne, he, ⟨A', c', hf, hown⟩, hk⟩ | ⟨heq, ⟨s', A', c', he, hc, hb⟩, hf, hk⟩
  · rw [hlen] at he hne hf hown
    exact ⟨_, false, 0, 0, ⟨none, 0, 0, none, 0, 0, none, 0, 0, none, 0, 0⟩, none, 0, 0, _, he, frame hk, .inr ⟨by omega, A', c', hf, fun j h1 h2 e' => by have := (hfr.ownGe j (hown j h2 e')).2; omega⟩, .inl ⟨rfl, by omega, by omega, .inl ⟨rfl, rfl, by omega, rfl, hne⟩⟩⟩
  · have hfull : bs.take (max was (min (a + 600) L)) = bs := List.take_of_length_le (by rw [← hL]; rw [hlen] at heq; omega)
    rw [hfull, ← hL] at he hb
    exact ⟨_, true, i, t, s', A', L, c', 0, he, frame hk, .inl ⟨rfl, hf⟩, .inr ⟨rfl, rfl, rfl, rfl, rfl, rfl, hc, hb, by rw [hlen] at heq; exact heq, rfl⟩⟩
theorem take_any (W1 wr w : World) (p : Nat) (hp : W1.heap.size = p) (tm i t : Int) (s : S4) (cf : Cfg) (L was a m d : Nat) (B : Option Addr) (bs ps : List B8) (hL : L = bs.length) (hps : (bs.drop a).take 600 = ps) (hm : m = ps.length) (h1 : L ≤ 4000) (haw : a ≤ was) (hwL : was ≤ L)
    (htm : tm = 4 ∨ (tm = 9 ∧ 0 < a)) (hok : Ok W1 wr) (hfs : FS p i t L bs was wr) (hox : Ok wr w) (hc : CfgOwn w wr.heap.size s cf) (hn : OwnN w wr.heap.size (.slice B m d) ps)
    (l0 : cf.vs.length ≤ 1000) (l1 : cf.os.length ≤ 1000) (l2 : cf.ls.length ≤ 1000) (l3 : cf.ws.length ≤ 1000) :
    Calls Try.prog 40 #[.pointer (some ⟨p, 0, none⟩), .agg #[.int .u8 5, .int .i64 0, .int .i64 1, .int .i64 2, .int .i64 tm, .int .i64 0, .int .i64 0, .int .i64 0, .bool false, .slice none 0 0, .int .i64 i, .int .i64 t, .slice s.A0 s.n0 s.c0, .slice s.A1 s.n1 s.c1, .slice s.A2 s.n2 s.c2, .slice s.A3 s.n3 s.c3, .int .i64 (L : Int), .int .i64 (a : Int), .int .i64 0, .slice B m d]] w (TakenP W1 wr p i t L bs cf tm was a w) := by
  have e600 : ps.length = min 600 (L - a) := by rw [← hps, List.length_take, List.length_drop, hL]
  have h3 : m ≤ L - a := by omega
  have hz : ∀ (tm0 i0 t0 z0 : Int) (u0 : Bool) (A : Option Addr) (n c : Nat) (xs : List B8) (_ : FAt p tm0 i0 t0 z0 u0 A n c xs wr) (w' : World), Fr p A n c w w' → CfgAt w' s cf ∧ BytesIn w' (.slice B m d) ps :=
    fun _ _ _ _ _ _ _ _ _ hf w' k => ⟨(hc.fr k hf.lt (fun j e => (hf.ownGe j e).2)).at l0 l1 l2 l3, (hn.fr k hf.lt (fun j e => (hf.ownGe j e).2)).bytes (by omega)⟩
  rcases hfs with ⟨hw0, hf⟩ | ⟨hwl, A, c, hf⟩
  · have ha0 : a = 0 := by omega
    have htm4 : tm = 4 := by rcases htm with h | ⟨_, h⟩; exact h; omega
    subst htm4
    refine (take_begin p 4 i t s cf L a m d B none 0 0 [] ps w (hf.ok hox) ⟨rfl, rfl, rfl, rfl⟩ ha0 hm (by omega) (by omega) h3 (by omega) (by omega) (hz _ _ _ _ _ _ _ _ _ hf) l0 l1 l2 l3).mono ?_
    intro e w' h
    have hl := laid_take bs 0 a (by omega) (by omega)
    rw [hps, List.take_zero, ← hL] at hl
    rw [hl, show 0 = was from hw0.symm] at h
    subst hw0
    exact yes_taken W1 wr w w' p hp i t cf L _ a bs hL hwL hok hox _ _ _ _ _ _ _ _ _ hf e h
  · rcases htm with rfl | ⟨rfl, ha⟩
    · refine (take_same p 4 i t s cf L a m d B A was c (bs.take was) ps w (hf.ok hox) hm (by omega) (by omega) h3 haw hwL (hz _ _ _ _ _ _ _ _ _ hf) l0 l1 l2 l3).mono ?_
      intro e w' h
      have hl := laid_take bs was a haw (by omega)
      rw [hps, ← hL] at hl
      rw [hl] at h
      exact yes_taken W1 wr w w' p hp i t cf L was a bs hL hwL hok hox _ _ _ _ _ _ _ _ _ hf e h
    · refine (take_no p 9 i t s L a m d B A was c (bs.take was) w (hf.ok hox) rfl ha (by omega) (by omega) h3).mono ?_
      rintro e w' ⟨he, hf', k⟩
      exact ⟨0, false, 0, 0, ⟨none, 0, 0, none, 0, 0, none, 0, 0, none, 0, 0⟩, none, 0, 0, was, he, ⟨(hok.trans hox).trans k, k.size, fun b _ hs => k.block b hs⟩, .inr ⟨hwl, A, c, hf', fun j h1 _ e' => by have := (hf.ownGe j e').2; omega⟩, .inl ⟨rfl, by omega, hwL, .inr ⟨rfl, rfl⟩⟩⟩
/-- What was taken, in its variables. -/
def TakR (W1 : World) (p : Nat) (i t : Int) (L : Nat) (bs : List B8) (cf : Cfg) (tm : Int) (was a bx : Nat) (xs : List Value) (v1 v2 v3 : Value) (w : World) : Prop :=
  ∃ (now : Nat) (wh : Bool) (bz : Nat) (i' t' : Int) (s' : S4) (A' : Option Addr) (n' c' nw : Nat), v1 = .int .i64 (now : Int) ∧ v2 = .bool wh ∧ v3 = .pointer (some ⟨bz, 0, none⟩) ∧
    Ok W1 w ∧ w.rangeAt bx 0 xs ∧ w.rangeAt bz 0 [.int .i64 i', .int .i64 t', .slice s'.A0 s'.n0 s'.c0, .slice s'.A1 s'.n1 s'.c1, .slice s'.A2 s'.n2 s'.c2, .slice s'.A3 s'.n3 s'.c3, .slice A' n' c'] ∧ FS p i t L bs nw w ∧
    ((wh = false ∧ now ≤ L ∧ nw ≤ L ∧ ((tm = 4 ∧ now = nw ∧ was ≤ nw ∧ nw = max was (min (a + 600) L) ∧ nw ≠ L) ∨ (tm = 9 ∧ nw = was))) ∨
     (wh = true ∧ now = L ∧ i' = i ∧ t' = t ∧ n' = L ∧ nw = 0 ∧ CfgAt w s' cf ∧ BytesIn w (.slice A' n' c') bs ∧ max was (min (a + 600) L) = L ∧ tm = 4))
theorem taken_r (W1 _wr w w' X : World) (p : Nat) (i t : Int) (L : Nat) (bs : List B8) (cf : Cfg) (tm : Int) (was a bx bz : Nat) (xs : List Value) (now : Nat) (wh : Bool) (i' t' : Int) (s' : S4) (A' : Option Addr) (n' c' nw : Nat) (hLb : bs.length ≤ 100000)
    (l0 : cf.vs.length ≤ 1000) (l1 : cf.os.length ≤ 1000) (l2 : cf.ls.length ≤ 1000) (l3 : cf.ws.length ≤ 1000)
    (h : (wh = false ∧ now ≤ L ∧ nw ≤ L ∧ ((tm = 4 ∧ now = nw ∧ was ≤ nw ∧ nw = max was (min (a + 600) L) ∧ nw ≠ L) ∨ (tm = 9 ∧ nw = was))) ∨
     (wh = true ∧ now = L ∧ i' = i ∧ t' = t ∧ n' = L ∧ nw = 0 ∧ CfgOwn w' w.heap.size s' cf ∧ OwnN w' w.heap.size (.slice A' n' c') bs ∧ max was (min (a + 600) L) = L ∧ tm = 4))
    (hX : Ok W1 X) (hx : X.rangeAt bx 0 xs) (hz : X.rangeAt bz 0 [.int .i64 i', .int .i64 t', .slice s'.A0 s'.n0 s'.c0, .slice s'.A1 s'.n1 s'.c1, .slice s'.A2 s'.n2 s'.c2, .slice s'.A3 s'.n3 s'.c3, .slice A' n' c']) (hf : FS p i t L bs nw X)
    (hc : CfgOwn w' w.heap.size s' cf → CfgOwn X w.heap.size s' cf) (hn : OwnN w' w.heap.size (.slice A' n' c') bs → OwnN X w.heap.size (.slice A' n' c') bs) :
    TakR W1 p i t L bs cf tm was a bx xs (.int .i64 (now : Int)) (.bool wh) (.pointer (some ⟨bz, 0, none⟩)) X :=
  ⟨now, wh, bz, i', t', s', A', n', c', nw, rfl, rfl, rfl, hX, hx, hz, hf, h.imp id (fun ⟨a1, a2, a3, a4, a5, a6, a7, a8, a9⟩ => ⟨a1, a2, a3, a4, a5, a6, (hc a7).at l0 l1 l2 l3, (hn a8).bytes (by omega), a9⟩)⟩
/-- The call first, then the variable. -/
theorem taken_new (W1 wr w w' : World) (p : Nat) (i t : Int) (L : Nat) (bs : List B8) (cf : Cfg) (tm : Int) (was a bx bz : Nat) (hbz : w'.heap.size = bz) (xs : List Value) (now : Nat) (wh : Bool) (i' t' : Int) (s' : S4) (A' : Option Addr) (n' c' nw : Nat) (hLb : bs.length ≤ 100000)
    (l0 : cf.vs.length ≤ 1000) (l1 : cf.os.length ≤ 1000) (l2 : cf.ls.length ≤ 1000) (l3 : cf.ws.length ≤ 1000) (hbx : wr.heap.size ≤ bx) (hxr : w.rangeAt bx 0 xs)
    (h0 : Ok W1 w' ∧ w.heap.size ≤ w'.heap.size ∧ Keep wr.heap.size w w') (hf : FSo p i t L bs nw wr.heap.size w.heap.size w')
    (h : (wh = false ∧ now ≤ L ∧ nw ≤ L ∧ ((tm = 4 ∧ now = nw ∧ was ≤ nw ∧ nw = max was (min (a + 600) L) ∧ nw ≠ L) ∨ (tm = 9 ∧ nw = was))) ∨
     (wh = true ∧ now = L ∧ i' = i ∧ t' = t ∧ n' = L ∧ nw = 0 ∧ CfgOwn w' w.heap.size s' cf ∧ OwnN w' w.heap.size (.slice A' n' c') bs ∧ max was (min (a + 600) L) = L ∧ tm = 4)) :
    TakR W1 p i t L bs cf tm was a bx xs (.int .i64 (now : Int)) (.bool wh) (.pointer (some ⟨bz, 0, none⟩)) ((w'.alloc (.cells #[.int .i64 0, .int .i64 0, .slice none 0 0, .slice none 0 0, .slice none 0 0, .slice none 0 0, .slice none 0 0] 75)).setCells bz 0 [.int .i64 i', .int .i64 t', .slice s'.A0 s'.n0 s'.c0, .slice s'.A1 s'.n1 s'.c1, .slice s'.A2 s'.n2 s'.c2, .slice s'.A3 s'.n3 s'.c3, .slice A' n' c']) := by
  subst hbz
  have hok : Ok w' ((w'.alloc (.cells #[.int .i64 0, .int .i64 0, .slice none 0 0, .slice none 0 0, .slice none 0 0, .slice none 0 0, .slice none 0 0] 75)).setCells w'.heap.size 0 [.int .i64 i', .int .i64 t', .slice s'.A0 s'.n0 s'.c0, .slice s'.A1 s'.n1 s'.c1, .slice s'.A2 s'.n2 s'.c2, .slice s'.A3 s'.n3 s'.c3, .slice A' n' c']) := Ok.sets (Nat.le_refl _) _ _ _ ((Ok.refl w').alloc _)
  exact taken_r W1 wr w w' _ p i t L bs cf tm was a bx _ xs now wh i' t' s' A' n' c' nw hLb l0 l1 l2 l3 h (h0.1.trans hok) (fun j u hu => hok.cell (h0.2.2.range hxr hbx j u hu))
    (World.rangeAt_setCells_same _ _ 0 _ (there_new w' #[.int .i64 0, .int .i64 0, .slice none 0 0, .slice none 0 0, .slice none 0 0, .slice none 0 0, .slice none 0 0] 75)) (hf.fs.ok hok) (fun k => k.ok hok) (fun k => k.okk hok)
/-- The variable first, then the call. -/
theorem taken_old (W1 wr w w' : World) (p : Nat) (i t : Int) (L : Nat) (bs : List B8) (cf : Cfg) (tm : Int) (was a bx bz : Nat) (xs : List Value) (now : Nat) (wh : Bool) (i' t' : Int) (s' : S4) (A' : Option Addr) (n' c' nw : Nat) (hLb : bs.length ≤ 100000) (hW1 : W1.heap.size ≤ wr.heap.size)
    (l0 : cf.vs.length ≤ 1000) (l1 : cf.os.length ≤ 1000) (l2 : cf.ls.length ≤ 1000) (l3 : cf.ws.length ≤ 1000) (hbx : wr.heap.size ≤ bx) (hxr : w.rangeAt bx 0 xs) (hp : p < wr.heap.size) (hb1 : bx < bz) (hb2 : bz < w.heap.size) (ht : w.there bz 0 7)
    (h0 : Ok W1 w' ∧ w.heap.size ≤ w'.heap.size ∧ Keep wr.heap.size w w') (hf : FSo p i t L bs nw wr.heap.size w.heap.size w')
    (h : (wh = false ∧ now ≤ L ∧ nw ≤ L ∧ ((tm = 4 ∧ now = nw ∧ was ≤ nw ∧ nw = max was (min (a + 600) L) ∧ nw ≠ L) ∨ (tm = 9 ∧ nw = was))) ∨
     (wh = true ∧ now = L ∧ i' = i ∧ t' = t ∧ n' = L ∧ nw = 0 ∧ CfgOwn w' w.heap.size s' cf ∧ OwnN w' w.heap.size (.slice A' n' c') bs ∧ max was (min (a + 600) L) = L ∧ tm = 4)) :
    TakR W1 p i t L bs cf tm was a bx xs (.int .i64 (now : Int)) (.bool wh) (.pointer (some ⟨bz, 0, none⟩)) (w'.setCells bz 0 [.int .i64 i', .int .i64 t', .slice s'.A0 s'.n0 s'.c0, .slice s'.A1 s'.n1 s'.c1, .slice s'.A2 s'.n2 s'.c2, .slice s'.A3 s'.n3 s'.c3, .slice A' n' c']) :=
  taken_r W1 wr w w' _ p i t L bs cf tm was a bx _ xs now wh i' t' s' A' n' c' nw hLb l0 l1 l2 l3 h (Ok.sets (by omega) _ _ _ h0.1) (World.rangeAt_setCells_apart (h0.2.2.range hxr hbx) bz 0 _ (.inl (by omega)))
    (World.rangeAt_setCells_same _ _ 0 _ (h0.2.2.there ht (by omega))) (hf.fars bz (by omega) (by omega) hb2 _) (sets_own _ 0 _ _ hb2).1 (sets_own _ 0 _ _ hb2).2
end Go.Proofs.Ytnjaiiifafbbjaa
