/- The law SharesRuns, walked. -/
import Derived.Test.YtneipmgkphdfkaaSy
import Derived.Test.YtneipmgkphdfkaaSw
namespace Go.Proofs.Ytneipmgkphdfkaa
open Go.RowKit

structure Step1 where
  sp : Sp
  g : Int
def atS (l : List Step1) (j : Nat) : Step1 := l[j]?.getD ⟨allS, 0⟩
/-- These steps, from an address on. -/
def StepsAt (W : World) (A : Option Addr) (l : List Step1) : Prop := ∀ j, j < l.length → ∃ b off, A = some ⟨b, off, none⟩ ∧ W.cell? ⟨b, off + j * 3, none⟩ = some (.string (atS l j).sp.lo) ∧ W.cell? ⟨b, off + j * 3 + 1, none⟩ = some (.string (atS l j).sp.hi) ∧
  W.cell? ⟨b, off + j * 3 + 2, none⟩ = some (.int .i64 (atS l j).g)
theorem StepsAt.ok {W W' : World} {A : Option Addr} {l : List Step1} (h : StepsAt W A l) (k : Ok W W') : StepsAt W' A l := fun j hj => by
  obtain ⟨b, off, e, c0, c1, c2⟩ := h j hj
  exact ⟨b, off, e, Ok.cell k c0, Ok.cell k c1, Ok.cell k c2⟩
theorem turn_len (ep : Int) (xs : List Sh) (i : Sp) (g : Int) : (turnM ep xs i g).2.length ≤ 40 := by
  rcases turn_ways ep xs i g with ⟨_, e⟩ | ⟨_, _, e⟩ | ⟨_, _, _, e⟩ | ⟨_, _, _, _, e⟩ | ⟨k, _, _, _, _, _, _, ⟨_, e⟩ | ⟨_, _, e⟩ | ⟨_, _, h, e⟩⟩ <;> rw [e] <;> first | exact h | exact Nat.zero_le _
theorem OwnSh.cap {w : World} {B : Nat} {A : Option Addr} {n c : Nat} {xs : List Sh} (h : OwnSh w B A n c xs) : n ≤ c := by
  obtain ⟨h1, rfl⟩ := h
  rcases h1.2 with ⟨e, h5⟩ | ⟨g, cap, cur, e, _, _, hn, _⟩
  · omega
  · simp only [Value.slice.injEq] at e
    omega
theorem OwnSh.apart {w : World} {B : Nat} {A : Option Addr} {n c : Nat} {xs : List Sh} (h : OwnSh w B A n c xs) {p : Nat} (hp : p < B) : ∀ (b off : Nat), A = Option.some ⟨b, off, none⟩ → b ≠ p := by
  intro b off e
  rcases h.1.2 with ⟨e2, _⟩ | ⟨g, cap, cur, e2, hb, _⟩
  · simp only [Value.slice.injEq] at e2
    rw [e2.1] at e; cases e
  · simp only [Value.slice.injEq] at e2
    rw [e2.1] at e
    simp only [Option.some.injEq, Addr.mk.injEq] at e
    omega
theorem SharesAt.set {w : World} {A : Option Addr} {xs : List Sh} (h : SharesAt w A xs) {p : Nat} (hp : ∀ b off, A = some ⟨b, off, none⟩ → b ≠ p) (o : Nat) (v : Value) : SharesAt (w.setCell ⟨p, o, none⟩ v) A xs := fun j hj => by
  obtain ⟨b, off, e, c0, c1, c2, c3⟩ := h j hj
  have hb := hp b off e
  have key : ∀ q, (w.setCell ⟨p, o, none⟩ v).cell? ⟨b, q, none⟩ = w.cell? ⟨b, q, none⟩ := fun q => World.cell?_setCell_other _ _ _ _ (by first | (simp; done) | (simp; omega))
  exact ⟨b, off, e, (key _).trans c0, (key _).trans c1, (key _).trans c2, (key _).trans c3⟩
def TurnP (w : World) (E code : Int) (ys : List Sh) (N : Nat) : Ending → World → Prop := fun e w' => ∃ A c, e = .returned (.tuple #[.agg #[.int .i64 E, .slice A N c], .int .i64 code]) ∧ OwnSh w' w.heap.size A N c ys ∧ Ok w w'
def TurnedAt (wq : World) (E code : Int) (ys : List Sh) (N : Nat) (p v : Value) (wx : World) : Prop := ∃ q A c, wq.heap.size ≤ q ∧ p = .pointer (some ⟨q, 0, none⟩) ∧ v = .int .i64 code ∧ wx.cell? ⟨q, 0, none⟩ = some (.int .i64 E) ∧ wx.cell? ⟨q, 1, none⟩ = some (.slice A N c) ∧ OwnSh wx wq.heap.size A N c ys ∧ Ok wq wx
/-- Two shares, in blocks pa and pb: they are the same. -/
structure Both (w wr : World) (pa pb : Nat) (ep : Int) (A B : Option Addr) (n c d : Nat) (xs : List Sh) : Prop where
  len : xs.length = n
  n40 : n ≤ 40
  nc : n ≤ c
  a0 : wr.cell? ⟨pa, 0, none⟩ = some (.int .i64 ep)
  a1 : wr.cell? ⟨pa, 1, none⟩ = some (.slice A n c)
  b0 : wr.cell? ⟨pb, 0, none⟩ = some (.int .i64 ep)
  b1 : wr.cell? ⟨pb, 1, none⟩ = some (.slice B n d)
  fa0 : wr.frozen? ⟨pa, 0, none⟩ = false
  fa1 : wr.frozen? ⟨pa, 1, none⟩ = false
  fb0 : wr.frozen? ⟨pb, 0, none⟩ = false
  fb1 : wr.frozen? ⟨pb, 1, none⟩ = false
  ca : SharesAt wr A xs
  cb : SharesAt wr B xs
  ha : ∀ b off, A = some ⟨b, off, none⟩ → b ≠ pa
  ha' : ∀ b off, A = some ⟨b, off, none⟩ → b ≠ pb
  hb : ∀ b off, B = some ⟨b, off, none⟩ → b ≠ pa
  hb' : ∀ b off, B = some ⟨b, off, none⟩ → b ≠ pb
  lo : w.heap.size ≤ pa
  lo' : w.heap.size ≤ pb
  ne : pa ≠ pb
  ok : Ok w wr
theorem Both.later {w wr w' : World} {pa pb : Nat} {ep : Int} {A B : Option Addr} {n c d : Nat} {xs : List Sh} (h : Both w wr pa pb ep A B n c d xs) (k : Ok wr w') : Both w w' pa pb ep A B n c d xs where
  len := h.len
  n40 := h.n40
  nc := h.nc
  a0 := Ok.cell k h.a0
  a1 := Ok.cell k h.a1
  b0 := Ok.cell k h.b0
  b1 := Ok.cell k h.b1
  fa0 := (Below.frozen k (World.block_lt_of_cell? _ _ h.a0)).trans h.fa0
  fa1 := (Below.frozen k (World.block_lt_of_cell? _ _ h.a1)).trans h.fa1
  fb0 := (Below.frozen k (World.block_lt_of_cell? _ _ h.b0)).trans h.fb0
  fb1 := (Below.frozen k (World.block_lt_of_cell? _ _ h.b1)).trans h.fb1
  ca := h.ca.ok k
  cb := h.cb.ok k
  ha := h.ha
  ha' := h.ha'
  hb := h.hb
  hb' := h.hb'
  lo := h.lo
  lo' := h.lo'
  ne := h.ne
  ok := Ok.call h.ok k
/-- Both have turned: the new ones are laid into their blocks. -/
theorem Both.turn {w wr : World} {pa pb : Nat} {ep : Int} {A B : Option Addr} {n c d : Nat} {xs : List Sh} (h : Both w wr pa pb ep A B n c d xs)
    {ep' : Int} {A' B' : Option Addr} {n' c' d' Ba Bb : Nat} {ys : List Sh} (hA : OwnSh wr Ba A' n' c' ys) (hB : OwnSh wr Bb B' n' d' ys) (h40 : n' ≤ 40) (h1 : pa < Ba) (h2 : pb < Ba) (h3 : pa < Bb) (h4 : pb < Bb) :
    Both w ((((wr.setCell ⟨pa, 0, none⟩ (.int .i64 ep')).setCell ⟨pa, 1, none⟩ (.slice A' n' c')).setCell ⟨pb, 0, none⟩ (.int .i64 ep')).setCell ⟨pb, 1, none⟩ (.slice B' n' d')) pa pb ep' A' B' n' c' d' ys := by
  have hne := h.ne
  obtain ⟨s0, s1⟩ := store2 wr pa _ _ (.int .i64 ep') (.slice A' n' c') h.a0 h.a1
  have t0 : ((wr.setCell ⟨pa, 0, none⟩ (.int .i64 ep')).setCell ⟨pa, 1, none⟩ (.slice A' n' c')).cell? ⟨pb, 0, none⟩ = some (.int .i64 ep) := (World.cell?_setCell_other _ _ _ _ (by first | (simp; done) | (simp; omega))).trans ((World.cell?_setCell_other _ _ _ _ (by first | (simp; done) | (simp; omega))).trans h.b0)
  have t1 : ((wr.setCell ⟨pa, 0, none⟩ (.int .i64 ep')).setCell ⟨pa, 1, none⟩ (.slice A' n' c')).cell? ⟨pb, 1, none⟩ = some (.slice B n d) := (World.cell?_setCell_other _ _ _ _ (by first | (simp; done) | (simp; omega))).trans ((World.cell?_setCell_other _ _ _ _ (by first | (simp; done) | (simp; omega))).trans h.b1)
  obtain ⟨r0, r1⟩ := store2 _ pb _ _ (.int .i64 ep') (.slice B' n' d') t0 t1
  exact {
    len := hA.2.symm
    n40 := h40
    nc := hA.cap
    a0 := (World.cell?_setCell_other _ _ _ _ (by first | (simp; done) | (simp; omega))).trans ((World.cell?_setCell_other _ _ _ _ (by first | (simp; done) | (simp; omega))).trans s0)
    a1 := (World.cell?_setCell_other _ _ _ _ (by first | (simp; done) | (simp; omega))).trans ((World.cell?_setCell_other _ _ _ _ (by first | (simp; done) | (simp; omega))).trans s1)
    b0 := r0
    b1 := r1
    fa0 := by simp only [World.frozen?_setCell]; exact h.fa0
    fa1 := by simp only [World.frozen?_setCell]; exact h.fa1
    fb0 := by simp only [World.frozen?_setCell]; exact h.fb0
    fb1 := by simp only [World.frozen?_setCell]; exact h.fb1
    ca := (((hA.at.set (hA.apart h1) _ _).set (hA.apart h1) _ _).set (hA.apart h2) _ _).set (hA.apart h2) _ _
    cb := (((hB.at.set (hB.apart h3) _ _).set (hB.apart h3) _ _).set (hB.apart h4) _ _).set (hB.apart h4) _ _
    ha := hA.apart h1
    ha' := hA.apart h2
    hb := hB.apart h3
    hb' := hB.apart h4
    lo := h.lo
    lo' := h.lo'
    ne := h.ne
    ok := Ok.set (Ok.set (Ok.set (Ok.set h.ok h.lo _) h.lo _) h.lo' _) h.lo' _ }

set_option maxRecDepth 100000 in
set_option maxHeartbeats 40000000 in
theorem sharesRuns_w (g : Int) (A0 : Option Addr) (m c0 : Nat) (l : List Step1) (hl : l.length = m) (w : World) (hS : StepsAt w A0 l) :
    Calls Try.prog 8 #[.int .i64 g, .slice A0 m c0] w (Ret w (.bool true)) := by
  have HS := Lib.hid hS
  have HM := Lib.hid hl
  clear hS hl
  by_cases hm60 : 60 < m
  · have d1 : decide ((60 : Int) < (m : Int)) = true := decide_eq_true (by omega)
    go_enter Try.func8, Try.ntmps8
    go_wp2_with fail
    refine (awake2_w _).mono ?_
    rintro _ w1 ⟨rfl, o1⟩
    go_wp2
    go_ret
    exact ⟨rfl, o1⟩
  · have d1 : decide ((60 : Int) < (m : Int)) = false := decide_eq_false (by omega)
    go_enter Try.func8, Try.ntmps8
    go_wp2_with fail
    refine (awake2_w _).mono ?_
    rintro _ w1 ⟨rfl, o1⟩
    go_wp2_with fail
    refine (first_w g _).mono ?_
    rintro _ w2 ⟨h1, rfl, hown1, o2⟩
    go_wp2_with fail
    refine (rfirst_w g _).mono ?_
    rintro _ w3 ⟨h2, rfl, hown2, o3⟩
    have ok3 := Ok.call (Ok.call o1 o2) o3
    have HB0 : Hid (Both w ((w3.alloc (.cells #[.int .i64 1, .slice (some ⟨h1, 0, none⟩) 1 1] 48)).alloc (.cells #[.int .i64 1, .slice (some ⟨h2, 0, none⟩) 1 1] 48)) w3.heap.size (w3.heap.size + 1) 1 (some ⟨h1, 0, none⟩) (some ⟨h2, 0, none⟩) 1 1 1 [⟨allS, firstG g, 1⟩]) := by
      have q1 : h1 < w3.heap.size := by
        obtain ⟨b, off, e, c, _⟩ := (hown1.at.ok o3) 0 (by simp)
        simp only [Option.some.injEq, Addr.mk.injEq] at e
        have := World.block_lt_of_cell? _ _ c
        simp only at this
        omega
      have q2 : h2 < w3.heap.size := by
        obtain ⟨b, off, e, c, _⟩ := hown2.at 0 (by simp)
        simp only [Option.some.injEq, Addr.mk.injEq] at e
        have := World.block_lt_of_cell? _ _ c
        simp only at this
        omega
      have kk : Ok w3 ((w3.alloc (.cells #[.int .i64 1, .slice (some ⟨h1, 0, none⟩) 1 1] 48)).alloc (.cells #[.int .i64 1, .slice (some ⟨h2, 0, none⟩) 1 1] 48)) := Ok.alloc (Ok.alloc (Ok.refl _) _) _
      have ap : ∀ (h p : Nat), h < w3.heap.size → w3.heap.size ≤ p → ∀ b off, (some (⟨h, 0, none⟩ : Addr)) = some ⟨b, off, none⟩ → b ≠ p := fun h p hh hp b off e => by
        simp only [Option.some.injEq, Addr.mk.injEq] at e; omega
      exact Lib.hid {
        len := rfl
        n40 := by decide
        nc := Nat.le_refl _
        a0 := by go_cell
        a1 := by go_cell
        b0 := by go_cell
        b1 := by go_cell
        fa0 := by go_cell
        fa1 := by go_cell
        fb0 := by go_cell
        fb1 := by go_cell
        ca := (hown1.at.ok o3).ok kk
        cb := hown2.at.ok kk
        ha := ap _ _ q1 (Nat.le_refl _)
        ha' := ap _ _ q1 (Nat.le_succ _)
        hb := ap _ _ q2 (Nat.le_refl _)
        hb' := ap _ _ q2 (Nat.le_succ _)
        lo := ok3.size
        lo' := Nat.le_succ_of_le ok3.size
        ne := by omega
        ok := Ok.call ok3 kk }
    clear hown1 hown2 o1 o2 o3 ok3
    go_wp2_with fail
    generalize ((w3.alloc (.cells #[.int .i64 1, .slice (some ⟨h1, 0, none⟩) 1 1] 48)).alloc (.cells #[.int .i64 1, .slice (some ⟨h2, 0, none⟩) 1 1] 48)) = W at HB0 ⊢
    obtain ⟨pb, hpb⟩ : ∃ p, w3.heap.size + 1 = p := ⟨_, rfl⟩
    obtain ⟨pa, hpa⟩ : ∃ p, w3.heap.size = p := ⟨_, rfl⟩
    rw [hpb] at HB0 ⊢
    rw [hpa] at HB0 ⊢
    clear hpa hpb
    go_loopw [7] (fun i wr => ∃ k : Nat, k ≤ m ∧ i = .int .i64 k ∧ ∃ ep A B n c d xs, Both w wr pa pb ep A B n c d xs) (fun i _ => m - (intOf i).toNat)
    case atStart => exact ⟨0, Nat.zero_le _, rfl, _, _, _, _, _, _, _, HB0.out⟩
    case round =>
      obtain ⟨k, hk, rfl, ep, A, B, n, c, d, xs, hboth⟩ := hrel
      have HB := Lib.hid hboth
      clear hboth HB0
      by_cases hlt : k < m
      · have d4 : decide ((k : Int) < (m : Int)) = true := decide_eq_true (by omega)
        obtain ⟨b, off, rfl, L0, L1, L2⟩ := HS.out.ok HB.out.ok k (by rw [HM.out]; exact hlt)
        obtain ⟨⟨⟨sl, sh⟩, sg⟩, hs⟩ : ∃ s, atS l k = s := ⟨_, rfl⟩
        rw [hs] at L0 L1 L2
        simp only at L0 L1 L2
        clear hs
        have hi0 : (0 : Int) ≤ (k : Int) := Int.natCast_nonneg _
        have hi1 : (k : Int) < (m : Int) := by omega
        go_wp2_with fail
        go_quiet (fail)
        go_wp2_with fail
        · go_ret
          exact ⟨rfl, Below.trans HB.out.ok ⟨rfl, rfl, rfl, Nat.le_refl _, fun _ _ => rfl⟩⟩
        · have oq : Ok wr (wr.drewN nq) := ⟨rfl, rfl, rfl, Nat.le_refl _, fun _ _ => rfl⟩
          generalize wr.drewN nq = wq at oq ⊢
          have HBQ := Lib.hid (HB.out.later oq)
          have L0 := Ok.cell oq L0
          have L1 := Ok.cell oq L1
          have L2 := Ok.cell oq L2
          have P0 := HBQ.out.a0
          have P1 := HBQ.out.a1
          have G0 := HBQ.out.b0
          have G1 := HBQ.out.b1
          have HTA := Lib.hid (fun w' h => turn_w ep A n c xs ⟨sl, sh⟩ sg HBQ.out.len (by have := HBQ.out.n40; omega) HBQ.out.nc w' h)
          have HTB := Lib.hid (fun w' h => rturn_w ep B n d xs ⟨sl, sh⟩ sg HBQ.out.len (by have := HBQ.out.n40; omega) w' h)
          rw [rturn_eq] at HTB
          have hlen := turn_len ep xs ⟨sl, sh⟩ sg
          generalize turnM ep xs ⟨sl, sh⟩ sg = R at HTA HTB hlen
          have HLEN := Lib.hid hlen
          clear hlen oq HB
          obtain ⟨code, ys⟩ := R
          obtain ⟨E, hE⟩ : ∃ E, (if code = 0 then ep + 1 else 0) = E := ⟨_, rfl⟩
          obtain ⟨N, hN⟩ : ∃ N, ys.length = N := ⟨_, rfl⟩
          have HA2 : Hid (∀ w', SharesAt w' A xs → Calls Try.prog 34 #[.agg #[.int .i64 ep, .slice A n c], .agg #[.string sl, .string sh], .int .i64 sg] w' (TurnP w' E code ys N)) := Lib.hid fun w' h => (HTA.out w' h).mono fun e w'' ⟨A', c', he, ho, hk⟩ => by
            subst hE; subst hN; exact ⟨A', c', he, ho, hk⟩
          have HB2 : Hid (∀ w', SharesAt w' B xs → Calls Try.prog 35 #[.agg #[.int .i64 ep, .slice B n d], .agg #[.string sl, .string sh], .int .i64 sg] w' (TurnP w' E code ys N)) := Lib.hid fun w' h => (HTB.out w' h).mono fun e w'' ⟨A', c', he, ho, hk⟩ => by
            subst hE; subst hN; exact ⟨A', c', he, ho, hk⟩
          have HYN := Lib.hid hN
          clear HTA HTB hE hN
          have HCA := Lib.hid (fun w' (k' : Ok wq w') => HA2.out w' (HBQ.out.ca.ok k'))
          have HCB := Lib.hid (fun w' (k' : Ok wq w') => HB2.out w' (HBQ.out.cb.ok k'))
          clear HA2 HB2
          have HSQ := Lib.hid fun w' (k' : Ok wq w') => show w'.cell? ⟨pa, 0, none⟩ = some (.int .i64 ep) ∧ w'.cell? ⟨pa, 1, none⟩ = some (.slice A n c) ∧ w'.cell? ⟨b, off + k * 3, none⟩ = some (.string sl) ∧ w'.cell? ⟨b, off + k * 3 + 1, none⟩ = some (.string sh) ∧ w'.cell? ⟨b, off + k * 3 + 2, none⟩ = some (.int .i64 sg) ∧ OkS wq w' from ⟨Ok.cell k' P0, Ok.cell k' P1, Ok.cell k' L0, Ok.cell k' L1, Ok.cell k' L2, k'⟩
          have HDR : Hid (Ok wq wq.drew) := Lib.hid (Ok.drew (Ok.refl _))
          have HDA : Hid (Ok wq (wq.alloc (.cells #[.int .i64 0, .slice none 0 0] 48)).drew) := Lib.hid (Ok.drew (Ok.alloc (Ok.refl _) _))
          have HZW : Hid (∀ w', Ok (wq.alloc (.cells #[.int .i64 0, .slice none 0 0] 48)).drew w' → w'.cell? ⟨wq.heap.size, 0, none⟩ = some (.int .i64 0) ∧ w'.cell? ⟨wq.heap.size, 1, none⟩ = some (.slice none 0 0) ∧ w'.frozen? ⟨wq.heap.size, 0, none⟩ = false ∧ w'.frozen? ⟨wq.heap.size, 1, none⟩ = false) := Lib.hid fun w' k' => by
            have Z0 : (wq.alloc (.cells #[.int .i64 0, .slice none 0 0] 48)).drew.cell? ⟨wq.heap.size, 0, none⟩ = some (.int .i64 0) := by go_cell
            have Z1 : (wq.alloc (.cells #[.int .i64 0, .slice none 0 0] 48)).drew.cell? ⟨wq.heap.size, 1, none⟩ = some (.slice none 0 0) := by go_cell
            have F0 : (wq.alloc (.cells #[.int .i64 0, .slice none 0 0] 48)).drew.frozen? ⟨wq.heap.size, 0, none⟩ = false := by go_cell
            have F1 : (wq.alloc (.cells #[.int .i64 0, .slice none 0 0] 48)).drew.frozen? ⟨wq.heap.size, 1, none⟩ = false := by go_cell
            exact ⟨Ok.cell k' Z0, Ok.cell k' Z1, (Below.frozen k' (World.block_lt_of_cell? _ _ Z0)).trans F0, (Below.frozen k' (World.block_lt_of_cell? _ _ Z1)).trans F1⟩
          go_cut [8, 9] from 21 to 83 (fun p v wx => TurnedAt wq E code ys N p v wx)
          case first =>
            go_region_held3 (fun w' => w'.cell? ⟨pa, 0, none⟩ = some (.int .i64 ep) ∧ w'.cell? ⟨pa, 1, none⟩ = some (.slice A n c) ∧ w'.cell? ⟨b, off + k * 3, none⟩ = some (.string sl) ∧ w'.cell? ⟨b, off + k * 3 + 1, none⟩ = some (.string sh) ∧ w'.cell? ⟨b, off + k * 3 + 2, none⟩ = some (.int .i64 sg) ∧ OkS wq w')
              ((refine HSQ.out _ ?_; (repeat (first | (with_reducible exact Ok.refl _) | (with_reducible assumption) | (with_reducible refine Ok.drew ?_) | (with_reducible refine Ok.alloc ?_ _) | (with_reducible refine Ok.trans' ?_ (by assumption)) | (refine Ok.set ?_ (by simp) _)))))
              (first
                | (go_at_call 34; (with_reducible refine (HCA.out wq.drew HDR.out).mono ?_); rintro e w5 ⟨A5, c5, rfl, hown5, o5⟩)
                | (go_at_call 34; (with_reducible refine (HCA.out (wq.alloc (.cells #[.int .i64 0, .slice none 0 0] 48)).drew HDA.out).mono ?_); rintro e w5 ⟨A5, c5, rfl, hown5, o5⟩; obtain ⟨Z0, Z1, FZ0, FZ1⟩ := HZW.out _ o5))
            · go_wp2_with fail
              go_meet
              exact ⟨w5.heap.size, A5, c5, o5.size, rfl, rfl, by go_cell, by go_cell, (hown5.base (Nat.le_refl _)).alloc _, Ok.alloc (Ok.trans' HDR.out o5) _⟩
            · go_wp2_with fail
              go_meet
              have st := store2 w5 wq.heap.size _ _ (.int .i64 E) (.slice A5 N c5) Z0 Z1
              have hlt5 : wq.heap.size < (wq.alloc (.cells #[.int .i64 0, .slice none 0 0] 48)).drew.heap.size := by simp
              exact ⟨wq.heap.size, A5, c5, Nat.le_refl _, rfl, rfl, st.1, st.2, (((hown5.set (p := ⟨wq.heap.size, 0, none⟩) hlt5 _).set (p := ⟨wq.heap.size, 1, none⟩) hlt5 _)).base (Nat.le_of_lt hlt5), Ok.set (Ok.set (Ok.trans' HDA.out o5) (Nat.le_refl _) _) (Nat.le_refl _) _⟩
          case rest =>
            obtain ⟨q1, A5, c5, hq1, rfl, rfl, T0, T1, hown5, o5⟩ := hcut
            obtain ⟨wd, rfl⟩ : ∃ v, v = wc := ⟨_, rfl⟩
            have HBD := Lib.hid (HBQ.out.later o5)
            have HOA := Lib.hid hown5
            have hpaq : pa < wq.heap.size := World.block_lt_of_cell? _ _ P0
            have hpbq : pb < wq.heap.size := World.block_lt_of_cell? _ _ G0
            have L0 := Ok.cell o5 L0
            have L1 := Ok.cell o5 L1
            have L2 := Ok.cell o5 L2
            have G0 := Ok.cell o5 G0
            have G1 := Ok.cell o5 G1
            have HCB := Lib.hid (fun w' (k' : Ok wd w') => HCB.out w' (Ok.call o5 k'))
            have hsd := o5.size
            clear hown5 o5 P0 P1 HSQ HDR HDA HZW HBQ HCA
            have HDR : Hid (Ok wd wd.drew) := Lib.hid (Ok.drew (Ok.refl _))
            have HDA : Hid (Ok wd (wd.alloc (.cells #[.int .i64 0, .slice none 0 0] 48)).drew) := Lib.hid (Ok.drew (Ok.alloc (Ok.refl _) _))
            have HZW : Hid (∀ w', Ok (wd.alloc (.cells #[.int .i64 0, .slice none 0 0] 48)).drew w' → w'.cell? ⟨wd.heap.size, 0, none⟩ = some (.int .i64 0) ∧ w'.cell? ⟨wd.heap.size, 1, none⟩ = some (.slice none 0 0) ∧ w'.frozen? ⟨wd.heap.size, 0, none⟩ = false ∧ w'.frozen? ⟨wd.heap.size, 1, none⟩ = false) := Lib.hid fun w' k' => by
              have Z0 : (wd.alloc (.cells #[.int .i64 0, .slice none 0 0] 48)).drew.cell? ⟨wd.heap.size, 0, none⟩ = some (.int .i64 0) := by go_cell
              have Z1 : (wd.alloc (.cells #[.int .i64 0, .slice none 0 0] 48)).drew.cell? ⟨wd.heap.size, 1, none⟩ = some (.slice none 0 0) := by go_cell
              have F0 : (wd.alloc (.cells #[.int .i64 0, .slice none 0 0] 48)).drew.frozen? ⟨wd.heap.size, 0, none⟩ = false := by go_cell
              have F1 : (wd.alloc (.cells #[.int .i64 0, .slice none 0 0] 48)).drew.frozen? ⟨wd.heap.size, 1, none⟩ = false := by go_cell
              exact ⟨Ok.cell k' Z0, Ok.cell k' Z1, (Below.frozen k' (World.block_lt_of_cell? _ _ Z0)).trans F0, (Below.frozen k' (World.block_lt_of_cell? _ _ Z1)).trans F1⟩
            have HSQ := Lib.hid fun w' (k' : Ok wd w') => show w'.cell? ⟨pb, 0, none⟩ = some (.int .i64 ep) ∧ w'.cell? ⟨pb, 1, none⟩ = some (.slice B n d) ∧ w'.cell? ⟨b, off + k * 3, none⟩ = some (.string sl) ∧ w'.cell? ⟨b, off + k * 3 + 1, none⟩ = some (.string sh) ∧ w'.cell? ⟨b, off + k * 3 + 2, none⟩ = some (.int .i64 sg) ∧ OkS wd w' from ⟨Ok.cell k' G0, Ok.cell k' G1, Ok.cell k' L0, Ok.cell k' L1, Ok.cell k' L2, k'⟩
            go_upto_region 12 with fail
            go_cut [10, 11] from 21 to 83 (fun p v wx => TurnedAt wd E code ys N p v wx)
            case first =>
              go_region_held3 (fun w' => w'.cell? ⟨pb, 0, none⟩ = some (.int .i64 ep) ∧ w'.cell? ⟨pb, 1, none⟩ = some (.slice B n d) ∧ w'.cell? ⟨b, off + k * 3, none⟩ = some (.string sl) ∧ w'.cell? ⟨b, off + k * 3 + 1, none⟩ = some (.string sh) ∧ w'.cell? ⟨b, off + k * 3 + 2, none⟩ = some (.int .i64 sg) ∧ OkS wd w')
                ((refine HSQ.out _ ?_; (repeat (first | (with_reducible exact Ok.refl _) | (with_reducible assumption) | (with_reducible refine Ok.drew ?_) | (with_reducible refine Ok.alloc ?_ _) | (with_reducible refine Ok.trans' ?_ (by assumption)) | (refine Ok.set ?_ (by simp) _)))))
                (first
                  | (go_at_call 35; (with_reducible refine (HCB.out wd.drew HDR.out).mono ?_); rintro e w5 ⟨A6, c6, rfl, hown6, o6⟩)
                  | (go_at_call 35; (with_reducible refine (HCB.out (wd.alloc (.cells #[.int .i64 0, .slice none 0 0] 48)).drew HDA.out).mono ?_); rintro e w5 ⟨A6, c6, rfl, hown6, o6⟩; obtain ⟨Z0, Z1, FZ0, FZ1⟩ := HZW.out _ o6))
              · go_wp2_with fail
                go_meet
                exact ⟨w5.heap.size, A6, c6, o6.size, rfl, rfl, by go_cell, by go_cell, (hown6.base (Nat.le_refl _)).alloc _, Ok.alloc (Ok.trans' HDR.out o6) _⟩
              · go_wp2_with fail
                go_meet
                have st := store2 w5 wd.heap.size _ _ (.int .i64 E) (.slice A6 N c6) Z0 Z1
                have hlt5 : wd.heap.size < (wd.alloc (.cells #[.int .i64 0, .slice none 0 0] 48)).drew.heap.size := by simp
                exact ⟨wd.heap.size, A6, c6, Nat.le_refl _, rfl, rfl, st.1, st.2, (((hown6.set (p := ⟨wd.heap.size, 0, none⟩) hlt5 _).set (p := ⟨wd.heap.size, 1, none⟩) hlt5 _)).base (Nat.le_of_lt hlt5), Ok.set (Ok.set (Ok.trans' HDA.out o6) (Nat.le_refl _) _) (Nat.le_refl _) _⟩
            case rest =>
              obtain ⟨q2, A6, c6, hq2, rfl, rfl, U0, U1, hown6, o6⟩ := hcut
              obtain ⟨we, rfl⟩ : ∃ v, v = wc := ⟨_, rfl⟩
              have HBE := Lib.hid (HBD.out.later o6)
              have HOA := Lib.hid (HOA.out.ok o6)
              have HOB := Lib.hid hown6
              have T0 := Ok.cell o6 T0
              have T1 := Ok.cell o6 T1
              clear hown6 o6 L0 L1 L2 G0 G1 HSQ HDR HDA HZW HBD HCB
              have hn40 : N ≤ 40 := by have := HLEN.out; have := HYN.out; simp only at *; omega
              have P0 := HBE.out.a0
              have P1 := HBE.out.a1
              have G0 := HBE.out.b0
              have G1 := HBE.out.b1
              have FP0 := HBE.out.fa0
              have FP1 := HBE.out.fa1
              have FG0 := HBE.out.fb0
              have FG1 := HBE.out.fb1
              by_cases hcode : code = 0
              · have d5 : (code == 0) = true := beq_iff_eq.2 hcode
                have HB2 := Lib.hid (HBE.out.turn (ep' := E) HOA.out HOB.out hn40 hpaq hpbq (by omega) (by omega))
                have n1 : q2 ≠ pa := by omega
                have n2 : pa ≠ q2 := by omega
                have n3 : pa ≠ pb := HBE.out.ne
                have n4 : pb ≠ pa := fun h => n3 h.symm
                clear hcode
                go_upto_region 18 with fail
                generalize (((we.setCell ⟨pa, 0, none⟩ (.int .i64 E)).setCell ⟨pa, 1, none⟩ (.slice A5 N c5)).setCell ⟨pb, 0, none⟩ (.int .i64 E)).setCell ⟨pb, 1, none⟩ (.slice A6 N c6) = wf at HB2 ⊢
                have P0 := HB2.out.a0
                have P1 := HB2.out.a1
                have G0 := HB2.out.b0
                have G1 := HB2.out.b1
                go_wp2_with fail
                refine (sameShares_w E A5 A6 N c5 c6 ys HB2.out.len (by omega) _ HB2.out.ca HB2.out.cb).mono ?_
                rintro _ w7 ⟨rfl, o7⟩
                have HB7 := Lib.hid (HB2.out.later o7)
                clear o7
                go_wp2
                refine ⟨⟨k + 1, hlt, rfl, E, A5, A6, N, c5, c6, ys, HB7.out⟩, ?_⟩
                show m - ((k : Int) + 1).toNat < m - (k : Int).toNat
                omega
              · have d5 : (code == 0) = false := beq_eq_false_iff_ne.2 hcode
                clear hcode
                go_wp2_with fail
                refine (sameShares_w ep A B n c d xs HBE.out.len (by have := HBE.out.n40; omega) _ HBE.out.ca HBE.out.cb).mono ?_
                rintro _ w7 ⟨rfl, o7⟩
                have HB7 := Lib.hid (HBE.out.later o7)
                clear o7
                go_wp2
                refine ⟨⟨k + 1, hlt, rfl, ep, A, B, n, c, d, xs, HB7.out⟩, ?_⟩
                show m - ((k : Int) + 1).toNat < m - (k : Int).toNat
                omega
      · have d4 : decide ((k : Int) < (m : Int)) = false := decide_eq_false (by omega)
        go_wp2
        go_ret
        exact ⟨rfl, HB.out.ok⟩
end Go.Proofs.Ytneipmgkphdfkaa
