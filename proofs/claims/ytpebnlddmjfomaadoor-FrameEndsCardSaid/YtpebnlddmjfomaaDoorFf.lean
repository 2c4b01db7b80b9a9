/- A number of four bytes, walked. -/
import Derived.Test.YtpebnlddmjfomaaDoorFe
namespace Go.Proofs.YtpebnlddmjfomaaDoor
open Go.RowKit
theorem take_yes (W0 : World) (p : Nat) (w : World) (bs : List B8) (m q : Nat) (h : Pl W0 p w bs m) (hq : q ≤ bs.length) :
    Calls Tryd.prog 63 #[.pointer (some ⟨p, 0, none⟩), .int .i64 (q : Int)] w fun e w' => (∃ A c, e = .returned (.tuple #[.slice A q c, .bool true]) ∧ BytesIn W0 (.slice A q c) (bs.take q)) ∧ Pl W0 p w' (bs.drop q) m ∧ Only p w w' :=
  (take_w W0 p w bs m q h).mono fun e w' hh => by unfold TakeP at hh; rw [if_pos hq] at hh; exact hh
theorem take_no (W0 : World) (p : Nat) (w : World) (bs : List B8) (m q : Nat) (h : Pl W0 p w bs m) (hq : bs.length < q) :
    Calls Tryd.prog 63 #[.pointer (some ⟨p, 0, none⟩), .int .i64 (q : Int)] w fun e w' => e = .returned (.tuple #[.slice none 0 0, .bool false]) ∧ w = w' :=
  (take_w W0 p w bs m q h).mono fun e w' hh => by unfold TakeP at hh; rw [if_neg (by omega)] at hh; exact hh
theorem bytes_cell {w w' : World} (k : Ok w w') {A : Option Addr} {n c : Nat} {xs : List B8} (h : BytesIn w (.slice A n c) xs) (h0 : 0 < xs.length) : ∃ b o, A = some ⟨b, o, none⟩ ∧ ∀ i, i < xs.length → w'.cell? ⟨b, o + i, none⟩ = some (.int .u8 (ub (xs.getD i 0#8))) := by
  rcases h with ⟨rfl, _⟩ | ⟨b, o, c', e, _, _, hc⟩
  · exact absurd h0 (Nat.not_lt_zero _)
  · simp only [Value.slice.injEq] at e
    exact ⟨b, o, e.1, fun i hi => k.cell (hc i hi)⟩
theorem or_step (n y k : Nat) (hn : n < 2 ^ k) (hs : n + y * 2 ^ k < 4294967296) : bits .or .u32 (n : Int) ((y * 2 ^ k : Nat) : Int) = ((n + y * 2 ^ k : Nat) : Int) := by
  have hw : ∀ m : Int, 0 ≤ m → m < 2 ^ 32 → IntKind.u32.wrap m = m := fun m h0 h1 => by rw [IntKind.wrap_u32]; omega
  have h1 := (bits_nat .u32 32 (by decide) hw n (y * 2 ^ k) (by omega) (by omega)).2
  have e : (n ||| y * 2 ^ k) = n + y * 2 ^ k := by
    have := Nat.two_pow_add_eq_or_of_lt hn y
    rw [Nat.or_comm, Nat.mul_comm y, ← this]; omega
  rw [h1, e]
theorem or4 (a0 a1 a2 a3 : B8) : bits .or .u32 (bits .or .u32 (bits .or .u32 (ub a0) (ub a1 * 256)) (ub a2 * 65536)) (ub a3 * 16777216) = ((un4 a0 a1 a2 a3 : Nat) : Int) := by
  have h0 := a0.isLt; have h1 := a1.isLt; have h2 := a2.isLt; have h3 := a3.isLt
  have e1 := or_step a0.toNat a1.toNat 8 (by omega) (by omega)
  have e2 := or_step (a0.toNat + a1.toNat * 2 ^ 8) a2.toNat 16 (by omega) (by omega)
  have e3 := or_step (a0.toNat + a1.toNat * 2 ^ 8 + a2.toNat * 2 ^ 16) a3.toNat 24 (by omega) (by omega)
  have c1 : ub a1 * 256 = ((a1.toNat * 2 ^ 8 : Nat) : Int) := by unfold ub; omega
  have c2 : ub a2 * 65536 = ((a2.toNat * 2 ^ 16 : Nat) : Int) := by unfold ub; omega
  have c3 : ub a3 * 16777216 = ((a3.toNat * 2 ^ 24 : Nat) : Int) := by unfold ub; omega
  rw [c1, c2, c3, show ub a0 = (a0.toNat : Int) from rfl, e1, e2, e3]
  unfold un4
  congr 1
  omega
theorem Pl.drewN {W0 : World} {p : Nat} {w : World} {bs : List B8} {m : Nat} (h : Pl W0 p w bs m) (n : Nat) : Pl W0 p (w.drewN n) bs m := ⟨h.1, h.2.1.drewN n, h.2.2⟩
theorem Only.drewN {p : Nat} {a b : World} (h : Only p a b) (n : Nat) : Only p a (b.drewN n) := h
def NumP (W0 : World) (p : Nat) (w : World) (r : List B8) (m n : Nat) (e : Ending) (w' : World) : Prop := e = .returned (.tuple #[.int .u32 (n : Int), .bool true]) ∧ Pl W0 p w' r m ∧ Only p w w'
theorem NumP.mk {W0 : World} {p : Nat} {w w' : World} {r : List B8} {m n : Nat} {x : Int} (e : x = (n : Int)) (h : Pl W0 p w' r m) (k : Only p w w') : NumP W0 p w r m n (.returned (.tuple #[.int .u32 x, .bool true])) w' := ⟨by rw [e], h, k⟩
set_option maxHeartbeats 1000000 in
theorem number_yes (W0 : World) (p : Nat) (w : World) (a0 a1 a2 a3 : B8) (r : List B8) (m : Nat) (h : Pl W0 p w (a0 :: a1 :: a2 :: a3 :: r) m) :
    Calls Tryd.prog 62 #[.pointer (some ⟨p, 0, none⟩)] w (NumP W0 p w r m (un4 a0 a1 a2 a3)) := by
  have HT : Hid (Calls Tryd.prog 63 #[.pointer (some ⟨p, 0, none⟩), .int .i64 4] w fun e w' => (∃ A c, e = .returned (.tuple #[.slice A 4 c, .bool true]) ∧ BytesIn W0 (.slice A 4 c) [a0, a1, a2, a3]) ∧ Pl W0 p w' r m ∧ Only p w w') := Lib.hid (take_yes W0 p w _ m 4 h (by simp))
  clear h
  go_enter Tryd.func62, Tryd.ntmps62
  go_wp2_with fail
  (with_reducible refine HT.out.mono ?_)
  rintro _ w2 ⟨⟨A, c, rfl, hB⟩, hP, hO⟩
  obtain ⟨b, o, rfl, hc⟩ := bytes_cell hP.2.1 hB (by simp)
  have c0 : w2.cell? ⟨b, o, none⟩ = some (.int .u8 (ub a0)) := hc 0 (by simp)
  have c1 : w2.cell? ⟨b, o + 1, none⟩ = some (.int .u8 (ub a1)) := hc 1 (by simp)
  have c2 : w2.cell? ⟨b, o + 2, none⟩ = some (.int .u8 (ub a2)) := hc 2 (by simp)
  have c3 : w2.cell? ⟨b, o + 3, none⟩ = some (.int .u8 (ub a3)) := hc 3 (by simp)
  have HP := Lib.hid hP
  have HO := Lib.hid hO
  have b0 := ub_lo a0
  have b1 := ub_lo a1
  have b2 := ub_lo a2
  have b3 := ub_lo a3
  have u0 := ub_hi a0
  have u1 := ub_hi a1
  have u2 := ub_hi a2
  have u3 := ub_hi a3
  clear hB hP hO hc HT
  generalize hx0 : ub a0 = x0 at *
  generalize hx1 : ub a1 = x1 at *
  generalize hx2 : ub a2 = x2 at *
  generalize hx3 : ub a3 = x3 at *
  have HX := Lib.hid (And.intro hx0 (And.intro hx1 (And.intro hx2 hx3)))
  clear hx0 hx1 hx2 hx3
  go_wp2_with fail
  go_quiet (fail)
  go_wp2_with fail
  go_ret2
  obtain ⟨rfl, rfl, rfl, rfl⟩ := HX.out
  exact NumP.mk (or4 a0 a1 a2 a3) (HP.out.drewN _) (HO.out.drewN _)
def ShortP (w : World) (e : Ending) (w' : World) : Prop := e = .returned (.tuple #[.int .u32 0, .bool false]) ∧ w = w'
set_option maxHeartbeats 1000000 in
theorem number_no (W0 : World) (p : Nat) (w : World) (bs : List B8) (m : Nat) (h : Pl W0 p w bs m) (hl : bs.length < 4) :
    Calls Tryd.prog 62 #[.pointer (some ⟨p, 0, none⟩)] w (ShortP w) := by
  have HT : Hid (Calls Tryd.prog 63 #[.pointer (some ⟨p, 0, none⟩), .int .i64 4] w fun e w' => e = .returned (.tuple #[.slice none 0 0, .bool false]) ∧ w = w') := Lib.hid (take_no W0 p w _ m 4 h hl)
  clear h
  go_enter Tryd.func62, Tryd.ntmps62
  go_wp2_with fail
  (with_reducible refine HT.out.mono ?_)
  rintro _ w2 ⟨rfl, rfl⟩
  go_wp2_with fail
  go_ret2
  exact ⟨rfl, rfl⟩
end Go.Proofs.YtpebnlddmjfomaaDoor
