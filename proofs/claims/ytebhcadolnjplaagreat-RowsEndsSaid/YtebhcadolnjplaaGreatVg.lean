/- A table copied; what Put and Take do, told for both in the same words. -/
import Derived.Test.YtebhcadolnjplaaGreatVf
import Derived.Test.YtebhcadolnjplaaGreatTc
namespace Go.Proofs.YtebhcadolnjplaaGreat
open Go.RowKit

def CopyPt (n : Nat) (l : List Rw) (W : World) (e : Ending) (w' : World) : Prop :=
  ∃ p A c, e = .returned (.pointer (some ⟨p, 0, none⟩)) ∧ TabAt p A n c l w' ∧ W.heap.size ≤ p ∧ (∀ a, A = some a → W.heap.size ≤ a.block) ∧ Ok W w'
set_option maxRecDepth 100000 in
set_option maxHeartbeats 1000000 in
theorem copy9_f (p : Nat) (A : Option Addr) (n c : Nat) (l : List Rw) (W : World) (h : TabAt p A n c l W) (hn : n ≤ 1000) : Calls Tryz.prog 9 #[.pointer (some ⟨p, 0, none⟩)] W (CopyPt n l W) := by
  have HT := Lib.hid h
  have hno := none85 p W h.c1
  clear h
  go_enter Tryz.func9, Tryz.ntmps9
  go_wp2_with fail
  (with_reducible refine hno.mono ?_)
  clear hno
  rintro _ w1 ⟨rfl, o1⟩
  have HK1 := Lib.hid o1
  clear o1
  go_wp2_with fail
  (with_reducible refine (new44 w1).mono ?_)
  rintro _ w2 ⟨p2, rfl, hp2, ht2, o2⟩
  have HP2 := Lib.hid hp2
  have HT2 := Lib.hid ht2
  have HK2 := Lib.hid o2
  clear hp2 ht2 o2
  have c0 := (HT.out.ok (Ok.trans HK1.out HK2.out)).c0
  go_wp2_with fail
  (with_reducible refine (clone140 0 A n c l w2 (HT.out.ok (Ok.trans HK1.out HK2.out)).own (by omega)).mono ?_)
  rintro _ w3 ⟨A3, c3, rfl, ho3, o3⟩
  have HO3 := Lib.hid ho3
  have HK3 := Lib.hid o3
  have d0 := (HT2.out.ok o3).c0
  have f0 := (HT2.out.ok o3).f 0
  clear ho3 o3 c0
  have HL2 := Lib.hid HT2.out.lt
  have HW2 : Hid (W.heap.size ≤ w2.heap.size) := Lib.hid (Nat.le_trans HK1.out.size HK2.out.size)
  have HWP : Hid (W.heap.size ≤ p2) := Lib.hid (Nat.le_trans HK1.out.size HP2.out)
  have HKW : Hid (Ok W (w3.setCell ⟨p2, 0, none⟩ (.slice A3 n c3))) := Lib.hid (Below.setCell (Ok.trans (Ok.trans HK1.out HK2.out) HK3.out) HWP.out _)
  have HTF : Hid (TabAt p2 A3 n c3 l (w3.setCell ⟨p2, 0, none⟩ (.slice A3 n c3))) := Lib.hid (by
    have t1 := (HT2.out.ok HK3.out).c1
    have tf := (HT2.out.ok HK3.out).f
    refine ⟨by go_simp, by go_simp, fun k => by rw [World.frozen?_setCell]; exact tf k, ((HO3.out.far HL2.out 0 _).mono (Nat.zero_le _)), fun a e => ?_⟩
    have h1 := (HO3.out.2.lt a.block (by rw [e]; rfl)).1
    have h2 := HL2.out
    omega)
  have HFR : Hid (∀ a, A3 = some a → W.heap.size ≤ a.block) := Lib.hid fun a e => Nat.le_trans HW2.out (HO3.out.2.lt a.block (by rw [e]; rfl)).1
  go_wp2_with fail
  go_ret
  exact ⟨p2, A3, c3, rfl, HTF.out, HWP.out, HFR.out, HKW.out⟩
theorem laid_uniq {l xs l1 l2 : List Rw} (hr : Rises l) (h1 : LaidAll l xs l1) (h2 : LaidAll l xs l2) : l1 = l2 :=
  rises_ext l1 l2 (h1.spec hr).1 (h2.spec hr).1 fun x => (h1.mem hr x).trans (h2.mem hr x).symm
/-- What Put tells, and what rows it leaves. -/
def PutRel (l xs : List Rw) (k : Int) (l' : List Rw) : Prop :=
  (allR xs = false ∧ k = 2 ∧ l' = l) ∨ (allR xs = true ∧ ∃ l2, LaidAll l xs l2 ∧ ((400 < l2.length ∧ k = 8 ∧ l' = l) ∨ (l2.length ≤ 400 ∧ k = 0 ∧ l' = l2)))
theorem PutRel.uniq {l xs l1 l2 : List Rw} {k1 k2 : Int} (hr : Rises l) (h1 : PutRel l xs k1 l1) (h2 : PutRel l xs k2 l2) : k1 = k2 ∧ l1 = l2 := by
  rcases h1 with ⟨a, rfl, rfl⟩ | ⟨a, m1, b1, c1⟩
  · rcases h2 with ⟨_, rfl, rfl⟩ | ⟨a2, _⟩
    · exact ⟨rfl, rfl⟩
    · rw [a] at a2; cases a2
  · rcases h2 with ⟨a2, _⟩ | ⟨_, m2, b2, c2⟩
    · rw [a] at a2; cases a2
    · obtain rfl := laid_uniq hr b1 b2
      rcases c1 with ⟨d1, rfl, rfl⟩ | ⟨d1, rfl, rfl⟩ <;> rcases c2 with ⟨d2, rfl, rfl⟩ | ⟨d2, rfl, rfl⟩
      · exact ⟨rfl, rfl⟩
      · omega
      · omega
      · exact ⟨rfl, rfl⟩
theorem k2_ok {p : Nat} {W w : World} (h : Ok W w) : K2 p none W w := ⟨h.os, h.tape, h.output, h.size, fun k hk _ _ => h.block k hk⟩
theorem k2_grown {p : Nat} {W w : World} (h : W.grownBy w (some p)) : K2 p none W w := ⟨h.os, h.tape, h.output, h.size, fun k hk hp _ => h.block k hk (fun e => hp (by simpa using e))⟩
def PutT (p : Nat) (A : Option Addr) (l xs : List Rw) (W : World) (e : Ending) (w' : World) : Prop := ∃ k l' A' c', e = .returned (.int .i64 k) ∧ PutRel l xs k l' ∧ TabAt p A' l'.length c' l' w' ∧ (A' = A ∨ ∀ a, A' = some a → W.heap.size ≤ a.block) ∧ K2 p none W w'
theorem put_tt (p : Nat) (A : Option Addr) (c : Nat) (l : List Rw) (B : Option Addr) (m d : Nat) (xs : List Rw) (W : World) (h : TabAt p A l.length c l W) (hn : l.length ≤ 400) (hr : Rises l) (hm : xs.length = m) (hm6 : m ≤ 2000) (hx : RowsIn W B xs) :
    Calls Tryz.prog 18 #[.pointer (some ⟨p, 0, none⟩), .slice B m d] W (PutT p A l xs W) := by
  refine (put_fR p A l.length c l B m d xs W h (by omega) hr hm hm6 hx).mono fun e w' hh => ?_
  rcases hh with ⟨h1, he, ho⟩ | ⟨h1, l', hl, ⟨h2, he, ho⟩ | ⟨h2, he, ⟨A', c', ht, ha⟩, hg⟩⟩
  · exact ⟨2, l, A, c, he, .inl ⟨h1, rfl, rfl⟩, h.ok ho, .inl rfl, k2_ok ho⟩
  · exact ⟨8, l, A, c, he, .inr ⟨h1, l', hl, .inl ⟨h2, rfl, rfl⟩⟩, h.ok ho, .inl rfl, k2_ok ho⟩
  · exact ⟨0, l', A', c', he, .inr ⟨h1, l', hl, .inr ⟨h2, rfl, rfl⟩⟩, ht, .inr ha, k2_grown hg⟩
def PutD (m : Nat) (A : Option Addr) (l xs : List Rw) (W : World) (e : Ending) (w' : World) : Prop := ∃ k l' A' n' c', e = .returned (.int .i64 k) ∧ PutRel l xs k l' ∧ RfA m A' n' c' l' w' ∧ (A' = A ∨ ∀ a, A' = some a → W.heap.size ≤ a.block ∧ a.block < w'.heap.size) ∧ K2 m none W w'
theorem put_dd (m : Nat) (A : Option Addr) (n c : Nat) (l : List Rw) (B : Option Addr) (q d : Nat) (xs : List Rw) (W : World) (h : RfA m A n c l W) (hn : n ≤ 400) (hr : Rises l) (hq : xs.length = q) (hq6 : q ≤ 2000) (hx : RowsIn W B xs) :
    Calls Tryz.prog 19 #[.pointer (some ⟨m, 0, none⟩), .slice B q d] W (PutD m A l xs W) := by
  refine (rPut_f m A n c l B q d xs W h (by omega) hr hq hq6 hx).mono fun e w' hh => ?_
  rcases hh with ⟨h1, he, ho⟩ | ⟨h1, l', hl, ⟨h2, he, ho⟩ | ⟨h2, he, ⟨A', n', c', ht, ha, _⟩, hg⟩⟩
  · exact ⟨2, l, A, n, c, he, .inl ⟨h1, rfl, rfl⟩, h.ok ho, .inl rfl, k2_ok ho⟩
  · exact ⟨8, l, A, n, c, he, .inr ⟨h1, l', hl, .inl ⟨h2, rfl, rfl⟩⟩, h.ok ho, .inl rfl, k2_ok ho⟩
  · exact ⟨0, l', A', n', c', he, .inr ⟨h1, l', hl, .inr ⟨h2, rfl, rfl⟩⟩, ht, ha, hg⟩
end Go.Proofs.YtebhcadolnjplaaGreat
