/- Disks side by side: each has blocks of its own. -/
import Derived.Test.YtfchjdhjbepocaaNk
namespace Go.Proofs.Ytfchjdhjbepocaa
open Go Go.RowKit

def Apart (X Y : Nat → Prop) : Prop := ∀ b, X b → ¬ Y b
theorem Apart.symm {X Y : Nat → Prop} (h : Apart X Y) : Apart Y X := fun b hy hx => h b hx hy
def Bel (X : Nat → Prop) (w : World) : Prop := ∀ b, X b → b < w.heap.size
theorem Bel.kp {X S : Nat → Prop} {w w' : World} (h : Bel X w) (k : Kp S w w') : Bel X w' := fun b hb => Nat.lt_of_lt_of_le (h b hb) k.size
theorem Bel.ok {X : Nat → Prop} {w w' : World} (h : Bel X w) (k : Ok w w') : Bel X w' := fun b hb => Nat.lt_of_lt_of_le (h b hb) k.size
/-- Behind a change of Y's blocks Y has new ones. -/
def Nw (Y : Nat → Prop) (w w' : World) : Nat → Prop := fun b => Y b ∨ (w.heap.size ≤ b ∧ b < w'.heap.size)
theorem Apart.nw {X Y : Nat → Prop} {w w' : World} (h : Apart X Y) (hx : Bel X w) : Apart X (Nw Y w w') := fun b hb q => by
  rcases q with q | q
  · exact h b hb q
  · have := hx b hb; omega
def Ab (w w' : World) : Nat → Prop := fun b => w.heap.size ≤ b ∧ b < w'.heap.size
theorem Apart.ab {X : Nat → Prop} {w w' : World} (hx : Bel X w) : Apart X (Ab w w') := fun b hb q => by have := hx b hb; unfold Ab at q; omega
theorem Bel.ab (w w' : World) : Bel (Ab w w') w' := fun _ h => h.2
/-- A disk at p, its blocks among B's. -/
def DkB (p : Nat) (D : Dk) (B : Nat → Prop) (w : World) : Prop := (∃ pv mb vs, DkAt p D pv mb vs w ∧ ∀ b, Blk p pv mb vs b → B b) ∧ Bel B w
theorem DkB.bel {p : Nat} {D : Dk} {B : Nat → Prop} {w : World} (h : DkB p D B w) : Bel B w := h.2
theorem DkB.inv {p : Nat} {D : Dk} {B : Nat → Prop} {w : World} (h : DkB p D B w) : D.Inv := by
  obtain ⟨⟨pv, mb, vs, h, _⟩, _⟩ := h
  exact h.inv
theorem DkB.ok {p : Nat} {D : Dk} {B : Nat → Prop} {w w' : World} (h : DkB p D B w) (k : Ok w w') : DkB p D B w' := by
  obtain ⟨⟨pv, mb, vs, h, hb⟩, hl⟩ := h
  exact ⟨⟨pv, mb, vs, h.ok k, hb⟩, hl.ok k⟩
theorem DkB.kp {p : Nat} {D : Dk} {B S : Nat → Prop} {w w' : World} (h : DkB p D B w) (k : Kp S w w') (ha : Apart B S) : DkB p D B w' := by
  obtain ⟨⟨pv, mb, vs, h, hb⟩, hl⟩ := h
  exact ⟨⟨pv, mb, vs, h.kept fun b q => k.block b (h.lt q) (ha b (hb b q)), hb⟩, hl.kp k⟩
/-- Files in a map, their blocks among B's. -/
def FB (fm : Nat) (vf : Tb Sl) (T : Tb (List B8)) (B : Nat → Prop) (w : World) : Prop := (FM fm vf T w ∧ ∀ b, FBlk fm vf b → B b) ∧ Bel B w
theorem FB.ok {fm : Nat} {vf : Tb Sl} {T : Tb (List B8)} {B : Nat → Prop} {w w' : World} (h : FB fm vf T B w) (k : Ok w w') : FB fm vf T B w' := ⟨⟨h.1.1.ok k, h.1.2⟩, h.2.ok k⟩
theorem FB.kp {fm : Nat} {vf : Tb Sl} {T : Tb (List B8)} {B S : Nat → Prop} {w w' : World} (h : FB fm vf T B w) (k : Kp S w w') (ha : Apart B S) : FB fm vf T B w' :=
  ⟨⟨h.1.1.kept fun b q => k.block b (h.1.1.lt q) (ha b (h.1.2 b q)), h.1.2⟩, h.2.kp k⟩
def CrashB (p : Nat) (D' : Dk) (B : Nat → Prop) (W : World) (e : Ending) (w' : World) : Prop := e = .returned (.tuple #[]) ∧ DkB p D' (Nw B W w') w' ∧ Kp B W w'
theorem crash_b {p : Nat} {D : Dk} {B : Nat → Prop} {W : World} (h : DkB p D B W) (hs : Small D) (keep : Int) (hk1 : -9223372036854775808 ≤ keep) (hk2 : keep ≤ 9223372036854775807) :
    Calls Try.prog 23 #[.pointer (some ⟨p, 0, none⟩), .int .i64 keep] W (CrashB p (D.crash keep) B W) := by
  obtain ⟨⟨pv, mb, vs, h, hb⟩, hl⟩ := h
  refine (crash_f p D pv mb vs keep W h hs hk1 hk2).mono ?_
  rintro _ w' ⟨rfl, pv', vs', h1, h2, h3⟩
  refine ⟨rfl, ⟨⟨pv', mb, vs', h1, fun b q => ?_⟩, fun b q => ?_⟩, h3.mono fun b _ q => hb b q⟩
  · rcases h2 b q with r | r
    · exact .inl (hb b r)
    · exact .inr ⟨r, h1.lt q⟩
  · rcases q with q | q
    · exact Nat.lt_of_lt_of_le (hl b q) h3.size
    · exact q.2
def SyncB (p : Nat) (D : Dk) (l : List Str) (B : Nat → Prop) (W : World) (e : Ending) (w' : World) : Prop := e = .returned (.int .i64 (errOf (D.syncs l).2)) ∧ DkB p (D.syncs l).1 (Nw B W w') w' ∧ Kp B W w'
theorem sync_b {p : Nat} {D : Dk} {B : Nat → Prop} {W : World} (h : DkB p D B W) (A : Option Addr) (c : Nat) (l : List Str) (hs : D.ps.length ≤ 1000000) (hn6 : l.length ≤ 1000000) (ht : TxIn B W A l) :
    Calls Try.prog 28 #[.pointer (some ⟨p, 0, none⟩), .slice A l.length c] W (SyncB p D l B W) := by
  obtain ⟨⟨pv, mb, vs, h, hb⟩, hl⟩ := h
  refine (sync_f p D pv mb vs A l.length c l W h hs rfl hn6 (ht.mono fun b q => hb b (q.elim .inl fun q => .inr (.inr (.inl q))))).mono ?_
  intro e w' hap
  obtain ⟨rfl, pv', vs', h1, h2, h3⟩ := hap.app
  refine ⟨rfl, ⟨⟨pv', mb, vs', h1, fun b q => ?_⟩, fun b q => ?_⟩, h3.mono fun b _ q => hb b q⟩
  · rcases h2 b q with r | r
    · exact .inl (hb b r)
    · exact .inr ⟨r, h1.lt q⟩
  · rcases q with q | q
    · exact Nat.lt_of_lt_of_le (hl b q) h3.size
    · exact q.2
def CopyB (D : Dk) (W : World) (e : Ending) (w' : World) : Prop := ∃ (q : Nat) (D' : Dk), e = .returned (.pointer (some ⟨q, 0, none⟩)) ∧ DkB q D' (Ab W w') w' ∧ Like D D' ∧ Ok W w'
theorem copy_b {p : Nat} {D : Dk} {B : Nat → Prop} {W : World} (h : DkB p D B W) (hs : Small D) : Calls Try.prog 13 #[.pointer (some ⟨p, 0, none⟩)] W (CopyB D W) := by
  obtain ⟨⟨pv, mb, vs, h, hb⟩, hl⟩ := h
  refine (copy_f p D pv mb vs W h hs).mono ?_
  rintro _ w' ⟨q, D', pvc, mbc, vsc, rfl, h1, h2, h3, h4, h5, h6⟩
  exact ⟨q, D', rfl, ⟨⟨pvc, mbc, vsc, h1, fun b r => ⟨h5 b r, h1.lt r⟩⟩, Bel.ab W w'⟩, ⟨h2, h3, h4⟩, h6⟩
def FilesB (D : Dk) (W : World) (e : Ending) (w' : World) : Prop := ∃ (fm : Nat) (vf : Tb Sl) (T : Tb (List B8)), e = .returned (.map (some fm)) ∧ FB fm vf T (Ab W w') w' ∧ T.Perm D.fs ∧ Ok W w'
theorem files_b {p : Nat} {D : Dk} {B : Nat → Prop} {W : World} (h : DkB p D B W) (hs : Small D) (hf : Few D) : Calls Try.prog 33 #[.pointer (some ⟨p, 0, none⟩)] W (FilesB D W) := by
  obtain ⟨⟨pv, mb, vs, h, hb⟩, hl⟩ := h
  refine (files_f p D pv mb vs W h hs hf).mono ?_
  rintro _ w' ⟨fm, vf, T, rfl, h1, h2, h3, h4⟩
  exact ⟨fm, vf, T, rfl, ⟨⟨h1, fun b r => ⟨h3 b r, h1.lt r⟩⟩, Bel.ab W w'⟩, h2, h4⟩
theorem waits_b {p : Nat} {D : Dk} {B : Nat → Prop} {W : World} (h : DkB p D B W) (hs : Small D) : Calls Try.prog 26 #[.pointer (some ⟨p, 0, none⟩)] W (Ret W (.int .i64 (many D.ps : Int))) := by
  obtain ⟨⟨pv, mb, vs, h, hb⟩, hl⟩ := h
  exact waits_f p D pv mb vs W h hs
theorem total_b {p : Nat} {D : Dk} {B : Nat → Prop} {W : World} (h : DkB p D B W) (hs : Small D) (hf : Few D) : Calls Try.prog 32 #[.pointer (some ⟨p, 0, none⟩)] W (Ret W (.int .i64 (used D.fs : Int))) := by
  obtain ⟨⟨pv, mb, vs, h, hb⟩, hl⟩ := h
  exact total_f p D pv mb vs W h hs hf
def NamesB (D : Dk) (W : World) (e : Ending) (w' : World) : Prop := ∃ (A : Option Addr) (c : Nat) (l : List Str), e = .returned (.slice A l.length c) ∧ l.Perm (D.fs.map Prod.fst) ∧ (∀ S, Bel S W → TxIn S w' A l) ∧ Ok W w'
theorem names_b {p : Nat} {D : Dk} {B : Nat → Prop} {W : World} (h : DkB p D B W) (hf : Few D) : Calls Try.prog 25 #[.pointer (some ⟨p, 0, none⟩)] W (NamesB D W) := by
  obtain ⟨⟨pv, mb, vs, h, hb⟩, hl⟩ := h
  refine (names_f p D pv mb vs W h hf).mono ?_
  rintro _ w' ⟨A, c, l, rfl, h1, h2, h3⟩
  refine ⟨A, c, l, rfl, h1, fun S hS j hj => ?_, h3⟩
  rcases h2 with e | ⟨g, e1, e2, e3⟩
  · rw [e] at hj; simp at hj
  · exact ⟨g, 0, e1, fun q => by have := hS g q; omega, by rw [Nat.zero_add]; exact e3 j hj⟩
def ActB (p : Nat) (B : Nat → Prop) (R : Dk × Int) (W : World) (e : Ending) (w' : World) : Prop := e = .returned (.int .i64 R.2) ∧ DkB p R.1 (Nw B W w') w' ∧ Kp B W w'
theorem act_b {p : Nat} {D : Dk} {B : Nat → Prop} {W : World} (h : DkB p D B W) (d : Deed) (A2 : Option Addr) (c2 : Nat) (A4 : Option Addr) (c4 : Nat) (hs : Small D) (hl : D.ps.length + 1 ≤ 1000000)
    (hns : TxIn B W A2 d.names) (hps : PtIn B W A4 d.parts) (hw : wtD d ≤ 20000) (hk1 : -9223372036854775808 ≤ d.num) (hk2 : d.num ≤ 9223372036854775807) :
    Calls Try.prog 17 #[.pointer (some ⟨p, 0, none⟩), .agg (dvals d A2 c2 A4 c4)] W (ActB p B (D.actR (pickI d.kind 8) d) W) := by
  obtain ⟨⟨pv, mb, vs, h, hb⟩, hlt⟩ := h
  refine (act_f p D pv mb vs d A2 c2 A4 c4 W h hs hl (hns.mono hb) (hps.mono hb) hw hk1 hk2).mono ?_
  rintro _ w' ⟨rfl, pv', vs', h1, h2, h3⟩
  refine ⟨rfl, ⟨⟨pv', mb, vs', h1, fun b q => ?_⟩, fun b q => ?_⟩, h3.mono fun b _ q => hb b q⟩
  · rcases h2 b q with r | r
    · exact .inl (hb b r)
    · exact .inr ⟨r, h1.lt q⟩
  · rcases q with q | q
    · exact Nat.lt_of_lt_of_le (hlt b q) h3.size
    · exact q.2
def NewB (size : Int) (W : World) (e : Ending) (w' : World) : Prop := ∃ p, e = .returned (.pointer (some ⟨p, 0, none⟩)) ∧ DkB p (fresh0 size) (Ab W w') w' ∧ Ok W w'
theorem new_b (size : Int) (W : World) : Calls Try.prog 11 #[.int .i64 size] W (NewB size W) := by
  refine (new_f size W).mono ?_
  rintro _ w' ⟨p, mb, rfl, h1, h2, h3, h4⟩
  refine ⟨p, rfl, ⟨⟨sl0, mb, [], h1, fun b q => ⟨?_, h1.lt q⟩⟩, Bel.ab W w'⟩, h2⟩
  rcases q with e | e | e | ⟨x, hx, _⟩
  · omega
  · omega
  · cases e
  · cases hx
theorem wts_le (l : List Deed) (k : Nat) : wts (l.take k) ≤ wts l := by
  have : wts l = wts (l.take k) + wts (l.drop k) := by unfold wts; rw [← List.sum_append, ← List.map_append, List.take_append_drop]
  omega
end Go.Proofs.Ytfchjdhjbepocaa
