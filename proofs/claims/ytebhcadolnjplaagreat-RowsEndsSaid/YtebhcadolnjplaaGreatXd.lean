/- Rows: the example. -/
import Derived.Test.YtebhcadolnjplaaGreatXc
namespace Go.Proofs.YtebhcadolnjplaaGreat
open Go.RowKit

/-- Nothing old has changed but the block p and that of r. -/
structure K2 (p : Nat) (r : Option Nat) (w w' : World) : Prop where
  os : w'.os = w.os
  tape : w'.tape = w.tape
  output : w'.output = w.output
  size : w.heap.size ≤ w'.heap.size
  block : ∀ k, k < w.heap.size → k ≠ p → some k ≠ r → w'.heap[k]? = w.heap[k]?
theorem OwnR.k2 {p : Nat} {r : Option Nat} {w w' : World} {B : Nat} {A : Option Addr} {n c : Nat} {l : List Rw} (h : OwnR w B A n c l) (k : K2 p r w w') (hp : ∀ a, A = some a → a.block ≠ p ∧ some a.block ≠ r) : OwnR w' B A n c l :=
  ⟨h.1, h.2.1, by
    rcases h.2.2 with q | ⟨g, cap, cur, e1, e2, e3, e4⟩
    · exact .inl q
    · simp only [Value.slice.injEq] at e1
      obtain ⟨h1, h2⟩ := hp _ e1.1
      exact .inr ⟨g, cap, cur, by rw [e1.1, e1.2.2], e2, by rw [k.block g (Array.getElem?_eq_some_iff.1 e3).1 h1 h2]; exact e3, e4⟩⟩
def DropP (s : Sp) (p : Nat) (A : Option Addr) (n c : Nat) (l : List Rw) (W : World) (e : Ending) (w' : World) : Prop :=
  e = .returned (.tuple #[]) ∧ TabAt p A (stay s l).length c (stay s l) w' ∧ K2 p (Value.slice A n c).ownBlock W w'
set_option maxRecDepth 100000 in
theorem drop_f (s : Sp) (z p : Nat) (A : Option Addr) (n c : Nat) (l : List Rw) (W : World) (h : TabAt p A n c l W) (hn : n ≤ 1000) (z0 : W.cell? ⟨z, 0, none⟩ = some (.string s.lo)) (z1 : W.cell? ⟨z, 1, none⟩ = some (.string s.hi)) (hz : ∀ a, A = some a → z ≠ a.block) :
    Calls Tryz.prog 50 #[.pointer (some ⟨p, 0, none⟩), .func (.func 79) #[] #[.pointer (some ⟨z, 0, none⟩)]] W (DropP s p A n c l W) := by
  have c0 := h.c0
  have hd := delR_f s z 0 A n c l W h.own (Nat.le_trans hn (by decide)) z0 z1 hz
  have HT := Lib.hid h
  have HPO : Hid (some p ≠ (Value.slice A n c).ownBlock) := Lib.hid (fun e => by
    cases A with
    | none => cases e
    | some a => simp only [Value.ownBlock, Option.some.injEq] at e; exact h.ne a rfl e.symm)
  clear h hn z0 z1 hz
  go_enter Tryz.func50, Tryz.ntmps50
  go_wp2_with fail
  refine hd.mono ?_
  clear hd
  rintro _ w1 ⟨rfl, hown, hg⟩
  have HOWN := Lib.hid hown
  have HG := Lib.hid hg
  clear hown hg
  have d0 := HG.out.cell c0 HPO.out
  have HC1 : Hid (w1.cell? ⟨p, 1, none⟩ = some (.bool true)) := Lib.hid (HG.out.cell HT.out.c1 HPO.out)
  have HF : Hid (∀ j, w1.frozen? ⟨p, j, none⟩ = false) := Lib.hid (fun j => by
    rw [World.frozen?_of_block (w := W) (HG.out.block p HT.out.lt HPO.out)]; exact HT.out.f j)
  have f0 := HF.out 0
  clear c0
  go_wp2_with fail
  refine bodyPost_end (v := .tuple #[]) (by simp [results, Tryz.results50, go_sem]; try rfl) rfl ?_
  refine ⟨rfl, ⟨World.cell?_setCell_same _ _ _ d0, ?_, ?_, ?_, HT.out.ne⟩, ⟨HG.out.os, HG.out.tape, HG.out.output, by simp only [World.size_setCell]; exact HG.out.size, fun j hj h1 h2 => ?_⟩⟩
  · rw [World.cell?_setCell_other _ _ _ _ (fun e => by simp at e)]; exact HC1.out
  · intro j
    rw [World.frozen?_setCell]; exact HF.out j
  · refine ⟨HOWN.out.1, HOWN.out.2.1, ?_⟩
    rcases HOWN.out.2.2 with q | ⟨g, cap, cur, e1, e2, e3, e4⟩
    · exact .inl q
    · have hgp : g ≠ p := by
        simp only [Value.slice.injEq] at e1
        exact HT.out.ne _ e1.1
      exact .inr ⟨g, cap, cur, e1, e2, by rw [Below.heap_setCell _ ⟨p, 0, none⟩ _ g hgp]; exact e3, e4⟩
  · rw [Below.heap_setCell _ ⟨p, 0, none⟩ _ j h1]; exact HG.out.block j hj h2
end Go.Proofs.YtebhcadolnjplaaGreat
namespace Go.Proofs.YtebhcadolnjplaaGreat
open Go.RowKit

def TakeRP (s : Sp) (p : Nat) (A : Option Addr) (n c : Nat) (l : List Rw) (W : World) (e : Ending) (w' : World) : Prop :=
  ∃ A2 n2 c2, e = .returned (.slice A2 n2 c2) ∧ OwnR w' W.heap.size A2 n2 c2 (meant s l) ∧ TabAt p A (stay s l).length c (stay s l) w' ∧ K2 p (Value.slice A n c).ownBlock W w'
set_option maxRecDepth 100000 in
set_option maxHeartbeats 4000000 in
theorem takeR_f (p : Nat) (A : Option Addr) (n c : Nat) (l : List Rw) (s : Sp) (W : World) (h : TabAt p A n c l W) (hn : n ≤ 1000) :
    Calls Tryz.prog 21 #[.pointer (some ⟨p, 0, none⟩), spV s] W (TakeRP s p A n c l W) := by
  obtain ⟨y, hy⟩ : ∃ y, W.heap.size = y := ⟨_, rfl⟩
  have HYC : Hid ((W.alloc (.cells #[.string s.lo, .string s.hi] 36)).cell? ⟨y, 0, none⟩ = some (.string s.lo) ∧ (W.alloc (.cells #[.string s.lo, .string s.hi] 36)).cell? ⟨y, 1, none⟩ = some (.string s.hi)) := Lib.hid (by rw [← hy]; exact two_new W _ _ _)
  have HO0 : Hid (Ok W (W.alloc (.cells #[.string s.lo, .string s.hi] 36))) := Lib.hid ((Ok.refl W).alloc _)
  have HT := Lib.hid h
  have HN := Lib.hid hn
  clear h hn
  unfold spV
  go_enter Tryz.func21, Tryz.ntmps21
  go_upto_region 1 with fail
  clear hy
  generalize W.alloc (.cells #[.string s.lo, .string s.hi] 36) = w0 at *
  have hno := none85 p w0 (HO0.out.cell HT.out.c1)
  go_wp2_with fail
  refine hno.mono ?_
  clear hno
  rintro _ w1 ⟨rfl, o1⟩
  have HO1 : Hid (Ok W w1) := Lib.hid (HO0.out.trans o1)
  have HY1 : Hid (w1.cell? ⟨y, 0, none⟩ = some (.string s.lo) ∧ w1.cell? ⟨y, 1, none⟩ = some (.string s.hi)) := Lib.hid ⟨o1.cell HYC.out.1, o1.cell HYC.out.2⟩
  have y0 := HY1.out.1
  have y1 := HY1.out.2
  clear o1 HYC HO0
  go_upto_region 3 with fail
  rename_i K0 hK0
  have HK0 := Lib.hid hK0
  clear hK0
  refine Until.begin (S := fun V => V.cell? ⟨y, 0, none⟩ = some (.string s.lo) ∧ V.cell? ⟨y, 1, none⟩ = some (.string s.hi)) (j := 4) (by kernel_rfl) ?_ ?_
  · exact ⟨(Ok.refl w1).drew.cell y0, (Ok.refl w1).drew.cell y1⟩
  intro hS
  have HD : Hid (Ok w1 w1.drew) := Lib.hid ((Ok.refl w1).drew)
  generalize w1.drew = V0 at *
  clear y0 y1
  refine Until.take0 (i := 0) (v := ?v0) rfl (by kernel_rfl) (by kernel_rfl) (by kernel_rfl) (by kernel_rfl) (fun _ _ _ h => h) (Or.inl ⟨by rfl, ?hy0⟩) (fun _ => hS) ?rest0
  case hy0 => ((intro w hSw); clear hSw; go_simp; (try with_reducible rfl))
  try go_frame
  refine Until.take0 (i := 1) (v := ?v1) rfl (by kernel_rfl) (by kernel_rfl) (by kernel_rfl) (by kernel_rfl) (fun _ _ _ h => h) (Or.inl ⟨by rfl, ?hy1⟩) (fun _ => hS) ?rest1
  case hy1 => ((intro w hSw); clear hSw; go_simp; (try with_reducible rfl))
  try go_frame
  refine Until.take0 (i := 2) (v := ?v2) rfl (by kernel_rfl) (by kernel_rfl) (by kernel_rfl) (by kernel_rfl) (fun _ _ _ h => h) (Or.inl ⟨by rfl, ?hy2⟩) (fun _ => hS) ?rest2
  case hy2 => ((intro w hSw); clear hSw; go_simp; (try with_reducible rfl))
  try go_frame
  refine Until.take (i := 3) (v := ?v3) rfl (by kernel_rfl) (by kernel_rfl) (by kernel_rfl) (by kernel_rfl) (fun _ _ _ h => h) (Or.inl ⟨by rfl, ?hy3⟩) hS ?rest3
  case hy3 => ((intro w hSw; (try dsimp only at hSw)); obtain ⟨s0, s1⟩ := hSw; go_simp; (try with_reducible rfl))
  try go_frame
  refine Until.one (i := 4) (by kernel_rfl) rfl (fun K hK => ?_)
  have HK := Lib.hid hK
  clear hK
  go_simp
  refine ((show Calls Tryz.prog 35 #[.agg #[.string s.lo, .string s.hi]] V0 (InP s V0) from in_f s V0)).mono ?_
  rintro _ V1 ⟨z, rfl, z0, z1, o1, zge⟩
  have HZ0 := Lib.hid z0
  have HZ1 := Lib.hid z1
  have HV1 : Hid (Ok w1 V1) := Lib.hid (HD.out.trans o1)
  have HZG := Lib.hid zge
  clear z0 z1 o1 zge
  refine HK.out.out _ _ (fun h => absurd (h.symm.trans (by kernel_rfl : _ = true)) Bool.false_ne_true) (fun _ => ?_)
  clear HK K
  try go_frame
  refine Until.one (i := 5) (by kernel_rfl) rfl (fun K hK => ?_)
  have HK := Lib.hid hK
  clear hK
  go_simp
  refine (each_f p A n c l s z V1 (HT.out.ok (HO1.out.trans HV1.out)) HN.out HZ0.out HZ1.out).mono ?_
  rintro _ V2 ⟨A2, n2, c2, rfl, hown, o2⟩
  have HOWN := Lib.hid hown
  have HO2B : Hid (Ok V1 V2) := Lib.hid o2
  have HOWB : Hid (OwnR V2 W.heap.size A2 n2 c2 (meant s l)) := Lib.hid ⟨hown.1, ownsRow_base hown.2 (HO1.out.trans HV1.out).size⟩
  have HO2 : Hid (Ok W V2) := Lib.hid ((HO1.out.trans HV1.out).trans o2)
  clear hown o2
  refine HK.out.out _ _ (fun h => absurd (h.symm.trans (by kernel_rfl : _ = true)) Bool.false_ne_true) (fun _ => ?_)
  clear HK K
  try go_frame
  refine Until.one (i := 6) (by kernel_rfl) rfl (fun K hK => ?_)
  have HK := Lib.hid hK
  clear hK
  go_simp
  refine HK.out.out _ _ (fun h => absurd (h.symm.trans (by kernel_rfl : _ = true)) Bool.false_ne_true) (fun _ => ?_)
  clear HK K
  try go_frame
  refine Until.done (by kernel_rfl) ?_ _
  refine HK0.out _ _ ?_
  clear HK0
  have HYY : Hid (V2.cell? ⟨y, 0, none⟩ = some (.string s.lo) ∧ V2.cell? ⟨y, 1, none⟩ = some (.string s.hi)) := Lib.hid (by
    have b : Ok w1 V2 := HV1.out.trans HO2B.out
    exact ⟨b.cell HY1.out.1, b.cell HY1.out.2⟩)
  have y0 := HYY.out.1
  have y1 := HYY.out.2
  clear HV1 HD HZ0 HZ1 HZG
  go_upto_region 4 with fail
  rename_i K1 hK1
  have HK1x := Lib.hid hK1
  clear hK1
  refine Until.begin (S := fun V => V.cell? ⟨y, 0, none⟩ = some (.string s.lo) ∧ V.cell? ⟨y, 1, none⟩ = some (.string s.hi)) (j := 4) (by kernel_rfl) ?_ ?_
  · exact ⟨(Ok.refl V2).drew.cell y0, (Ok.refl V2).drew.cell y1⟩
  intro hS
  have HE : Hid (Ok V2 V2.drew) := Lib.hid ((Ok.refl V2).drew)
  generalize V2.drew = U0 at *
  clear y0 y1
  refine Until.take0 (i := 0) (v := ?uv0) rfl (by kernel_rfl) (by kernel_rfl) (by kernel_rfl) (by kernel_rfl) (fun _ _ _ h => h) (Or.inl ⟨by rfl, ?ihy0⟩) (fun _ => hS) ?irest0
  case ihy0 => ((intro w hSw); clear hSw; go_simp; (try with_reducible rfl))
  try go_frame
  refine Until.take0 (i := 1) (v := ?uv1) rfl (by kernel_rfl) (by kernel_rfl) (by kernel_rfl) (by kernel_rfl) (fun _ _ _ h => h) (Or.inl ⟨by rfl, ?ihy1⟩) (fun _ => hS) ?irest1
  case ihy1 => ((intro w hSw); clear hSw; go_simp; (try with_reducible rfl))
  try go_frame
  refine Until.take0 (i := 2) (v := ?uv2) rfl (by kernel_rfl) (by kernel_rfl) (by kernel_rfl) (by kernel_rfl) (fun _ _ _ h => h) (Or.inl ⟨by rfl, ?ihy2⟩) (fun _ => hS) ?irest2
  case ihy2 => ((intro w hSw); clear hSw; go_simp; (try with_reducible rfl))
  try go_frame
  refine Until.take (i := 3) (v := ?uv3) rfl (by kernel_rfl) (by kernel_rfl) (by kernel_rfl) (by kernel_rfl) (fun _ _ _ h => h) (Or.inl ⟨by rfl, ?ihy3⟩) hS ?irest3
  case ihy3 => ((intro w hSw; (try dsimp only at hSw)); obtain ⟨s0, s1⟩ := hSw; go_simp; (try with_reducible rfl))
  try go_frame
  refine Until.one (i := 4) (by kernel_rfl) rfl (fun K hK => ?_)
  have HK := Lib.hid hK
  clear hK
  go_simp
  refine ((show Calls Tryz.prog 35 #[.agg #[.string s.lo, .string s.hi]] U0 (InP s U0) from in_f s U0)).mono ?_
  rintro _ V3 ⟨x, rfl, z0, z1, o1, zge⟩
  have HX0 := Lib.hid z0
  have HX1 := Lib.hid z1
  have HV3 : Hid (Ok V2 V3) := Lib.hid (HE.out.trans o1)
  have HZNE : Hid (∀ a, A = some a → x ≠ a.block) := Lib.hid (fun a e => by have := (HT.out.own.2.lt a.block (by rw [e]; rfl)).2; have := (HO2.out.trans HE.out).size; omega)
  clear z0 z1 o1 zge
  refine HK.out.out _ _ (fun h => absurd (h.symm.trans (by kernel_rfl : _ = true)) Bool.false_ne_true) (fun _ => ?_)
  clear HK K
  try go_frame
  refine Until.one (i := 5) (by kernel_rfl) rfl (fun K hK => ?_)
  have HK := Lib.hid hK
  clear hK
  go_simp
  refine (drop_f s x p A n c l V3 (HT.out.ok (HO2.out.trans HV3.out)) HN.out HX0.out HX1.out HZNE.out).mono ?_
  rintro _ V4 ⟨rfl, htab, hk2⟩
  have HTAB := Lib.hid htab
  have HK2 := Lib.hid hk2
  clear htab hk2
  refine HK.out.out _ _ (fun h => absurd (h.symm.trans (by kernel_rfl : _ = true)) Bool.false_ne_true) (fun _ => ?_)
  clear HK K
  try go_frame
  refine Until.done (by kernel_rfl) ?_ _
  refine HK1x.out _ _ ?_
  clear HK1x
  go_wp2_with fail
  go_ret
  have b3 : Ok W V3 := HO2.out.trans HV3.out
  have hW := HOWB.out
  refine ⟨A2, n2, c2, rfl, ?_, HTAB.out, ⟨HK2.out.os.trans b3.os, HK2.out.tape.trans b3.tape, HK2.out.output.trans b3.output, Nat.le_trans b3.size HK2.out.size, fun j hj h1 h2 => (HK2.out.block j (Nat.lt_of_lt_of_le hj b3.size) h1 h2).trans (b3.block j hj)⟩⟩
  refine (hW.ok HV3.out).k2 HK2.out (fun a e => ?_)
  have h1 := (hW.2.lt a.block (by rw [e]; rfl)).1
  have h2 := HT.out.lt
  refine ⟨by omega, fun q => ?_⟩
  have := (HT.out.own.2.lt a.block q.symm).2
  omega
end Go.Proofs.YtebhcadolnjplaaGreat
namespace Go.Proofs.YtebhcadolnjplaaGreat
open Go.RowKit

theorem LaidAll.inv {l : List Rw} : ∀ {ys l2 : List Rw}, LaidAll l ys l2 → (ys = [] ∧ l2 = l) ∨ ∃ xs l1 r, ys = xs ++ [r] ∧ LaidAll l xs l1 ∧ Laid l1 r l2
  | _, _, .nil => .inl ⟨rfl, rfl⟩
  | _, _, .snoc h1 h2 => .inr ⟨_, _, _, rfl, h1, h2⟩
theorem LaidAll.last {l xs l2 : List Rw} {r : Rw} (h : LaidAll l (xs ++ [r]) l2) : ∃ l1, LaidAll l xs l1 ∧ Laid l1 r l2 := by
  rcases h.inv with ⟨e, _⟩ | ⟨xs', l1, r', e, h1, h2⟩
  · simp at e
  · obtain ⟨rfl, e2⟩ := List.append_inj' e rfl
    simp only [List.cons.injEq, and_true] at e2
    subst e2
    exact ⟨l1, h1, h2⟩
theorem LaidAll.none {l l2 : List Rw} (h : LaidAll l [] l2) : l2 = l := by
  rcases h.inv with ⟨_, e⟩ | ⟨xs', l1, r', e, _, _⟩
  · exact e
  · simp at e
/-- The last of its key. -/
def LastIn (xs : List Rw) (x : Rw) : Prop := ∃ a b, xs = a ++ x :: b ∧ ∀ y, y ∈ b → y.key ≠ x.key
theorem lastIn_snoc (xs : List Rw) (r x : Rw) : LastIn (xs ++ [r]) x ↔ x = r ∨ (LastIn xs x ∧ x.key ≠ r.key) := by
  constructor
  · rintro ⟨a, b, e, h⟩
    rcases List.eq_nil_or_concat b with rfl | ⟨b', y, rfl⟩
    · obtain ⟨-, e2⟩ := List.append_inj' e rfl
      simp only [List.cons.injEq, and_true] at e2
      exact .inl e2.symm
    · rw [List.concat_eq_append] at e h
      rw [show a ++ x :: (b' ++ [y]) = (a ++ x :: b') ++ [y] from by simp] at e
      obtain ⟨e1, e2⟩ := List.append_inj' e rfl
      simp only [List.cons.injEq, and_true] at e2
      subst e2
      exact .inr ⟨⟨a, b', e1, fun y' hy' => h y' (by simp [hy'])⟩, fun q => h r (by simp) q.symm⟩
  · rintro (rfl | ⟨⟨a, b, rfl, h⟩, hn⟩)
    · exact ⟨xs, [], rfl, by simp⟩
    · refine ⟨a, b ++ [r], by simp, fun y hy => ?_⟩
      rcases List.mem_append.1 hy with q | q
      · exact h y q
      · rw [List.mem_singleton.1 q]; exact fun e => hn e.symm
theorem LaidAll.mem {l xs l' : List Rw} (hr : Rises l) (h : LaidAll l xs l') : ∀ x, x ∈ l' ↔ LastIn xs x ∨ (x ∈ l ∧ ∀ y, y ∈ xs → y.key ≠ x.key) := by
  induction h with
  | nil =>
    intro x
    constructor
    · intro hx; exact .inr ⟨hx, by simp⟩
    · rintro (⟨a, b, e, _⟩ | ⟨hx, _⟩)
      · simp at e
      · exact hx
  | snoc h1 h2 ih =>
    intro x
    rw [(h2.spec (h1.spec hr).1).2.1 x, ih x, lastIn_snoc]
    constructor
    · rintro (q | ⟨q | ⟨q1, q2⟩, hn⟩)
      · exact .inl (.inl q)
      · exact .inl (.inr ⟨q, hn⟩)
      · refine .inr ⟨q1, fun y hy => ?_⟩
        rcases List.mem_append.1 hy with z | z
        · exact q2 y z
        · rw [List.mem_singleton.1 z]; exact fun e => hn e.symm
    · rintro ((q | ⟨q, hn⟩) | ⟨q1, q2⟩)
      · exact .inl q
      · exact .inr ⟨.inl q, hn⟩
      · exact .inr ⟨.inr ⟨q1, fun y hy => q2 y (List.mem_append.2 (.inl hy))⟩, fun e => q2 _ (List.mem_append.2 (.inr (List.mem_singleton.2 rfl))) e.symm⟩
/-- The same rows, laid once more, change nothing. -/
theorem laid_again {xs l1 l2 : List Rw} (h1 : LaidAll [] xs l1) (h2 : LaidAll l1 xs l2) : l2 = l1 := by
  have r1 := (h1.spec rises_nil).1
  refine rises_ext _ _ (h2.spec r1).1 r1 (fun x => ?_)
  rw [h2.mem r1 x, h1.mem rises_nil x]
  constructor
  · rintro (q | ⟨q, _⟩)
    · exact .inl q
    · exact q
  · rintro (q | ⟨q, _⟩)
    · exact .inl q
    · cases q
def rb1 : Rw := ⟨⟨#[98]⟩, ⟨#[49]⟩⟩
def ra2 : Rw := ⟨⟨#[97]⟩, ⟨#[50]⟩⟩
def rb3 : Rw := ⟨⟨#[98]⟩, ⟨#[51]⟩⟩
theorem ex_rises : Rises [ra2, rb3] := fun i j hij hj => by
  have hj2 : j < 2 := hj
  have e1 : i = 0 := by omega
  have e2 : j = 1 := by omega
  subst e1; subst e2
  have e : ltB ra2.key rb3.key = true := by kernel_rfl
  exact e
theorem ex_laid {l : List Rw} (h : LaidAll [] [rb1, ra2, rb3] l) : l = [ra2, rb3] := by
  obtain ⟨l2, h2, k3⟩ := LaidAll.last (xs := [rb1, ra2]) h
  obtain ⟨l1, h1, k2⟩ := LaidAll.last (xs := [rb1]) h2
  obtain ⟨l0, h0, k1⟩ := LaidAll.last (xs := []) h1
  obtain rfl := h0.none
  have s1 := k1.spec rises_nil
  have s2 := k2.spec s1.1
  have s3 := k3.spec s2.1
  have n1 : ra2.key ≠ rb3.key := ne_of_lt (by kernel_rfl)
  refine rises_ext _ _ s3.1 ex_rises (fun x => ?_)
  rw [s3.2.1, s2.2.1, s1.2.1]
  constructor
  · rintro (rfl | ⟨rfl | ⟨rfl | ⟨q, _⟩, _⟩, hn⟩)
    · simp
    · simp
    · exact absurd rfl hn
    · cases q
  · intro hx
    rcases List.mem_cons.1 hx with rfl | hx
    · exact .inr ⟨.inl rfl, n1⟩
    · exact .inl (List.mem_singleton.1 hx)
def sAB : Sp := ⟨⟨#[97]⟩, ⟨#[98]⟩⟩
theorem ex_all : meant allS [ra2, rb3] = [ra2, rb3] := by
  have e1 : hasB allS ra2.key = true := by kernel_rfl
  have e2 : hasB allS rb3.key = true := by kernel_rfl
  simp [meant, e1, e2]
theorem ex_ab : meant sAB [ra2, rb3] = [ra2] ∧ stay sAB [ra2, rb3] = [rb3] := by
  have e1 : hasB sAB ra2.key = true := by kernel_rfl
  have e2 : hasB sAB rb3.key = false := by kernel_rfl
  simp [meant, stay, e1, e2]
theorem ex_right : allR [rb1, ra2, rb3] = true := by kernel_rfl
end Go.Proofs.YtebhcadolnjplaaGreat
namespace Go.Proofs.YtebhcadolnjplaaGreat
open Go.RowKit

theorem rowsIn_two (w : World) (b : Nat) (r0 r1 : Rw) (h : w.heap[b]? = some (.cells #[.string r0.key, .string r0.val, .string r1.key, .string r1.val] 48 (0, 0))) : RowsIn w (some ⟨b, 0, none⟩) [r0, r1] := fun j hj => by
  have hj2 : j < 2 := hj
  have : j = 0 ∨ j = 1 := by omega
  rcases this with rfl | rfl <;> exact ⟨b, 0, rfl, by simp [World.cell?, h, rwA], by simp [World.cell?, h, rwA]⟩
theorem rowsIn_three (w : World) (b : Nat) (r0 r1 r2 : Rw) (h : w.heap[b]? = some (.cells #[.string r0.key, .string r0.val, .string r1.key, .string r1.val, .string r2.key, .string r2.val] 48 (0, 0))) : RowsIn w (some ⟨b, 0, none⟩) [r0, r1, r2] := fun j hj => by
  have hj2 : j < 3 := hj
  have : j = 0 ∨ j = 1 ∨ j = 2 := by omega
  rcases this with rfl | rfl | rfl <;> exact ⟨b, 0, rfl, by simp [World.cell?, h, rwA], by simp [World.cell?, h, rwA]⟩
theorem put_ex {p : Nat} {W : World} {e : Ending} {w' : World} (h : PutP p [] [rb1, ra2, rb3] W e w') : e = .returned (.int .i64 0) ∧ (∃ A' c', TabAt p A' 2 c' [ra2, rb3] w' ∧ ∀ a, A' = some a → W.heap.size ≤ a.block) ∧ W.grownBy w' (some p) := by
  rcases h with ⟨e, _⟩ | ⟨_, l', hl, ⟨hbig, _⟩ | ⟨_, e, ⟨A', c', ht, ha⟩, hg⟩⟩
  · rw [ex_right] at e; cases e
  · rw [ex_laid hl] at hbig
    exact absurd hbig (by decide)
  · rw [ex_laid hl] at ht
    exact ⟨e, ⟨A', c', ht, ha⟩, hg⟩
set_option maxRecDepth 100000 in
set_option maxHeartbeats 4000000 in
theorem awake_r (W : World) : Calls Tryz.prog 6 #[] W (Ret W (.bool true)) := by
  have hnew := new44 W
  go_enter Tryz.func6, Tryz.ntmps6
  go_wp2_with fail
  refine hnew.mono ?_
  clear hnew
  rintro _ w1 ⟨p, rfl, hp, hT, o1⟩
  have HT := Lib.hid hT
  have HP := Lib.hid hp
  have HO := Lib.hid o1
  clear hT hp o1
  have HOA : Hid (Ok w1 (w1.alloc (.cells #[.string ⟨#[98]⟩, .string ⟨#[49]⟩, .string ⟨#[97]⟩, .string ⟨#[50]⟩, .string ⟨#[98]⟩, .string ⟨#[51]⟩] 48))) := Lib.hid ((Ok.refl w1).alloc _)
  have hput := put_fR p none 0 0 [] (some ⟨w1.heap.size, 0, none⟩) 3 3 [rb1, ra2, rb3] (w1.alloc (.cells #[.string ⟨#[98]⟩, .string ⟨#[49]⟩, .string ⟨#[97]⟩, .string ⟨#[50]⟩, .string ⟨#[98]⟩, .string ⟨#[51]⟩] 48)) (HT.out.ok HOA.out) (by decide) rises_nil rfl (by decide) (rowsIn_three _ _ _ _ _ (heap_alloc_new w1 _))
  go_wp2_with fail
  refine hput.mono ?_
  clear hput
  rintro _ w2 hpp
  obtain ⟨rfl, ⟨A2, c2, hT2, hA2⟩, hb2⟩ := put_ex hpp
  have HT2 := Lib.hid hT2
  have HA2 : Hid (∀ a, A2 = some a → W.heap.size ≤ a.block) := Lib.hid (fun a e => Nat.le_trans (HO.out.trans HOA.out).size (hA2 a e))
  have HO2 : Hid (Ok W w2) := Lib.hid (Below.grown (HO.out.trans HOA.out) hb2 (HO.out.trans HOA.out).size (fun j e => by cases e; exact HP.out))
  clear hT2 hA2 hb2 hpp HOA HO HT
  have hin := inR_f p A2 2 c2 [ra2, rb3] allS w2 HT2.out (by decide)
  rw [ex_all] at hin
  unfold spV allS at hin
  go_wp2_with fail
  refine hin.mono ?_
  clear hin
  rintro _ w3 ⟨A3, n3, c3, rfl, hown3, o3⟩
  obtain rfl : n3 = 2 := hown3.1.symm
  have HOW3 := Lib.hid hown3
  have HO3 : Hid (Ok w2 w3) := Lib.hid o3
  clear hown3 o3
  have htk := takeR_f p A2 2 c2 [ra2, rb3] sAB w3 (HT2.out.ok HO3.out) (by decide)
  unfold spV sAB at htk
  go_wp2_with fail
  refine htk.mono ?_
  clear htk
  rintro _ w4 ⟨A4, n4, c4, rfl, hown4, hT4, hk4⟩
  rw [show ({ lo := { data := #[97] }, hi := { data := #[98] } } : Sp) = sAB from rfl, ex_ab.1] at hown4
  rw [show ({ lo := { data := #[97] }, hi := { data := #[98] } } : Sp) = sAB from rfl, ex_ab.2] at hT4
  obtain rfl : n4 = 1 := hown4.1.symm
  have HT4 : Hid (TabAt p A2 1 c2 [rb3] w4) := Lib.hid hT4
  have HOW4 := Lib.hid hown4
  have HO4 : Hid (Ok W w4) := Lib.hid (by
    have b := HO2.out.trans HO3.out
    exact ⟨hk4.os.trans b.os, hk4.tape.trans b.tape, hk4.output.trans b.output, Nat.le_trans b.size hk4.size, fun j hj => (hk4.block j (Nat.lt_of_lt_of_le hj b.size) (fun e => by have := HP.out; omega) (fun e => by
      cases A2 with
      | none => cases e
      | some a => simp only [Value.ownBlock, Option.some.injEq] at e; have := HA2.out a rfl; omega)).trans (b.block j hj)⟩)
  have HR3 : Hid (RowsIn w4 A3 [ra2, rb3]) := Lib.hid (OwnR.rows (HOW3.out.k2 hk4 (fun a e => by
    have h1 := (HOW3.out.2.lt a.block (by rw [e]; rfl)).1
    have h2 := HT2.out.lt
    refine ⟨by omega, fun q => ?_⟩
    have := (HT2.out.own.2.lt a.block q.symm).2
    omega)))
  have HR4 : Hid (RowsIn w4 A4 [ra2]) := Lib.hid hown4.rows
  clear hown4 hT4 hk4
  have HX2 : Hid (RowsIn (w4.alloc (.cells #[.string ⟨#[97]⟩, .string ⟨#[50]⟩, .string ⟨#[98]⟩, .string ⟨#[51]⟩] 48)) (some ⟨w4.heap.size, 0, none⟩) [ra2, rb3]) := Lib.hid (rowsIn_two _ _ _ _ (heap_alloc_new w4 _))
  have HOX : Hid (Ok w4 (w4.alloc (.cells #[.string ⟨#[97]⟩, .string ⟨#[50]⟩, .string ⟨#[98]⟩, .string ⟨#[51]⟩] 48))) := Lib.hid ((Ok.refl w4).alloc _)
  have hs1 := same_f A3 (some ⟨w4.heap.size, 0, none⟩) 2 c3 2 [ra2, rb3] rfl (by decide) (w4.alloc (.cells #[.string ⟨#[97]⟩, .string ⟨#[50]⟩, .string ⟨#[98]⟩, .string ⟨#[51]⟩] 48)) (HR3.out.ok HOX.out) HX2.out
  go_wp2_with fail
  refine hs1.mono ?_
  clear hs1
  rintro _ w5 ⟨rfl, o5⟩
  have HO5 : Hid (Ok w4 w5) := Lib.hid (HOX.out.trans o5)
  clear o5 HOX HX2
  have HX1 : Hid (RowsIn (w5.alloc (.cells #[.string ⟨#[97]⟩, .string ⟨#[50]⟩] 48)) (some ⟨w5.heap.size, 0, none⟩) [ra2]) := Lib.hid (RowsIn.one _ _ ra2 (heap_alloc_new w5 _))
  have HOX : Hid (Ok w5 (w5.alloc (.cells #[.string ⟨#[97]⟩, .string ⟨#[50]⟩] 48))) := Lib.hid ((Ok.refl w5).alloc _)
  have hs2 := same_f A4 (some ⟨w5.heap.size, 0, none⟩) 1 c4 1 [ra2] rfl (by decide) (w5.alloc (.cells #[.string ⟨#[97]⟩, .string ⟨#[50]⟩] 48)) (HR4.out.ok (HO5.out.trans HOX.out)) HX1.out
  go_wp2_with fail
  refine hs2.mono ?_
  clear hs2
  rintro _ w6 ⟨rfl, o6⟩
  have HO6 : Hid (Ok w4 w6) := Lib.hid (HO5.out.trans (HOX.out.trans o6))
  clear o6 HOX HX1
  have hmy := many50 p A2 1 c2 [rb3] w6 (HT4.out.ok HO6.out)
  go_wp2_with fail
  refine hmy.mono ?_
  clear hmy
  rintro _ w7 ⟨rfl, o7⟩
  have HO7 : Hid (Ok W w7) := Lib.hid (HO4.out.trans (HO6.out.trans o7))
  clear o7
  go_wp2_with fail
  go_ret
  exact ⟨rfl, HO7.out⟩
end Go.Proofs.YtebhcadolnjplaaGreat
