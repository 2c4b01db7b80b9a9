/- The contract of Turn. -/
import Derived.Test.YtdabdkedgigjdaaGreatSh
import Derived.Deep.RegionHeld3
import Derived.Test.YtdabdkedgigjdaaGreatI
namespace Go.Proofs.YtdabdkedgigjdaaGreat
open Go.RowKit

/-- What is told, and the new list. -/
def turnM (ep : Int) (xs : List Sh) (i : Sp) (g : Int) : Int × List Sh :=
  if (sharesB ep xs && rightB i && groupB g) = true then
    match xs.findIdx? (fun x => withinB i x.sp) with
    | none => (6, [])
    | some k => if (at2 xs k).g = g then (7, []) else
      if 1073741824 < ep + 1 ∨ 40 < (xs.take k ++ (cutShM (at2 xs k) i g (ep + 1) ++ xs.drop (k + 1))).length then (8, []) else (0, xs.take k ++ (cutShM (at2 xs k) i g (ep + 1) ++ xs.drop (k + 1)))
  else (2, [])
def TurnPost (w : World) (ep : Int) (r : Int × List Sh) : Ending → World → Prop := fun e w' => ∃ A c, e = .returned (.tuple #[.agg #[.int .i64 (if r.1 = 0 then ep + 1 else 0), .slice A r.2.length c], .int .i64 r.1]) ∧ OwnSh w' w.heap.size A r.2.length c r.2 ∧ Ok w w'
theorem TurnPost.err {w w' : World} {ep k : Int} {e : Ending} (hk : k ≠ 0) (he : e = .returned (.tuple #[.agg #[.int .i64 0, .slice none 0 0], .int .i64 k])) (ho : Ok w w') : TurnPost w ep (k, []) e w' :=
  ⟨none, 0, by rw [he, if_neg hk]; rfl, OwnSh.nil _ _, ho⟩
theorem concat_new (w : World) (a0 a1 a2 : Addr) (n0 n1 n2 c0 c1 c2 : Nat) (x0 x1 x2 : List Sh) (e0 : x0.length = n0) (e1 : x1.length = n1) (e2 : x2.length = n2) (b0 : n0 ≤ 1000) (b1 : n1 ≤ 1000) (b2 : n2 ≤ 1000)
    (s0 : ShIn w a0 x0) (s1 : ShIn w a1 x1) (s2 : ShIn w a2 x2) :
    Calls Tryz.prog 54 #[.slice (some ⟨w.heap.size, 0, none⟩) 3 3] (w.alloc (.cells #[.slice (some a0) n0 c0, .slice (some a1) n1 c1, .slice (some a2) n2 c2] 22)) (SharesPost (w.alloc (.cells #[.slice (some a0) n0 c0, .slice (some a1) n1 c1, .slice (some a2) n2 c2] 22)) (x0 ++ (x1 ++ x2))) :=
  concat_w _ a0 a1 a2 n0 n1 n2 c0 c1 c2 x0 x1 x2 e0 e1 e2 b0 b1 b2 _ (by go_cell) (by go_cell) (by go_cell) (s0.ok (Ok.alloc (Ok.refl w) _)) (s1.ok (Ok.alloc (Ok.refl w) _)) (s2.ok (Ok.alloc (Ok.refl w) _))
theorem OwnSh.some {w : World} {B : Nat} {A : Option Addr} {n c : Nat} {xs : List Sh} (h : OwnSh w B A n c xs) (hn : xs.length ≠ 0) : ∃ g, A = some ⟨g, 0, none⟩ := by
  obtain ⟨h1, rfl⟩ := h
  rcases h1.2 with ⟨e, h5⟩ | ⟨g, cap, cur, e, r⟩
  · exact absurd h5 hn
  · simp only [Value.slice.injEq] at e
    exact ⟨g, e.1⟩
theorem cutShM_ne (x : Sh) (i : Sp) (g ep : Int) (h : rightB x.sp = true) : (cutShM x i g ep).length ≠ 0 := by
  rw [cutShM, List.length_map]
  exact cut_some _ _ h
theorem cutShM_le (x : Sh) (i : Sp) (g ep : Int) : (cutShM x i g ep).length ≤ 3 := by
  rw [cutShM, List.length_map]
  have hl := cutSt_len x.sp (sortS [i.lo, i.hi])
  rw [sortS_len] at hl
  simp only [List.length_cons, List.length_nil] at hl
  unfold cutM
  split
  · rw [List.length_append]; simp only [List.length_cons, List.length_nil]; omega
  · simp
/-- The ways of Turn. -/
theorem turn_ways (ep : Int) (xs : List Sh) (i : Sp) (g : Int) :
    (sharesB ep xs = false ∧ turnM ep xs i g = (2, [])) ∨
    (sharesB ep xs = true ∧ rightB i = false ∧ turnM ep xs i g = (2, [])) ∨
    (sharesB ep xs = true ∧ rightB i = true ∧ groupB g = false ∧ turnM ep xs i g = (2, [])) ∨
    (sharesB ep xs = true ∧ rightB i = true ∧ groupB g = true ∧ findV ep xs (fun x => withinB i x.sp) = .tuple #[.int .i64 0, .bool false] ∧ turnM ep xs i g = (6, [])) ∨
    ∃ k : Nat, k < xs.length ∧ withinB i (at2 xs k).sp = true ∧ sharesB ep xs = true ∧ rightB i = true ∧ groupB g = true ∧ findV ep xs (fun x => withinB i x.sp) = .tuple #[.int .i64 k, .bool true] ∧
      (((at2 xs k).g = g ∧ turnM ep xs i g = (7, [])) ∨ ((at2 xs k).g ≠ g ∧ (1073741824 < ep + 1 ∨ 40 < (xs.take k ++ (cutShM (at2 xs k) i g (ep + 1) ++ xs.drop (k + 1))).length) ∧ turnM ep xs i g = (8, [])) ∨
        ((at2 xs k).g ≠ g ∧ ep + 1 ≤ 1073741824 ∧ (xs.take k ++ (cutShM (at2 xs k) i g (ep + 1) ++ xs.drop (k + 1))).length ≤ 40 ∧ turnM ep xs i g = (0, xs.take k ++ (cutShM (at2 xs k) i g (ep + 1) ++ xs.drop (k + 1))))) := by
  cases h1 : sharesB ep xs with
  | false => exact .inl ⟨rfl, by simp [turnM, h1]⟩
  | true =>
    cases h2 : rightB i with
    | false => exact .inr (.inl ⟨rfl, rfl, by simp [turnM, h2]⟩)
    | true =>
      cases h3 : groupB g with
      | false => exact .inr (.inr (.inl ⟨rfl, rfl, rfl, by simp [turnM, h3]⟩))
      | true =>
        right; right; right
        cases h4 : xs.findIdx? (fun x => withinB i x.sp) with
        | none => exact .inl ⟨rfl, rfl, rfl, by simp [findV, h1, idxI, h4], by simp [turnM, h1, h2, h3, h4]⟩
        | some k =>
          right
          have h5 := h4
          rw [List.findIdx?_eq_some_iff_getElem] at h5
          obtain ⟨hk, hw, _⟩ := h5
          refine ⟨k, hk, by rw [at2_get xs k hk]; exact hw, rfl, rfl, rfl, by simp [findV, h1, idxI, h4], ?_⟩
          by_cases h6 : (at2 xs k).g = g
          · exact .inl ⟨h6, by simp [turnM, h1, h2, h3, h4, h6]⟩
          · right
            by_cases h7 : 1073741824 < ep + 1 ∨ 40 < (xs.take k ++ (cutShM (at2 xs k) i g (ep + 1) ++ xs.drop (k + 1))).length
            · exact .inl ⟨h6, h7, by simp only [turnM, h1, h2, h3, h4, h6, h7, if_true, if_false, Bool.and_self]⟩
            · exact .inr ⟨h6, by omega, by omega, by simp only [turnM, h1, h2, h3, h4, h6, h7, if_true, if_false, Bool.and_self]⟩
end Go.Proofs.YtdabdkedgigjdaaGreat
