/- Shares: the share of a key, of a span. -/
import Derived.Test.YtdabdkedgigjdaaGreatSd
namespace Go.Proofs.YtdabdkedgigjdaaGreat
open Go.RowKit

theorem store4 (W : World) (p : Nat) (u0 u1 u2 u3 a b c d : Value) (h0 : W.cell? ⟨p, 0, none⟩ = some u0) (h1 : W.cell? ⟨p, 1, none⟩ = some u1) (h2 : W.cell? ⟨p, 2, none⟩ = some u2) (h3 : W.cell? ⟨p, 3, none⟩ = some u3) :
    ((((W.setCell ⟨p, 0, none⟩ a).setCell ⟨p, 1, none⟩ b).setCell ⟨p, 2, none⟩ c).setCell ⟨p, 3, none⟩ d).cell? ⟨p, 0, none⟩ = some a ∧
    ((((W.setCell ⟨p, 0, none⟩ a).setCell ⟨p, 1, none⟩ b).setCell ⟨p, 2, none⟩ c).setCell ⟨p, 3, none⟩ d).cell? ⟨p, 1, none⟩ = some b ∧
    ((((W.setCell ⟨p, 0, none⟩ a).setCell ⟨p, 1, none⟩ b).setCell ⟨p, 2, none⟩ c).setCell ⟨p, 3, none⟩ d).cell? ⟨p, 2, none⟩ = some c ∧
    ((((W.setCell ⟨p, 0, none⟩ a).setCell ⟨p, 1, none⟩ b).setCell ⟨p, 2, none⟩ c).setCell ⟨p, 3, none⟩ d).cell? ⟨p, 3, none⟩ = some d := by
  obtain ⟨k0, k1⟩ := store2 W p u0 u1 a b h0 h1
  have k2 : ((W.setCell ⟨p, 0, none⟩ a).setCell ⟨p, 1, none⟩ b).cell? ⟨p, 2, none⟩ = some u2 := (World.cell?_setCell_other _ _ _ _ (by simp)).trans ((World.cell?_setCell_other _ _ _ _ (by simp)).trans h2)
  have k3 : ((W.setCell ⟨p, 0, none⟩ a).setCell ⟨p, 1, none⟩ b).cell? ⟨p, 3, none⟩ = some u3 := (World.cell?_setCell_other _ _ _ _ (by simp)).trans ((World.cell?_setCell_other _ _ _ _ (by simp)).trans h3)
  generalize (W.setCell ⟨p, 0, none⟩ a).setCell ⟨p, 1, none⟩ b = V at *
  refine ⟨(World.cell?_setCell_other _ _ _ _ (by simp)).trans ((World.cell?_setCell_other _ _ _ _ (by simp)).trans k0), (World.cell?_setCell_other _ _ _ _ (by simp)).trans ((World.cell?_setCell_other _ _ _ _ (by simp)).trans k1), ?_, ?_⟩
  · exact (World.cell?_setCell_other _ _ _ _ (by simp)).trans (World.cell?_setCell_same _ _ _ k2)
  · exact World.cell?_setCell_same _ _ _ ((World.cell?_setCell_other _ _ _ _ (by simp)).trans k3)
theorem Ok.set4 {w W : World} {p : Nat} (h : Ok w W) (hp : w.heap.size ≤ p) (a b c d : Value) : Ok w ((((W.setCell ⟨p, 0, none⟩ a).setCell ⟨p, 1, none⟩ b).setCell ⟨p, 2, none⟩ c).setCell ⟨p, 3, none⟩ d) :=
  Ok.set (Ok.set (Ok.set (Ok.set h hp _) hp _) hp _) hp _
/-- The first share that is meant, of right shares. -/
def firstM (ep : Int) (xs : List Sh) (q : Sh → Bool) : Option Sh := if sharesB ep xs = true then xs.find? q else none
def shareV (r : Option Sh) : Value := .tuple #[shV (r.getD sh0), .bool r.isSome]
theorem idx_found (q : Sh → Bool) (xs : List Sh) (h : 0 ≤ idxI q xs) : ∃ k : Nat, k < xs.length ∧ idxI q xs = (k : Int) ∧ xs.find? q = some (at2 xs k) := by
  unfold idxI at h ⊢
  cases e : xs.findIdx? q with
  | none => rw [e] at h; simp at h
  | some i =>
    have e2 := e
    rw [List.findIdx?_eq_some_iff_getElem] at e2
    obtain ⟨hi, hq, hb⟩ := e2
    refine ⟨i, hi, rfl, ?_⟩
    rw [List.find?_eq_some_iff_getElem]
    rw [at2_get xs i hi]
    exact ⟨hq, i, hi, rfl, fun j hj => by have := hb j hj; simpa using this⟩
theorem idx_lost (q : Sh → Bool) (xs : List Sh) (h : ¬ 0 ≤ idxI q xs) : xs.find? q = none := by
  unfold idxI at h
  cases e : xs.findIdx? q with
  | some i => rw [e] at h; simp at h
  | none =>
    rw [List.findIdx?_eq_none_iff] at e
    rw [List.find?_eq_none]
    intro x hx; rw [e x hx]; simp

set_option maxRecDepth 100000 in
set_option maxHeartbeats 8000000 in
theorem share_w (fn p : Nat) (q : Sh → Bool) (ep : Int) (A : Option Addr) (n c : Nat) (xs : List Sh) (hn : xs.length = n) (hn6 : n ≤ 1000) (w : World) (hI : SharesAt w A xs)
    (hc : ∀ args w, (callFunc fn args).run Tryz.prog w = .ok (.enter fn args) w) (hf : ∀ x w', Ok w w' → Calls Tryz.prog fn #[shV x, .pointer (some ⟨p, 0, none⟩)] w' (Ret w' (.bool (q x)))) :
    Calls Tryz.prog 58 #[.agg #[.int .i64 ep, .slice A n c], .func (.func fn) #[] #[.pointer (some ⟨p, 0, none⟩)]] w (Ret w (shareV (firstM ep xs q))) := by
  have hfi := find_w fn p q ep A n c xs hn hn6
  have HI := Lib.hid hI
  have HF := Lib.hid hf
  have HC := Lib.hid hc
  have HFI := Lib.hid hfi
  have HN := Lib.hid hn
  have hfd := idx_found q xs
  have hls := idx_lost q xs
  obtain ⟨R, hR⟩ : ∃ R, shareV (firstM ep xs q) = R := ⟨_, rfl⟩
  rw [hR]
  have er := Lib.hid hR
  clear hR hI hf hc hfi hn
  go_enter Tryz.func58, Tryz.ntmps58
  go_wp2_with fail
  generalize hW : (w.alloc (.cells #[.int .i64 ep, .slice A n c] 85)).alloc (.cells #[.string ⟨#[]⟩, .string ⟨#[]⟩, .int .i64 0, .int .i64 0] 35) = W
  have oW : Ok w W := by subst hW; exact Ok.alloc (Ok.alloc (Ok.refl w) _) _
  have E1 : W.cell? ⟨w.heap.size, 1, none⟩ = some (.slice A n c) := by subst hW; go_cell
  have R0 : W.cell? ⟨w.heap.size + 1, 0, none⟩ = some (.string ⟨#[]⟩) := by subst hW; go_cell
  have F0 : W.frozen? ⟨w.heap.size + 1, 0, none⟩ = false := by subst hW; go_cell
  have R1 : W.cell? ⟨w.heap.size + 1, 1, none⟩ = some (.string ⟨#[]⟩) := by subst hW; go_cell
  have F1 : W.frozen? ⟨w.heap.size + 1, 1, none⟩ = false := by subst hW; go_cell
  have R2 : W.cell? ⟨w.heap.size + 1, 2, none⟩ = some (.int .i64 0) := by subst hW; go_cell
  have F2 : W.frozen? ⟨w.heap.size + 1, 2, none⟩ = false := by subst hW; go_cell
  have R3 : W.cell? ⟨w.heap.size + 1, 3, none⟩ = some (.int .i64 0) := by subst hW; go_cell
  have F3 : W.frozen? ⟨w.heap.size + 1, 3, none⟩ = false := by subst hW; go_cell
  clear hW
  refine (HFI.out W (HI.out.ok oW) HC.out (fun x w' k' => HF.out x w' (Ok.call oW k'))).mono ?_
  rintro _ w1 ⟨rfl, o1⟩
  have F0 := (Below.frozen o1 (World.block_lt_of_cell? _ _ R0)).trans F0
  have F1 := (Below.frozen o1 (World.block_lt_of_cell? _ _ R1)).trans F1
  have F2 := (Below.frozen o1 (World.block_lt_of_cell? _ _ R2)).trans F2
  have F3 := (Below.frozen o1 (World.block_lt_of_cell? _ _ R3)).trans F3
  have R0 := Ok.cell o1 R0
  have R1 := Ok.cell o1 R1
  have R2 := Ok.cell o1 R2
  have R3 := Ok.cell o1 R3
  have E1 := Ok.cell o1 E1
  have ok1 := Ok.call oW o1
  have HAT := Lib.hid (HI.out.ok ok1)
  clear o1 oW
  have fin : (findV ep xs q = .tuple #[.int .i64 0, .bool false] ∧ firstM ep xs q = none) ∨ ∃ k : Nat, k < n ∧ findV ep xs q = .tuple #[.int .i64 k, .bool true] ∧ firstM ep xs q = some (at2 xs k) := by
    unfold findV firstM
    by_cases h1 : sharesB ep xs = true
    · rw [if_pos h1, if_pos h1]
      by_cases h2 : 0 ≤ idxI q xs
      · obtain ⟨k, hk, e, hfs⟩ := hfd h2
        rw [if_pos h2, decide_eq_true h2, e, hfs]
        exact .inr ⟨k, by rw [← HN.out]; exact hk, rfl, rfl⟩
      · rw [if_neg h2, decide_eq_false h2, hls (by omega)]
        exact .inl ⟨rfl, rfl⟩
    · rw [if_neg h1, if_neg h1]
      exact .inl ⟨rfl, rfl⟩
  clear hfd hls
  rcases fin with ⟨e1, e2⟩ | ⟨k, hk, e1, e2⟩
  · rw [e1]
    have er2 : Hid (R = shareV none) := Lib.hid (by rw [← er.out, e2])
    clear e1 e2
    go_wp2
    have st := store4 w1 (w.heap.size + 1) _ _ _ _ (.string ⟨#[]⟩) (.string ⟨#[]⟩) (.int .i64 0) (.int .i64 0) R0 R1 R2 R3
    (try simp only [Exit.inBlock, Exit.then])
    refine bodyPost_ret (by simp [results, Tryz.results58, go_sem, st.1, st.2.1, st.2.2.1, st.2.2.2]; try rfl) rfl ?_
    exact ⟨by rw [er2.out]; try rfl, Ok.set4 (ok1) (by omega) _ _ _ _⟩
  · rw [e1]
    have er2 : Hid (R = shareV (some (at2 xs k))) := Lib.hid (by rw [← er.out, e2])
    clear e1 e2
    obtain ⟨b, off, rfl, C0, C1, C2, C3⟩ := HAT.out k (by rw [HN.out]; exact hk)
    generalize at2 xs k = x at *
    obtain ⟨⟨xl, xh⟩, xg, xe⟩ := x
    simp only at C0 C1 C2 C3
    have hi0 : (0 : Int) ≤ (k : Int) := Int.natCast_nonneg _
    have hi1 : (k : Int) < (n : Int) := by omega
    go_wp2
    have st := store4 w1 (w.heap.size + 1) _ _ _ _ (.string xl) (.string xh) (.int .i64 xg) (.int .i64 xe) R0 R1 R2 R3
    (try simp only [Exit.inBlock, Exit.then])
    refine bodyPost_ret (by simp [results, Tryz.results58, go_sem, st.1, st.2.1, st.2.2.1, st.2.2.2]; try rfl) rfl ?_
    exact ⟨by rw [er2.out]; try rfl, Ok.set4 (ok1) (by omega) _ _ _ _⟩

set_option maxRecDepth 100000 in
set_option maxHeartbeats 8000000 in
theorem of_w (k : Str) (ep : Int) (A : Option Addr) (n c : Nat) (xs : List Sh) (hn : xs.length = n) (hn6 : n ≤ 1000) (w : World) (hI : SharesAt w A xs) :
    Calls Tryz.prog 23 #[.agg #[.int .i64 ep, .slice A n c], .string k] w (Ret w (shareV (firstM ep xs (fun x => hasB x.sp k)))) := by
  have hsh := share_w 71 (w.heap.size + 1) (fun x => hasB x.sp k) ep A n c xs hn hn6
  have HI := Lib.hid hI
  have HSH := Lib.hid hsh
  clear hI hsh hn
  generalize firstM ep xs (fun x => hasB x.sp k) = r at HSH ⊢
  obtain ⟨⟨⟨rl, rh⟩, rg, re⟩, rb, hrv⟩ : ∃ (x : Sh) (b : Bool), shareV r = .tuple #[shV x, .bool b] := ⟨_, _, rfl⟩
  rw [hrv] at HSH ⊢
  clear hrv
  unfold shV at HSH ⊢
  simp only at HSH ⊢
  go_enter Tryz.func23, Tryz.ntmps23
  go_wp2_with fail
  generalize hW : ((w.alloc (.cells #[.int .i64 ep, .slice A n c] 24)).alloc (.cells #[.string k] 9)).alloc (.cells #[.string ⟨#[]⟩, .string ⟨#[]⟩, .int .i64 0, .int .i64 0] 35) = W
  have oW : Ok w W := by subst hW; exact Ok.alloc (Ok.alloc (Ok.alloc (Ok.refl w) _) _) _
  have K0 : W.cell? ⟨w.heap.size + 1, 0, none⟩ = some (.string k) := by subst hW; go_cell
  have R0 : W.cell? ⟨w.heap.size + 1 + 1, 0, none⟩ = some (.string ⟨#[]⟩) := by subst hW; go_cell
  have F0 : W.frozen? ⟨w.heap.size + 1 + 1, 0, none⟩ = false := by subst hW; go_cell
  have R1 : W.cell? ⟨w.heap.size + 1 + 1, 1, none⟩ = some (.string ⟨#[]⟩) := by subst hW; go_cell
  have F1 : W.frozen? ⟨w.heap.size + 1 + 1, 1, none⟩ = false := by subst hW; go_cell
  have R2 : W.cell? ⟨w.heap.size + 1 + 1, 2, none⟩ = some (.int .i64 0) := by subst hW; go_cell
  have F2 : W.frozen? ⟨w.heap.size + 1 + 1, 2, none⟩ = false := by subst hW; go_cell
  have R3 : W.cell? ⟨w.heap.size + 1 + 1, 3, none⟩ = some (.int .i64 0) := by subst hW; go_cell
  have F3 : W.frozen? ⟨w.heap.size + 1 + 1, 3, none⟩ = false := by subst hW; go_cell
  clear hW
  refine (HSH.out W (HI.out.ok oW) call65 (fun x w' k' => of_c k _ x w' (Ok.cell k' K0))).mono ?_
  rintro _ w1 ⟨rfl, o1⟩
  have F0 := (Below.frozen o1 (World.block_lt_of_cell? _ _ R0)).trans F0
  have F1 := (Below.frozen o1 (World.block_lt_of_cell? _ _ R1)).trans F1
  have F2 := (Below.frozen o1 (World.block_lt_of_cell? _ _ R2)).trans F2
  have F3 := (Below.frozen o1 (World.block_lt_of_cell? _ _ R3)).trans F3
  have R0 := Ok.cell o1 R0
  have R1 := Ok.cell o1 R1
  have R2 := Ok.cell o1 R2
  have R3 := Ok.cell o1 R3
  have ok1 := Ok.call oW o1
  clear o1 oW
  go_wp2
  have st := store4 w1 (w.heap.size + 1 + 1) _ _ _ _ (.string rl) (.string rh) (.int .i64 rg) (.int .i64 re) R0 R1 R2 R3
  (try simp only [Exit.inBlock, Exit.then])
  refine bodyPost_ret (by simp [results, Tryz.results23, go_sem, st.1, st.2.1, st.2.2.1, st.2.2.2]; try rfl) rfl ?_
  exact ⟨rfl, Ok.set4 (ok1) (by omega) _ _ _ _⟩

set_option maxRecDepth 100000 in
set_option maxHeartbeats 8000000 in
theorem in_w2 (s : Sp) (ep : Int) (A : Option Addr) (n c : Nat) (xs : List Sh) (hn : xs.length = n) (hn6 : n ≤ 1000) (w : World) (hI : SharesAt w A xs) :
    Calls Tryz.prog 13 #[.agg #[.int .i64 ep, .slice A n c], spV s] w (Ret w (shareV (firstM ep xs (fun x => withinB s x.sp)))) := by
  have hsh := share_w 59 (w.heap.size + 1) (fun x => withinB s x.sp) ep A n c xs hn hn6
  have HI := Lib.hid hI
  have HSH := Lib.hid hsh
  clear hI hsh hn
  generalize firstM ep xs (fun x => withinB s x.sp) = r at HSH ⊢
  obtain ⟨⟨⟨rl, rh⟩, rg, re⟩, rb, hrv⟩ : ∃ (x : Sh) (b : Bool), shareV r = .tuple #[shV x, .bool b] := ⟨_, _, rfl⟩
  rw [hrv] at HSH ⊢
  clear hrv
  obtain ⟨sl, sh⟩ := s
  unfold spV
  simp only
  unfold shV at HSH ⊢
  simp only at HSH ⊢
  go_enter Tryz.func13, Tryz.ntmps13
  go_wp2_with fail
  generalize hW : ((w.alloc (.cells #[.int .i64 ep, .slice A n c] 24)).alloc (.cells #[.string sl, .string sh] 26)).alloc (.cells #[.string ⟨#[]⟩, .string ⟨#[]⟩, .int .i64 0, .int .i64 0] 35) = W
  have oW : Ok w W := by subst hW; exact Ok.alloc (Ok.alloc (Ok.alloc (Ok.refl w) _) _) _
  have K0 : W.cell? ⟨w.heap.size + 1, 0, none⟩ = some (.string sl) := by subst hW; go_cell
  have K1 : W.cell? ⟨w.heap.size + 1, 1, none⟩ = some (.string sh) := by subst hW; go_cell
  have R0 : W.cell? ⟨w.heap.size + 1 + 1, 0, none⟩ = some (.string ⟨#[]⟩) := by subst hW; go_cell
  have F0 : W.frozen? ⟨w.heap.size + 1 + 1, 0, none⟩ = false := by subst hW; go_cell
  have R1 : W.cell? ⟨w.heap.size + 1 + 1, 1, none⟩ = some (.string ⟨#[]⟩) := by subst hW; go_cell
  have F1 : W.frozen? ⟨w.heap.size + 1 + 1, 1, none⟩ = false := by subst hW; go_cell
  have R2 : W.cell? ⟨w.heap.size + 1 + 1, 2, none⟩ = some (.int .i64 0) := by subst hW; go_cell
  have F2 : W.frozen? ⟨w.heap.size + 1 + 1, 2, none⟩ = false := by subst hW; go_cell
  have R3 : W.cell? ⟨w.heap.size + 1 + 1, 3, none⟩ = some (.int .i64 0) := by subst hW; go_cell
  have F3 : W.frozen? ⟨w.heap.size + 1 + 1, 3, none⟩ = false := by subst hW; go_cell
  clear hW
  refine (HSH.out W (HI.out.ok oW) call66 (fun x w' k' => in_c ⟨sl, sh⟩ _ x w' (Ok.cell k' K0) (Ok.cell k' K1))).mono ?_
  rintro _ w1 ⟨rfl, o1⟩
  have F0 := (Below.frozen o1 (World.block_lt_of_cell? _ _ R0)).trans F0
  have F1 := (Below.frozen o1 (World.block_lt_of_cell? _ _ R1)).trans F1
  have F2 := (Below.frozen o1 (World.block_lt_of_cell? _ _ R2)).trans F2
  have F3 := (Below.frozen o1 (World.block_lt_of_cell? _ _ R3)).trans F3
  have R0 := Ok.cell o1 R0
  have R1 := Ok.cell o1 R1
  have R2 := Ok.cell o1 R2
  have R3 := Ok.cell o1 R3
  have ok1 := Ok.call oW o1
  clear o1 oW
  go_wp2
  have st := store4 w1 (w.heap.size + 1 + 1) _ _ _ _ (.string rl) (.string rh) (.int .i64 rg) (.int .i64 re) R0 R1 R2 R3
  (try simp only [Exit.inBlock, Exit.then])
  refine bodyPost_ret (by simp [results, Tryz.results13, go_sem, st.1, st.2.1, st.2.2.1, st.2.2.2]; try rfl) rfl ?_
  exact ⟨rfl, Ok.set4 (ok1) (by omega) _ _ _ _⟩
end Go.Proofs.YtdabdkedgigjdaaGreat
