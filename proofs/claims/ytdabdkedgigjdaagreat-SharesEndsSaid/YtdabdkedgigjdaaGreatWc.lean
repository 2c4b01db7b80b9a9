/- Proved: the law SharesEnds of layer 5 returns true, and leaves what was there as it was (no condition). -/
import Derived.Test.YtdabdkedgigjdaaGreatWb
import Derived.Test.YtdabdkedgigjdaaGreatYg
import Derived.Deep.CutRange
import Derived.Outline
import Derived.Laws.BytesString
import Derived.Test.YtdabdkedgigjdaaGreatM
namespace Go.Proofs.YtdabdkedgigjdaaGreat
open Go.RowKit

theorem find_of_idx {q : Sh → Bool} {xs : List Sh} {k : Nat} (h : xs.findIdx? q = some k) : k < xs.length ∧ q (at2 xs k) = true ∧ xs.find? q = some (at2 xs k) := by
  rw [List.findIdx?_eq_some_iff_getElem] at h
  obtain ⟨hk, hp, hn⟩ := h
  refine ⟨hk, by rw [at2_get xs k hk]; exact hp, ?_⟩
  rw [List.find?_eq_some_iff_getElem]
  refine ⟨by rw [at2_get xs k hk]; exact hp, k, hk, (at2_get xs k hk).symm, fun j hj => ?_⟩
  have := hn j hj
  simpa using this
theorem turn_zero {ep : Int} {xs : List Sh} {i : Sp} {g : Int} (h : (turnM ep xs i g).1 = 0) :
    ∃ k : Nat, k < xs.length ∧ withinB i (at2 xs k).sp = true ∧ xs.find? (fun y => withinB i y.sp) = some (at2 xs k) ∧ sharesB ep xs = true ∧ rightB i = true ∧ groupB g = true ∧ (at2 xs k).g ≠ g ∧ ep + 1 ≤ 1073741824 ∧
      (xs.take k ++ (cutShM (at2 xs k) i g (ep + 1) ++ xs.drop (k + 1))).length ≤ 40 ∧ turnM ep xs i g = (0, xs.take k ++ (cutShM (at2 xs k) i g (ep + 1) ++ xs.drop (k + 1))) := by
  unfold turnM at h ⊢
  by_cases h0 : (sharesB ep xs && rightB i && groupB g) = true
  · rw [if_pos h0] at h ⊢
    simp only [Bool.and_eq_true] at h0
    cases hf : xs.findIdx? (fun x => withinB i x.sp) with
    | none => rw [hf] at h; simp at h
    | some k =>
      rw [hf] at h
      simp only at h ⊢
      obtain ⟨hk, hq, hfi⟩ := find_of_idx hf
      by_cases hg : (at2 xs k).g = g
      · rw [if_pos hg] at h; simp at h
      · rw [if_neg hg] at h ⊢
        by_cases hl : 1073741824 < ep + 1 ∨ 40 < (xs.take k ++ (cutShM (at2 xs k) i g (ep + 1) ++ xs.drop (k + 1))).length
        · rw [if_pos hl] at h; simp at h
        · rw [if_neg hl]
          exact ⟨k, hk, hq, hfi, h0.1.1, h0.1.2, h0.2, hg, by omega, by omega, rfl⟩
  · rw [if_neg h0] at h; simp at h
deriving instance DecidableEq for Sp
deriving instance DecidableEq for Sh
/-- The key of a round. -/
def keyE (k : Nat) : Str := ⟨#[97, UInt8.ofNat (97 + k / 10), UInt8.ofNat (48 + k % 10)]⟩
/-- Turn, by the document's cut. -/
def turnE (ep : Int) (xs : List Sh) (i : Sp) (g : Int) : Int × List Sh :=
  if (sharesB ep xs && rightB i && groupB g) = true then
    match xs.findIdx? (fun x => withinB i x.sp) with
    | none => (6, [])
    | some k => if (at2 xs k).g = g then (7, []) else
      if 1073741824 < ep + 1 ∨ 40 < (xs.take k ++ ((rcutM (at2 xs k).sp [i.lo, i.hi]).map (pieceM (at2 xs k) i g (ep + 1)) ++ xs.drop (k + 1))).length then (8, []) else (0, xs.take k ++ ((rcutM (at2 xs k).sp [i.lo, i.hi]).map (pieceM (at2 xs k) i g (ep + 1)) ++ xs.drop (k + 1)))
  else (2, [])
theorem turn_E (ep : Int) (xs : List Sh) (i : Sp) (g : Int) : turnM ep xs i g = turnE ep xs i g := by
  unfold turnM turnE cutShM
  simp only [← rcut_cut]
  by_cases h : (sharesB ep xs && rightB i && groupB g) = true
  · rw [if_pos h, if_pos h]
    cases xs.findIdx? (fun x => withinB i x.sp) <;> rfl
  · rw [if_neg h, if_neg h]
/-- The shares ahead of a round. -/
def clE (k : Nat) : Int × List Sh := ((min k 39 : Nat) + 1, (List.range (min k 39 + 1)).map fun t =>
  ⟨⟨if t = 0 then ⟨#[]⟩ else keyE (t - 1), if t = min k 39 then ⟨#[]⟩ else keyE t⟩, if t = 0 then 1 else 2 + (((t - 1) % 3 : Nat) : Int), (t : Int) + 1⟩)
def stepE (k : Nat) : Bool := match turnE (clE k).1 (clE k).2 ⟨keyE k, ⟨#[]⟩⟩ (2 + ((k % 3 : Nat) : Int)) with
  | (r, ys) => if r = 0 then decide (((clE k).1 + 1, ys) = clE (k + 1)) else decide (clE k = clE (k + 1))
theorem steps_E : (List.range 45).all stepE = true := by decide +kernel
theorem step_E {k : Nat} (hk : k < 45) : (((turnM (clE k).1 (clE k).2 ⟨keyE k, ⟨#[]⟩⟩ (2 + ((k % 3 : Nat) : Int))).1 = 0 ∧ (clE (k + 1)).1 = (clE k).1 + 1 ∧ (clE (k + 1)).2 = (turnM (clE k).1 (clE k).2 ⟨keyE k, ⟨#[]⟩⟩ (2 + ((k % 3 : Nat) : Int))).2)) ∨ ((turnM (clE k).1 (clE k).2 ⟨keyE k, ⟨#[]⟩⟩ (2 + ((k % 3 : Nat) : Int))).1 ≠ 0 ∧ clE (k + 1) = clE k) := by
  have h := List.all_eq_true.1 steps_E k (by simpa using hk)
  unfold stepE at h
  rw [turn_E]
  generalize turnE (clE k).1 (clE k).2 ⟨keyE k, ⟨#[]⟩⟩ (2 + ((k % 3 : Nat) : Int)) = r at h ⊢
  obtain ⟨r, ys⟩ := r
  simp only at h ⊢
  by_cases h0 : r = 0
  · rw [if_pos h0] at h
    have := of_decide_eq_true h
    exact .inl ⟨h0, by rw [← this], by rw [← this]⟩
  · rw [if_neg h0] at h
    exact .inr ⟨h0, (of_decide_eq_true h).symm⟩
theorem cl_zero : clE 0 = (1, [⟨allS, 1, 1⟩]) := by decide +kernel
theorem cl_len (k : Nat) : (clE k).2.length ≤ 40 := by
  unfold clE
  simp only [List.length_map, List.length_range]
  omega
theorem cl_end : (clE 45).2.length = 40 := by
  unfold clE
  simp
end Go.Proofs.YtdabdkedgigjdaaGreat
namespace Go.Proofs.YtdabdkedgigjdaaGreat
open Go.RowKit

theorem convE (w : World) (k : Nat) (hk : k < 45) : (convert 49 9 (.slice (some ⟨w.heap.size, 0, none⟩) 2 2)).run Tryz.prog (w.alloc (.cells #[.int .u8 (97 + (k : Int) / 10), .int .u8 (48 + (k : Int) % 10)] 5)) =
    .ok (.string ⟨#[UInt8.ofNat (97 + k / 10), UInt8.ofNat (48 + k % 10)]⟩) (w.alloc (.cells #[.int .u8 (97 + (k : Int) / 10), .int .u8 (48 + (k : Int) % 10)] 5)) := by
  rw [run_convert_bytes_string _ 49 9 5 _ _ _ Tryz.underlying49 Tryz.underlying5 Tryz.underlying9]
  have h1 : (97 + (k : Int) / 10).toNat = 97 + k / 10 := by omega
  have h2 : (48 + (k : Int) % 10).toNat = 48 + k % 10 := by omega
  have := run_bytesToString (P := Tryz.prog) (w.alloc (.cells #[.int .u8 (97 + (k : Int) / 10), .int .u8 (48 + (k : Int) % 10)] 5)) ⟨w.heap.size, 0, none⟩ 2 2 [97 + (k : Int) / 10, 48 + (k : Int) % 10] (by simp [loadCells, go_sem])
  rw [this]
  simp only [List.foldl_cons, List.foldl_nil, h1, h2]
  rfl
theorem OwnSh.nocap {w : World} {B : Nat} {A : Option Addr} {n c : Nat} {xs : List Sh} (h : OwnSh w B A n c xs) : A = none → c = 0 := fun e => by
  subst e
  rcases h.1.2 with ⟨e, _⟩ | ⟨g, cap, cur, e, _⟩
  · simp only [Value.slice.injEq] at e; exact e.2.2
  · simp at e
def numE (j : Nat) : Int := match j with | 0 => -1 | 1 => 0 | 2 => 1 | 3 => 2 | 4 => 4 | 5 => 5 | 6 => 1073741824 | _ => 1073741825
def T2At (wq : World) (ep : Int) (x : Sh) (vp : Value) (wx : World) : Prop := ∃ p A, vp = .pointer (some ⟨p, 0, none⟩) ∧ Two wx p ep A 1 1 ∧ SharesAt wx A [x] ∧ (A = none → (1 : Nat) = 0) ∧ Ok wq wx
theorem T2At.ab (w : World) (ep : Int) (x : Sh) : T2At w ep x (.pointer (some ⟨w.heap.size + 1, 0, none⟩)) (((w.alloc (.cells #[.string x.sp.lo, .string x.sp.hi, .int .i64 x.g, .int .i64 x.e] 35)).alloc (.cells #[.int .i64 ep, .slice (some ⟨w.heap.size, 0, none⟩) 1 1] 24)).drew) := by
  have h1 := (one_ownsh w x).at
  have h2 := Two.new (w.alloc (.cells #[.string x.sp.lo, .string x.sp.hi, .int .i64 x.g, .int .i64 x.e] 35)) ep (some ⟨w.heap.size, 0, none⟩) 1 1
  rw [show (w.alloc (.cells #[.string x.sp.lo, .string x.sp.hi, .int .i64 x.g, .int .i64 x.e] 35)).heap.size = w.heap.size + 1 by simp] at h2
  exact ⟨_, _, rfl, h2.ok (Ok.drew (Ok.refl _)), h1.ok (Ok.drew (Ok.alloc (Ok.refl _) _)), fun e => (by cases e), Ok.drew (Ok.alloc (Ok.alloc (Ok.refl _) _) _)⟩
theorem T2At.ba (w : World) (ep : Int) (x : Sh) : T2At w ep x (.pointer (some ⟨w.heap.size, 0, none⟩)) (((w.alloc (.cells #[.int .i64 ep, .slice (some ⟨w.heap.size + 1, 0, none⟩) 1 1] 24)).alloc (.cells #[.string x.sp.lo, .string x.sp.hi, .int .i64 x.g, .int .i64 x.e] 35)).drew) := by
  have h1 := (one_ownsh (w.alloc (.cells #[.int .i64 ep, .slice (some ⟨w.heap.size + 1, 0, none⟩) 1 1] 24)) x).at
  have h2 := Two.new w ep (some ⟨w.heap.size + 1, 0, none⟩) 1 1
  rw [show (w.alloc (.cells #[.int .i64 ep, .slice (some ⟨w.heap.size + 1, 0, none⟩) 1 1] 24)).heap.size = w.heap.size + 1 by simp] at h1
  exact ⟨_, _, rfl, h2.ok (Ok.drew (Ok.alloc (Ok.refl _) _)), h1.ok (Ok.drew (Ok.refl _)), fun e => (by cases e), Ok.drew (Ok.alloc (Ok.alloc (Ok.refl _) _) _)⟩
theorem one_key {w : World} {b : Nat} {t : Str} (h : w.cell? ⟨b, 0, none⟩ = some (.string t)) : StrsN w.heap.size w (.slice (some ⟨b, 0, none⟩) 1 1) [t] := by
  refine .inr ⟨b, 0, 1, rfl, World.block_lt_of_cell? w ⟨b, 0, none⟩ h, by simp, fun j hj => ?_⟩
  obtain rfl : j = 0 := by simpa using hj
  rw [show at0 [t] 0 = t from rfl]
  exact h
theorem three_new (w : World) (a b c : Str) : StrsN (w.alloc (.cells #[.string a, .string b, .string c] 9)).heap.size (w.alloc (.cells #[.string a, .string b, .string c] 9)) (.slice (some ⟨w.heap.size, 0, none⟩) 3 3) [a, b, c] := by
  refine .inr ⟨w.heap.size, 0, 3, rfl, by simp, by simp, fun j hj => ?_⟩
  match j, hj with
  | 0, _ => rw [show at0 [a, b, c] 0 = a from rfl]; go_cell
  | 1, _ => rw [show at0 [a, b, c] 1 = b from rfl]; go_cell
  | 2, _ => rw [show at0 [a, b, c] 2 = c from rfl]; go_cell
theorem catE (k : Nat) : (⟨#[97]⟩ : Str) ++ ⟨#[UInt8.ofNat (97 + k / 10), UInt8.ofNat (48 + k % 10)]⟩ = keyE k := rfl

set_option maxRecDepth 100000 in
set_option maxHeartbeats 4000000 in
theorem sharesEnds_w (w : World) : Calls Tryz.prog 4 #[] w (Ret w (.bool true)) := by
  have hf := fun w' => first_w 1 w'
  rw [show firstG 1 = 1 by decide +kernel] at hf
  unfold FirstPost at hf
  have HF := Lib.hid hf
  clear hf
  go_enter Tryz.func4, Tryz.ntmps4
  go_wp2_with fail
  (with_reducible refine (awake2_w w).mono ?_)
  rintro _ w1 ⟨rfl, o1⟩
  have OK1 := Lib.hid o1
  clear o1
  go_wp2_with fail
  (with_reducible refine (HF.out _).mono ?_)
  rintro _ w2 ⟨h, rfl, hown, o2⟩
  have HOW := Lib.hid hown
  have OK2 := Lib.hid (Ok.call OK1.out o2)
  clear hown o2 OK1 HF
  go_upto_region 4 with fail
  obtain ⟨pf, hpf⟩ : ∃ q, w2.heap.size = q := ⟨_, rfl⟩
  have HX := Lib.hid (Two.new w2 1 (some ⟨h, 0, none⟩) 1 1)
  have hfz : Fz (w2.alloc (.cells #[.int .i64 1, .slice (some ⟨h, 0, none⟩) 1 1] 24)) w2.heap.size 2 := fun j hj => by
    obtain rfl | rfl : j = 0 ∨ j = 1 := by omega
    all_goals go_cell
  have HFZ := Lib.hid hfz
  clear hfz
  have hwp : w.heap.size ≤ pf := by have := OK2.out.size; omega
  rw [hpf] at HX HFZ ⊢
  have oa := Ok.alloc (Ok.refl w2) (.cells #[.int .i64 1, .slice (some ⟨h, 0, none⟩) 1 1] 24)
  generalize w2.alloc (.cells #[.int .i64 1, .slice (some ⟨h, 0, none⟩) 1 1] 24) = V at HX HFZ oa ⊢
  have HSA := Lib.hid (HOW.out.at.ok oa)
  have OKV := Lib.hid (Ok.call OK2.out oa)
  clear oa OK2 HOW hpf
  go_upto_region 5 with fail
  go_loopw [2] (fun i wr => ∃ (k n c : Nat) (A : Option Addr), k ≤ 45 ∧ i = .int .i64 k ∧ n = (clE k).2.length ∧ n ≤ c ∧ (A = none → c = 0) ∧ Two wr pf (clE k).1 A n c ∧ Fz wr pf 2 ∧ SharesAt wr A (clE k).2 ∧ Ok w wr) (fun i _ => 45 - (intOf i).toNat)
  case atStart => exact ⟨0, 1, 1, some ⟨h, 0, none⟩, by omega, rfl, by decide, Nat.le_refl _, (fun e => by cases e), by rw [cl_zero]; exact HX.out, HFZ.out, by rw [cl_zero]; exact HSA.out, OKV.out⟩
  case round =>
    clear HX HFZ HSA OKV
    obtain ⟨k, n, c, A, hk, rfl, hn, hnc, hnil, hx, hfz, hsa, okr⟩ := hrel
    have HN := Lib.hid hn
    have HNIL := Lib.hid hnil
    have HFZ := Lib.hid (fun w' (k : Ok wr w') => hfz.ok hx.1 k)
    have HSA := Lib.hid hsa
    have OKR := Lib.hid okr
    obtain ⟨X0, X1⟩ := hx
    clear hn hnil hfz hsa okr
    by_cases hlt : k < 45
    · have d1 : decide ((k : Int) < 45) = true := decide_eq_true (by omega)
      have hj0 : (0 : Int) ≤ (k : Int) := Int.natCast_nonneg _
      have hj1 : (k : Int) < 45 := by omega
      have hcv := convE wr k hlt
      have hct := catE k
      obtain ⟨tl, htl⟩ : ∃ t, (⟨#[UInt8.ofNat (97 + k / 10), UInt8.ofNat (48 + k % 10)]⟩ : Str) = t := ⟨_, rfl⟩
      obtain ⟨key, hkey⟩ : ∃ t, keyE k = t := ⟨_, rfl⟩
      rw [htl] at hcv hct
      have htz : ByteArray.size tl = 2 := by rw [← htl]; rfl
      rw [hkey] at hct
      have HKEY := Lib.hid hkey
      clear htl hkey
      go_upto_region 8 with fail
      clear hcv hct htz
      generalize hU : wr.alloc (.cells #[.int .u8 (97 + (k : Int) / 10), .int .u8 (48 + (k : Int) % 10)] 5) = U
      have oU : Ok wr U := by subst hU; exact Ok.alloc (Ok.refl _) _
      clear hU
      have hpw : pf < wr.heap.size := World.block_lt_of_cell? wr ⟨pf, 0, none⟩ X0
      replace X0 := Ok.cell oU X0
      replace X1 := Ok.cell oU X1
      have HTL := Lib.hid (fun g' vk ks w' (k' : Ok wr w') (hk : StrsN w'.heap.size w' vk ks) => tells_w (clE k).1 A n c (clE k).2 ⟨keyE k, ⟨#[]⟩⟩ g' vk ks HN.out.symm HNIL.out w' (HSA.out.ok k') hk)
      have HTN := Lib.hid (fun w' (k' : Ok wr w') => turn_w (clE k).1 A n c (clE k).2 ⟨keyE k, ⟨#[]⟩⟩ (2 + ((k % 3 : Nat) : Int)) HN.out.symm (by have := cl_len k; have := HN.out; omega) hnc w' (HSA.out.ok k'))
      have HSE := Lib.hid (step_E hlt)
      rw [HKEY.out] at HTL HTN HSE
      unfold TurnPost spV at HTN
      unfold spV at HTL
      rw [show (2 : Int) + ((k % 3 : Nat) : Int) = 2 + (k : Int) % 3 by omega] at HTN HSE
      have h3n := three_new U key ⟨#[97]⟩ ⟨#[122]⟩
      generalize hcl : clE k = cl at X0 HTL HTN HSE HN HSA
      have HCL := Lib.hid hcl
      clear hcl
      obtain ⟨ce, cxs⟩ := cl
      simp only at X0 HTL HTN HSE HN HSA
      generalize turnM ce cxs ⟨key, ⟨#[]⟩⟩ (2 + (k : Int) % 3) = R at HTN HSE
      obtain ⟨rk, rys⟩ := R
      simp only at HTN HSE
      have H3N := Lib.hid h3n
      have OU := Lib.hid oU
      clear h3n oU
      go_wp2_with fail
      have o4 := Ok.alloc (Ok.refl U) (.cells #[.string key, .string ⟨#[97]⟩, .string ⟨#[122]⟩] 9)
      have OU4 := Lib.hid (Ok.call OU.out o4)
      (with_reducible refine (HTL.out _ _ [key, ⟨#[97]⟩, ⟨#[122]⟩] _ OU4.out H3N.out).mono ?_)
      rintro _ w4 ⟨rfl, o5⟩
      have o6 := Ok.call o4 o5
      replace X0 := Ok.cell o6 X0
      replace X1 := Ok.cell o6 X1
      have O6 := Lib.hid (Ok.call OU.out o6)
      clear o4 o5 o6 H3N OU OU4 HTL
      go_wp2_with fail
      (with_reducible refine (HTN.out _ O6.out).mono ?_)
      rintro _ w5 ⟨A5, c5, rfl, hown, o7⟩
      have HO5 := Lib.hid hown
      replace X0 := Ok.cell o7 X0
      replace X1 := Ok.cell o7 X1
      have O7 := Lib.hid (Ok.call O6.out o7)
      clear hown o7 HTN
      obtain ⟨m, hm⟩ : ∃ m, rys.length = m := ⟨_, rfl⟩
      rw [hm] at HO5 ⊢
      have HM := Lib.hid hm
      clear hm
      generalize hE : (if rk = 0 then ce + 1 else 0) = E
      have HE := Lib.hid hE
      clear hE
      go_upto_region 11 with fail
      obtain ⟨ps, hps⟩ : ∃ q, w5.heap.size = q := ⟨_, rfl⟩
      have HX := Lib.hid (Two.new w5 E A5 m c5)
      rw [hps] at HX ⊢
      have oa := Ok.alloc (Ok.refl w5) (.cells #[.int .i64 E, .slice A5 m c5] 24)
      generalize w5.alloc (.cells #[.int .i64 E, .slice A5 m c5] 24) = V5 at HX oa ⊢
      replace X0 := Ok.cell oa X0
      replace X1 := Ok.cell oa X1
      have OV := Lib.hid (Ok.call O7.out oa)
      have HO5 := Lib.hid (HO5.out.ok oa)
      have hpz : pf < w4.heap.size := Nat.lt_of_lt_of_le hpw O6.out.size
      have hpps : ps ≠ pf := by have := (Ok.call O6.out (Ok.refl _)).size; have h5 := O7.out.size; omega
      clear oa hps
      have hfz := HFZ.out V5 OV.out
      have HFV := Lib.hid hfz
      rcases HSE.out with ⟨h0, h1, h2⟩ | ⟨h0, h1⟩
      · subst h0
        have hEE : E = ce + 1 := by rw [← HE.out, if_pos rfl]
        have HK1 := Lib.hid (And.intro h1 (And.intro h2 hEE))
        clear h1 h2 hEE
        obtain ⟨Y0, Y1⟩ := HX.out
        have f0 := hfz 0 (by decide)
        have f1 := hfz 1 (by decide)
        have HZ1 := Lib.hid (two_put2 (p := pf) (a := .int .i64 E) (b := .slice A5 m c5) X0 X1)
        clear hfz
        go_wp2
        have hcap := HO5.out.cap
        rw [HM.out] at hcap
        refine ⟨⟨k + 1, m, c5, A5, by omega, by go_num, ?_, hcap, HO5.out.nocap, ?_, frz2 HFV.out, ?_, Ok.put2 (Ok.call OKR.out OV.out) hwp⟩, ?_⟩
        · rw [HK1.out.2.1]; exact HM.out.symm
        · rw [HK1.out.1, ← HK1.out.2.2]; exact HZ1.out
        · rw [HK1.out.2.1]; exact (HO5.out.put2 hpz).at
        · show 45 - ((k : Int) + 1).toNat < 45 - (k : Int).toNat
          omega
      · have hb : (rk == 0) = false := beq_eq_false_iff_ne.2 h0
        have HK1 := Lib.hid h1
        clear h1 hfz h0
        have HX2 := Lib.hid (And.intro X0 X1)
        go_wp2
        refine ⟨⟨k + 1, n, c, A, by omega, by go_num, by rw [HK1.out]; exact HN.out, hnc, HNIL.out, by rw [HK1.out]; exact HX2.out, HFV.out, by rw [HK1.out]; exact HSA.out.ok OV.out, Ok.call OKR.out OV.out⟩, ?_⟩
        show 45 - ((k : Int) + 1).toNat < 45 - (k : Int).toNat
        omega
    · have d1 : decide ((k : Int) < 45) = false := decide_eq_false (by omega)
      obtain rfl : k = 45 := by omega
      have hn40 : n = 40 := by rw [HN.out]; exact cl_end
      subst hn40
      have HPF := Lib.hid (fun w' (k' : Ok wr w') => Ok.cell k' X1)
      clear X0 X1 HFZ HSA HNIL HN hnc d1 hlt hk
      go_upto_region 14 with fail
      obtain ⟨qn, hqn⟩ : ∃ q, wr.heap.size = q := ⟨_, rfl⟩
      have hnum : ∀ j : Nat, j < 8 → (wr.alloc (.cells #[.int .i64 (-1), .int .i64 0, .int .i64 1, .int .i64 2, .int .i64 4, .int .i64 5, .int .i64 1073741824, .int .i64 1073741825] 3)).cell? ⟨wr.heap.size, j, none⟩ = some (.int .i64 (numE j)) := fun j hj => by
        obtain rfl | rfl | rfl | rfl | rfl | rfl | rfl | rfl : j = 0 ∨ j = 1 ∨ j = 2 ∨ j = 3 ∨ j = 4 ∨ j = 5 ∨ j = 6 ∨ j = 7 := by omega
        all_goals (unfold numE; go_cell)
      rw [hqn] at hnum ⊢
      have oa := Ok.alloc (Ok.refl wr) (.cells #[.int .i64 (-1), .int .i64 0, .int .i64 1, .int .i64 2, .int .i64 4, .int .i64 5, .int .i64 1073741824, .int .i64 1073741825] 3)
      generalize wr.alloc (.cells #[.int .i64 (-1), .int .i64 0, .int .i64 1, .int .i64 2, .int .i64 4, .int .i64 5, .int .i64 1073741824, .int .i64 1073741825] 3) = W0 at hnum oa ⊢
      have HNUM := Lib.hid hnum
      have OW0 := Lib.hid (Ok.call OKR.out oa)
      have HPF := Lib.hid (fun w' (k' : Ok W0 w') => HPF.out w' (Ok.call oa k'))
      clear hnum oa OKR hqn
      go_upto_region 15 with fail
      go_loopw [7] (fun i wr => ∃ a : Nat, a ≤ 8 ∧ i = .int .i64 a ∧ Ok W0 wr) (fun i _ => 8 - (intOf i).toNat)
      case atStart => exact ⟨0, Nat.zero_le _, rfl, Ok.refl _⟩
      case round =>
        obtain ⟨a, ha, rfl, oka⟩ := hrel
        have OKA := Lib.hid oka
        clear oka
        by_cases hla : a < 8
        · have d1 : decide ((a : Int) < 8) = true := decide_eq_true (by omega)
          have ha0 : (0 : Int) ≤ (a : Int) := Int.natCast_nonneg _
          have ha1 : (a : Int) < 8 := by omega
          go_upto_region 18 with fail
          go_loopw [8] (fun i wr => ∃ b : Nat, b ≤ 8 ∧ i = .int .i64 b ∧ Ok W0 wr) (fun i _ => 8 - (intOf i).toNat)
          case atStart => exact ⟨0, Nat.zero_le _, rfl, OKA.out⟩
          case round =>
            obtain ⟨b, hb, rfl, okb⟩ := hrel
            have OKB := Lib.hid okb
            clear okb
            by_cases hlb : b < 8
            · have d2 : decide ((b : Int) < 8) = true := decide_eq_true (by omega)
              have hb0 : (0 : Int) ≤ (b : Int) := Int.natCast_nonneg _
              have hb1 : (b : Int) < 8 := by omega
              have N0 := Ok.cell OKB.out (HNUM.out a hla)
              have N1 := Ok.cell OKB.out (HNUM.out b hlb)
              have N2 := Ok.cell OKB.out (HNUM.out ((a + b) % 8) (Nat.mod_lt _ (by decide)))
              generalize numE a = na at N0
              generalize numE b = nb at N1
              generalize numE ((a + b) % 8) = nab at N2
              have hs0 : IntKind.i64.wrap ((a : Int) + (b : Int)) = (a : Int) + (b : Int) := by simp only [IntKind.wrap_i64]; omega
              have hm1 : ((a : Int) + (b : Int)) % 8 < 8 := by omega
              have hm0 : 0 ≤ ((a : Int) + (b : Int)) % 8 := by omega
              have hm2 : (((a : Int) + (b : Int)) % 8).toNat = (a + b) % 8 := by omega
              have hm3 : ((a : Int) + (b : Int)).tmod 8 = ((a : Int) + (b : Int)) % 8 := Int.tmod_eq_emod_of_nonneg (by omega)
              go_upto_region 20 with fail
              have HSQ := Lib.hid fun w' (k' : Ok wr w') => show w'.cell? ⟨qn, a, none⟩ = some (.int .i64 na) ∧ w'.cell? ⟨qn, b, none⟩ = some (.int .i64 nb) ∧ w'.cell? ⟨qn, (a + b) % 8, none⟩ = some (.int .i64 nab) ∧ OkS wr w' from ⟨Ok.cell k' N0, Ok.cell k' N1, Ok.cell k' N2, k'⟩
              go_cut [9] from 61 to 119 (fun v wx => T2At wr na ⟨allS, nb, nab⟩ v wx)
              case first =>
                go_region_held3 (fun w' => w'.cell? ⟨qn, a, none⟩ = some (.int .i64 na) ∧ w'.cell? ⟨qn, b, none⟩ = some (.int .i64 nb) ∧ w'.cell? ⟨qn, (a + b) % 8, none⟩ = some (.int .i64 nab) ∧ OkS wr w')
                  ((refine HSQ.out _ ?_; (repeat (first | (with_reducible exact Ok.refl _) | (with_reducible assumption) | (with_reducible refine Ok.drew ?_) | (with_reducible refine Ok.alloc ?_ _) | (with_reducible refine Ok.trans' ?_ (by assumption))))))
                  (fail)
                all_goals (go_wp2_with fail; go_meet)
                · exact T2At.ab wr na ⟨allS, nb, nab⟩
                · exact T2At.ba wr na ⟨allS, nb, nab⟩
              case rest =>
                obtain ⟨q9, A9, rfl, hT9, hS9, hn9, o9⟩ := hcut
                obtain ⟨ws, hws⟩ : ∃ v, v = wc := ⟨_, rfl⟩
                subst hws
                have HT9 := Lib.hid hT9
                have HS9 := Lib.hid hS9
                have HN9 := Lib.hid hn9
                have OKS9 := Lib.hid (Ok.call OKB.out o9)
                replace N0 := Ok.cell o9 N0
                replace N1 := Ok.cell o9 N1
                clear hT9 hS9 hn9 o9 HSQ N2 hs0 hm0 hm1 hm2 hm3
                go_upto_region 22 with fail
                have ht := T2At.ab ws na ⟨allS, 1, 1⟩
                obtain ⟨q10, hq10⟩ : ∃ q, ws.heap.size + 1 = q := ⟨_, rfl⟩
                obtain ⟨b10, hb10⟩ : ∃ q, ws.heap.size = q := ⟨_, rfl⟩
                have HT10 : Hid (∃ A, A = some ⟨b10, 0, none⟩ ∧ Two ((ws.alloc (.cells #[.string ⟨#[]⟩, .string ⟨#[]⟩, .int .i64 1, .int .i64 1] 35)).alloc (.cells #[.int .i64 na, .slice (some ⟨b10, 0, none⟩) 1 1] 24)) q10 na A 1 1 ∧ SharesAt ((ws.alloc (.cells #[.string ⟨#[]⟩, .string ⟨#[]⟩, .int .i64 1, .int .i64 1] 35)).alloc (.cells #[.int .i64 na, .slice (some ⟨b10, 0, none⟩) 1 1] 24)) A [⟨allS, 1, 1⟩]) := Lib.hid (by
                  subst hq10; subst hb10
                  have h1 := (one_ownsh ws ⟨allS, 1, 1⟩).at
                  have h2 := Two.new (ws.alloc (.cells #[.string ⟨#[]⟩, .string ⟨#[]⟩, .int .i64 1, .int .i64 1] 35)) na (some ⟨ws.heap.size, 0, none⟩) 1 1
                  rw [show (ws.alloc (.cells #[.string ⟨#[]⟩, .string ⟨#[]⟩, .int .i64 1, .int .i64 1] 35)).heap.size = ws.heap.size + 1 by simp] at h2
                  exact ⟨_, rfl, h2, h1.ok (Ok.alloc (Ok.refl _) _)⟩)
                have oa : Ok ws ((ws.alloc (.cells #[.string ⟨#[]⟩, .string ⟨#[]⟩, .int .i64 1, .int .i64 1] 35)).alloc (.cells #[.int .i64 na, .slice (some ⟨b10, 0, none⟩) 1 1] 24)) := Ok.alloc (Ok.alloc (Ok.refl _) _) _
                (try rw [hq10])
                (try rw [hb10])
                generalize (ws.alloc (.cells #[.string ⟨#[]⟩, .string ⟨#[]⟩, .int .i64 1, .int .i64 1] 35)).alloc (.cells #[.int .i64 na, .slice (some ⟨b10, 0, none⟩) 1 1] 24) = wt at HT10 oa ⊢
                obtain ⟨A10, hA10, ⟨Y0, Y1⟩, hS10⟩ := HT10.out
                obtain ⟨X0, X1⟩ := HT9.out.ok oa
                have HS9 := Lib.hid (HS9.out.ok oa)
                have HS10 := Lib.hid hS10
                have HA10 := Lib.hid (show A10 = none → (1 : Nat) = 0 from fun e => by rw [hA10] at e; cases e)
                replace N1 := Ok.cell oa N1
                have OKT := Lib.hid (Ok.call OKS9.out oa)
                clear oa ht hA10 hS10 HT10 HT9 N0 hq10 hb10
                have HC1 := Lib.hid (fun bk w' (k : Ok wt w') (hc : w'.cell? ⟨bk, 0, none⟩ = some (.string ⟨#[109]⟩)) => tells_w na A9 1 1 [⟨allS, nb, nab⟩] ⟨⟨#[109]⟩, ⟨#[]⟩⟩ nb _ [⟨#[109]⟩] rfl HN9.out w' (HS9.out.ok k) (one_key hc))
                have HC2 := Lib.hid (fun bk w' (k : Ok wt w') (hc : w'.cell? ⟨bk, 0, none⟩ = some (.string ⟨#[109]⟩)) => tells_w na A10 1 1 [⟨allS, 1, 1⟩] ⟨⟨#[109]⟩, ⟨#[]⟩⟩ nb _ [⟨#[109]⟩] rfl HA10.out w' (HS10.out.ok k) (one_key hc))
                have HC3 := Lib.hid (fun w' (k : Ok wt w') => tells_w na A10 1 1 [⟨allS, 1, 1⟩] ⟨⟨#[98]⟩, ⟨#[97]⟩⟩ 2 (.slice none 0 0) [] rfl HA10.out w' (HS10.out.ok k) (.inl ⟨rfl, none, 0, rfl, fun _ => rfl⟩))
                unfold spV at HC1 HC2 HC3
                simp only at HC1 HC2 HC3
                have HSQ := Lib.hid fun w' (k' : Ok wt w') => show w'.cell? ⟨qn, b, none⟩ = some (.int .i64 nb) ∧ w'.cell? ⟨q9, 0, none⟩ = some (.int .i64 na) ∧ w'.cell? ⟨q9, 1, none⟩ = some (.slice A9 1 1) ∧ w'.cell? ⟨q10, 0, none⟩ = some (.int .i64 na) ∧ w'.cell? ⟨q10, 1, none⟩ = some (.slice A10 1 1) ∧ OkS wt w' from ⟨Ok.cell k' N1, Ok.cell k' X0, Ok.cell k' X1, Ok.cell k' Y0, Ok.cell k' Y1, k'⟩
                go_cut [119] from 61 to 119 (fun v wx => v = .bool false ∧ Ok wt wx)
                case first =>
                  go_region_held3 (fun w' => w'.cell? ⟨qn, b, none⟩ = some (.int .i64 nb) ∧ w'.cell? ⟨q9, 0, none⟩ = some (.int .i64 na) ∧ w'.cell? ⟨q9, 1, none⟩ = some (.slice A9 1 1) ∧ w'.cell? ⟨q10, 0, none⟩ = some (.int .i64 na) ∧ w'.cell? ⟨q10, 1, none⟩ = some (.slice A10 1 1) ∧ OkS wt w')
                    ((refine HSQ.out _ ?_; (repeat (first | (with_reducible exact Ok.refl _) | (with_reducible assumption) | (with_reducible refine Ok.drew ?_) | (with_reducible refine Ok.alloc ?_ _) | (with_reducible refine Ok.trans' ?_ (by assumption))))))
                    (first
                      | (go_at_call 3; (with_reducible refine (HC1.out _ _ (by (repeat (first | (with_reducible exact Ok.refl _) | (with_reducible assumption) | (with_reducible refine Ok.drew ?_) | (with_reducible refine Ok.alloc ?_ _) | (with_reducible refine Ok.trans' ?_ (by assumption))))) (by go_cell)).mono ?_); rintro e wa ⟨rfl, o1a⟩)
                      | (go_at_call 3; (with_reducible refine (HC2.out _ _ (by (repeat (first | (with_reducible exact Ok.refl _) | (with_reducible assumption) | (with_reducible refine Ok.drew ?_) | (with_reducible refine Ok.alloc ?_ _) | (with_reducible refine Ok.trans' ?_ (by assumption))))) (by go_cell)).mono ?_); rintro e wb ⟨rfl, o1b⟩)
                      | (go_at_call 3; (with_reducible refine (HC3.out _ (by (repeat (first | (with_reducible exact Ok.refl _) | (with_reducible assumption) | (with_reducible refine Ok.drew ?_) | (with_reducible refine Ok.alloc ?_ _) | (with_reducible refine Ok.trans' ?_ (by assumption)))))).mono ?_); rintro e wd ⟨rfl, o1d⟩))
                  all_goals (go_wp2_with fail; go_meet)
                  exact ⟨by first | rfl | simp, by (repeat (first | (with_reducible exact Ok.refl _) | (with_reducible assumption) | (with_reducible refine Ok.drew ?_) | (with_reducible refine Ok.alloc ?_ _) | (with_reducible refine Ok.trans' ?_ (by assumption))))⟩
                case rest =>
                  obtain ⟨rfl, ocut⟩ := hcut
                  have OKE := Lib.hid (Ok.call OKT.out ocut)
                  clear ocut HSQ HC1 HC2 HC3 X0 X1 Y0 Y1 N1
                  go_wp2
                  refine ⟨⟨b + 1, by omega, by go_num, OKE.out⟩, ?_⟩
                  show 8 - ((b : Int) + 1).toNat < 8 - (b : Int).toNat
                  omega
            · have d2 : decide ((b : Int) < 8) = false := decide_eq_false (by omega)
              obtain rfl : b = 8 := by omega
              go_wp2
              refine ⟨⟨a + 1, by omega, by go_num, OKB.out⟩, ?_⟩
              show 8 - ((a : Int) + 1).toNat < 8 - (a : Int).toNat
              omega
        · have d1 : decide ((a : Int) < 8) = false := decide_eq_false (by omega)
          have P1 := HPF.out wr OKA.out
          go_wp2
          go_ret
          exact ⟨by first | rfl | simp, Ok.call OW0.out OKA.out⟩
end Go.Proofs.YtdabdkedgigjdaaGreat
namespace Go.Proofs.YtdabdkedgigjdaaGreat
open Go.ChangeShapes Go.WideShapes Go.ChangeAt Go.RowKit

set_option maxRecDepth 100000 in
theorem sharesEnds_lifted (os : Os) (started : os.Started) (H : Type) (enc : TypeId × Value → H) :
    ReturnsInHanded {} Tryz.checked os 4 .any (Rows.sharesEndsSpec.pre6 enc Tryz.prog Tryz.f4 Rows.sharesEndsRow.domain false) (Rows.sharesEndsSpec.post enc Tryz.prog Tryz.f4 false true false false) := by
  refine returnsInHanded_of_change (C := Tryz.checked) own started (by kernel_rfl) Tryz.func4
    (ChangeSpec.witness6 (enc := enc) (C := Tryz.checked) false ⟨#[], #[], []⟩ 8 (by kernel_rfl) (by kernel_rfl) (by kernel_rfl) (by kernel_rfl)) ?_
  intro W base args ds gs before hval0 hW _ _
  have hW' := hW
  obtain ⟨p, q, hA0, hV, rfl, hfz, hnd⟩ := hW
  have hA : DataW.TrodAll enc Tryz.prog W 0 (fun _ => true) true Tryz.f4.params.toList args.toList ds p := hA0
  rw [Tryz.params4] at hA
  obtain ⟨hargs, rfl, rfl⟩ := trodAll_nil hA
  obtain rfl : args = #[] := Array.toList_eq_nil_iff.1 hargs
  obtain ⟨rfl, rfl⟩ := trodVars_none hV
  refine (sharesEnds_w W).mono fun e W' ⟨he, hbe⟩ => ?_
  subst he
  have hA1 : DataW.TrodAll enc Tryz.prog W' 0 (fun b => decide (b < W.heap.size)) true Tryz.f4.params.toList (#[] : Array Value).toList [] [] := by
    rw [Tryz.params4]; exact rfl
  exact ⟨_, rfl, _, _, _, [], _, [], hW', trodAll_mk1 (shut_bool Tryz.underlying4 _), hA1, rfl, hbe.frame _, fun h => by cases h⟩

theorem sharesEnds_proved : Rows.SharesEndsSaid :=
  OpenClaim.holds_of_wide 4 Tryz.f4 rfl rfl rfl rfl rfl rfl rfl ⟨rfl, rfl, rfl, rfl, rfl⟩ rfl rfl rfl rfl rfl (by kernel_rfl) Tryz.func4 (by kernel_rfl)
    (of_decide_eq_true (by kernel_rfl)) (by unfold Func.isWrapper; first | (rw [if_pos (by decide +kernel)]; kernel_rfl) | (rw [if_neg (by decide +kernel)]; exact ⟨rfl, rfl⟩))
    (fun os started H enc _ => sharesEnds_lifted os started H enc)
end Go.Proofs.YtdabdkedgigjdaaGreat
