/- The contract of Cut, walked. -/
import Derived.Test.YtdabdkedgigjdaaGreatH
namespace Go.Proofs.YtdabdkedgigjdaaGreat
open Go.RowKit

/-- What a call that tells spans leaves. -/
def SpansPost (w : World) (ps : List Sp) : Ending → World → Prop := fun e w' => ∃ A c, e = .returned (.slice A ps.length c) ∧ OwnS w' w.heap.size A ps.length c ps ∧ Ok w w'
theorem OwnS.base {w : World} {B B' : Nat} {A : Option Addr} {n c : Nat} {ps : List Sp} (h : OwnS w B A n c ps) (hb : B' ≤ B) : OwnS w B' A n c ps := by
  refine ⟨⟨h.1.1, ?_⟩, h.2⟩
  rcases h.1.2 with h2 | ⟨g, cap, cur, e, hbb, r⟩
  · exact .inl h2
  · exact .inr ⟨g, cap, cur, e, Nat.le_trans hb hbb, r⟩
theorem SpansPost.mk {w w' : World} {ps : List Sp} {e : Ending} (A : Option Addr) (n c : Nat) (he : e = .returned (.slice A n c)) (h : OwnS w' w.heap.size A n c ps) (ho : Ok w w') : SpansPost w ps e w' := by
  obtain ⟨h1, rfl⟩ := h
  exact ⟨A, c, he, ⟨h1, rfl⟩, ho⟩

theorem OwnS.ok {w w' : World} {B : Nat} {A : Option Addr} {n c : Nat} {ps : List Sp} (h : OwnS w B A n c ps) (k : Ok w w') : OwnS w' B A n c ps := by
  refine ⟨h.1.kept (row := none) ⟨k.os, k.tape, k.output, k.size, fun i hi _ => k.block i hi⟩ ?_, h.2⟩
  cases Value.ownBlock (.slice A n c) with
  | none => exact .inl rfl
  | some b => exact .inr (fun e => by cases e)
theorem Ok.trans' {w w' w'' : World} (h : Ok w w') (k : Ok w' w'') : Ok w w'' := Ok.call h k

set_option maxRecDepth 100000 in
set_option maxHeartbeats 4000000 in
theorem cut_w (s : Sp) (A : Option Addr) (m c : Nat) (zs : List Str) (hzl : zs.length ≤ 1000000) (w : World) (hI : Strs w.heap.size w (.slice A m c) zs) :
    Calls Tryz.prog 104 #[spV s, .slice A m c] w (SpansPost w (cutM s (sortS zs))) := by
  have hr := right_w s
  have HHAS := Lib.hid (fun k => has_w s k)
  have HIS := Lib.hid hI
  obtain ⟨sl, sh⟩ := s
  unfold spV at hr HHAS ⊢
  clear hI
  cases h1 : rightB ⟨sl, sh⟩ with
  | false =>
    rw [h1] at hr
    have em : cutM ⟨sl, sh⟩ (sortS zs) = [] := by simp [cutM, h1]
    rw [em]
    go_enter Tryz.func104, Tryz.ntmps104
    go_wp2_with fail
    refine (hr _).mono ?_
    rintro _ w1 ⟨rfl, o1⟩
    go_wp2
    go_ret
    exact SpansPost.mk none 0 0 rfl ⟨World.ownsRow_nil _ _ _ _, rfl⟩ (Ok.call (Ok.alloc (Ok.refl w) _) o1)
  | true =>
    rw [h1] at hr
    have em : Hid (cutM ⟨sl, sh⟩ (sortS zs) = (cutSt ⟨sl, sh⟩ (sortS zs)).1 ++ [⟨(cutSt ⟨sl, sh⟩ (sortS zs)).2, sh⟩]) := Lib.hid (by simp [cutM, h1])
    obtain ⟨R, hR⟩ : ∃ R, cutM ⟨sl, sh⟩ (sortS zs) = R := ⟨_, rfl⟩
    rw [hR] at em ⊢
    clear hR
    obtain ⟨ks, hks⟩ : ∃ ks, sortS zs = ks := ⟨_, rfl⟩
    have HKL : Hid (ks.length ≤ 1000000) := Lib.hid (by rw [← hks, sortS_len]; exact hzl)
    rw [hks] at em
    have HKS := Lib.hid hks
    clear hks
    go_enter Tryz.func104, Tryz.ntmps104
    go_wp2_with fail
    refine (hr _).mono ?_
    rintro _ w1 ⟨rfl, o1⟩
    have A0 : w1.cell? ⟨w.heap.size, 0, none⟩ = some (.string sl) := Ok.cell o1 (by go_cell)
    have A1 : w1.cell? ⟨w.heap.size, 1, none⟩ = some (.string sh) := Ok.cell o1 (by go_cell)
    have ok1 : Hid (Ok w w1) := Lib.hid (Ok.call (Ok.alloc (Ok.refl w) _) o1)
    clear o1
    go_wp2_with fail
    refine (values_w _ _ _ _).mono ?_
    rintro _ w2 ⟨rfl, rfl⟩
    have HS2 : Hid (Strs (w1.alloc (.cells #[.slice A m c] 27)).heap.size (w1.alloc (.cells #[.slice A m c] 27)) (.slice A m c) zs) := Lib.hid (by
      have hb : Below w.heap.size w (w1.alloc (.cells #[.slice A m c] 27)) := Ok.alloc ok1.out _
      rcases HIS.out.below hb with h | ⟨b, off, cap, e, hb, hc⟩
      · exact .inl h
      · exact .inr ⟨b, off, cap, e, Nat.lt_of_lt_of_le hb (Ok.alloc ok1.out (.cells #[.slice A m c] 27)).size, hc⟩)
    go_wp2_with fail
    refine (sorted_w w1.heap.size (.slice A m c) zs hzl _ (by simp) (by go_cell) HS2.out).mono ?_
    rintro _ w3 ⟨A3, c3, rfl, o3, hcl⟩
    have A0 : w3.cell? ⟨w.heap.size, 0, none⟩ = some (.string sl) := Ok.cell (Ok.call (Ok.alloc (Ok.refl w1) _) o3) A0
    have A1 : w3.cell? ⟨w.heap.size, 1, none⟩ = some (.string sh) := Ok.cell (Ok.call (Ok.alloc (Ok.refl w1) _) o3) A1
    have ok3 : Hid (Ok w w3) := Lib.hid (Ok.call (Ok.alloc ok1.out _) o3)
    rw [HKS.out] at hcl ⊢
    have HCL := Lib.hid hcl
    clear hcl o3 ok1 HS2
    obtain ⟨n, hn⟩ : ∃ n, ks.length = n := ⟨_, rfl⟩
    rw [hn]
    have HN := Lib.hid hn
    have hn6 : n ≤ 1000000 := by rw [← hn]; exact HKL.out
    clear hn
    go_wp2_with fail
    go_loopw [5, 6, 18] (fun l lo i wr => ∃ (k : Nat) (A' : Option Addr) (m' c' : Nat) (st : List Sp × Str), k ≤ n ∧ i = .int .i64 k ∧ st = cutSt ⟨sl, sh⟩ (ks.take k) ∧ lo = .string st.2 ∧ l = .slice A' m' c' ∧ OwnS wr w3.heap.size A' m' c' st.1 ∧ Ok w3 wr) (fun _ _ i _ => n - (intOf i).toNat)
    case atStart => exact ⟨0, none, 0, 0, ([], sl), Nat.zero_le _, rfl, by simp [cutSt], rfl, rfl, ⟨World.ownsRow_nil _ _ _ _, rfl⟩, Ok.refl _⟩
    case round =>
      obtain ⟨k, A', m', c', st, hk, rfl, hst, rfl, rfl, hown, okr⟩ := hrel
      have HST := Lib.hid hst
      have HOWN := Lib.hid hown
      have HOKR := Lib.hid okr
      have A0 := Ok.cell okr A0
      have A1 := Ok.cell okr A1
      clear hst hown okr
      obtain ⟨acc, lo⟩ := st
      by_cases hlt : k < n
      · have d1 : decide ((k : Int) < (n : Int)) = true := decide_eq_true (by omega)
        obtain ⟨g, rfl, hcell⟩ := HCL.out k (by rw [HN.out]; exact hlt)
        have hcell := Ok.cell HOKR.out hcell
        have hbB : Hid (w3.heap.size ≤ wr.heap.size) := Lib.hid HOKR.out.size
        have HLE : Hid (acc.length ≤ 1000000) := Lib.hid (by
          have h1 := cutSt_len ⟨sl, sh⟩ (ks.take k)
          rw [← HST.out] at h1
          have h2 := HKL.out
          have h3 : (ks.take k).length ≤ ks.length := by rw [List.length_take]; omega
          exact Nat.le_trans h1 (Nat.le_trans h3 h2))
        have HNX : Hid (cutSt ⟨sl, sh⟩ (ks.take (k + 1)) = cutStep ⟨sl, sh⟩ (acc, lo) (at0 ks k)) := Lib.hid (by
          rw [take_at ks k (by rw [HN.out]; exact hlt), cutSt_snoc, ← HST.out])
        have hh := HHAS.out (at0 ks k)
        have hb := below_w lo (at0 ks k)
        cases h2 : hasB ⟨sl, sh⟩ (at0 ks k) with
        | false =>
          rw [h2] at hh
          have HX2 : Hid ((acc, lo) = cutSt ⟨sl, sh⟩ (ks.take (k + 1))) := Lib.hid (by rw [HNX.out]; simp [cutStep, h2])
          go_wp2_with fail
          refine (hh _).mono ?_
          rintro _ w4 ⟨rfl, o4⟩
          go_wp2
          refine ⟨⟨k + 1, A', m', c', (acc, lo), hlt, rfl, HX2.out, rfl, rfl, HOWN.out.ok o4, Ok.call HOKR.out o4⟩, ?_⟩
          show n - ((k : Int) + 1).toNat < n - (k : Int).toNat
          omega
        | true =>
          rw [h2] at hh
          cases h3 : ltB lo (at0 ks k) with
          | false =>
            rw [h3] at hb
            have HX2 : Hid ((acc, lo) = cutSt ⟨sl, sh⟩ (ks.take (k + 1))) := Lib.hid (by rw [HNX.out]; simp [cutStep, h2, h3])
            go_wp2_with fail
            refine (hh _).mono ?_
            rintro _ w4 ⟨rfl, o4⟩
            go_wp2_with fail
            refine (hb _).mono ?_
            rintro _ w5 ⟨rfl, o5⟩
            go_wp2
            refine ⟨⟨k + 1, A', m', c', (acc, lo), hlt, rfl, HX2.out, rfl, rfl, (HOWN.out.ok o4).ok o5, Ok.call (Ok.call HOKR.out o4) o5⟩, ?_⟩
            show n - ((k : Int) + 1).toNat < n - (k : Int).toNat
            omega
          | true =>
            rw [h3] at hb
            have HX2 : Hid ((acc ++ [⟨lo, at0 ks k⟩], at0 ks k) = cutSt ⟨sl, sh⟩ (ks.take (k + 1))) := Lib.hid (by rw [HNX.out]; simp [cutStep, h2, h3])
            go_wp2_with fail
            refine (hh _).mono ?_
            rintro _ w4 ⟨rfl, o4⟩
            go_wp2_with fail
            refine (hb _).mono ?_
            rintro _ w5 ⟨rfl, o5⟩
            have HOW5 : Hid (OwnS (w5.alloc (.cells #[.string lo, .string (at0 ks k)] 26)) w3.heap.size A' m' c' acc) := Lib.hid ⟨World.ownsRow.alloc ((HOWN.out.ok o4).ok o5).1 _, HOWN.out.2⟩
            have ok5 : Hid (Ok w3 (w5.alloc (.cells #[.string lo, .string (at0 ks k)] 26))) := Lib.hid (Ok.alloc (Ok.call (Ok.call HOKR.out o4) o5) _)
            have n0 : Hid ((w5.alloc (.cells #[.string lo, .string (at0 ks k)] 26)).cell? ⟨w5.heap.size, 0, none⟩ = some (.string lo)) := Lib.hid (by go_cell)
            have n1 : Hid ((w5.alloc (.cells #[.string lo, .string (at0 ks k)] 26)).cell? ⟨w5.heap.size, 1, none⟩ = some (.string (at0 ks k))) := Lib.hid (by go_cell)
            clear o4 o5
            go_wp2_with (at_builtin; go_must (refine wpList_appS rfl (.tmp 30) (.tmp 34) rfl w3.heap.size A' m' c' acc w5.heap.size ⟨lo, at0 ks k⟩ rfl rfl HOW5.out n0.out n1.out HLE.out ok5.out.size ?_; intro A6 c6 w6 hown6 hb6; have HOW6 := Lib.hid hown6; have HB6 := Lib.hid hb6; clear hown6 hb6))
            refine ⟨⟨k + 1, A6, m' + 1, c6, (acc ++ [⟨lo, at0 ks k⟩], at0 ks k), hlt, rfl, HX2.out, rfl, rfl, HOW6.out, Below.trans ok5.out HB6.out⟩, ?_⟩
            show n - ((k : Int) + 1).toNat < n - (k : Int).toNat
            omega
      · have d1 : decide ((k : Int) < (n : Int)) = false := decide_eq_false (by omega)
        have HF : Hid (R = acc ++ [⟨lo, sh⟩]) := Lib.hid (by
          rw [em.out]
          have : ks.take k = ks := List.take_of_length_le (by rw [HN.out]; omega)
          rw [this] at HST
          rw [← HST.out])
        have HLE : Hid (acc.length ≤ 1000000) := Lib.hid (by
          have h1 := cutSt_len ⟨sl, sh⟩ (ks.take k)
          rw [← HST.out] at h1
          have h2 := HKL.out
          have h3 : (ks.take k).length ≤ ks.length := by rw [List.length_take]; omega
          exact Nat.le_trans h1 (Nat.le_trans h3 h2))
        have HOW5 : Hid (OwnS (wr.alloc (.cells #[.string lo, .string sh] 26)) w3.heap.size A' m' c' acc) := Lib.hid ⟨World.ownsRow.alloc HOWN.out.1 _, HOWN.out.2⟩
        have ok5 : Hid (Ok w3 (wr.alloc (.cells #[.string lo, .string sh] 26))) := Lib.hid (Ok.alloc HOKR.out _)
        have n0 : Hid ((wr.alloc (.cells #[.string lo, .string sh] 26)).cell? ⟨wr.heap.size, 0, none⟩ = some (.string lo)) := Lib.hid (by go_cell)
        have n1 : Hid ((wr.alloc (.cells #[.string lo, .string sh] 26)).cell? ⟨wr.heap.size, 1, none⟩ = some (.string sh)) := Lib.hid (by go_cell)
        go_wp2_with (at_builtin; go_must (refine wpList_appS rfl (.tmp 38) (.tmp 43) rfl w3.heap.size A' m' c' acc wr.heap.size ⟨lo, sh⟩ rfl rfl HOW5.out n0.out n1.out HLE.out ok5.out.size ?_; intro A6 c6 w6 hown6 hb6; have HOW6 := Lib.hid hown6; have HB6 := Lib.hid hb6; clear hown6 hb6))
        go_ret
        rw [HF.out]
        exact SpansPost.mk A6 _ c6 rfl (HOW6.out.base ok3.out.size) (Ok.trans' ok3.out (Below.trans ok5.out HB6.out))

end Go.Proofs.YtdabdkedgigjdaaGreat
