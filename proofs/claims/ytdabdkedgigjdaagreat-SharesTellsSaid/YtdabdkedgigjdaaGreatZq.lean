/- The document's own Groups, walked. -/
import Derived.Test.YtdabdkedgigjdaaGreatZp
import Derived.Test.YtdabdkedgigjdaaGreatZn
import Derived.Deep.CutRange
import Derived.Outline
namespace Go.Proofs.YtdabdkedgigjdaaGreat
open Go.RowKit

def inG (xs : List Sh) (ks : List Str) (k : Nat) (g : Int) : Bool := (ks.take k).any fun s => groupOf xs s == g
theorem inG_succ (xs : List Sh) (ks : List Str) (k : Nat) (hk : k < ks.length) (g : Int) : inG xs ks (k + 1) g = (inG xs ks k g || (groupOf xs (at0 ks k) == g)) := by
  unfold inG
  rw [List.take_succ_eq_append_getElem hk, List.any_append]
  simp [at0, hk]
theorem groupOf_in {ep : Int} {xs : List Sh} (h : sharesB ep xs = true) {s : Str} (hs : keyB s = true) : 1 ≤ groupOf xs s ∧ groupOf xs s ≤ 4 := by
  have := shares_some h s
  rw [hs] at this
  obtain ⟨y, hy⟩ := Option.isSome_iff_exists.1 this
  have hm := List.mem_of_find?_eq_some hy
  have ho := (shares_parts h).2.2.2.2 y hm
  unfold groupOf
  rw [hy]
  simp only [shOkB, groupB, Bool.and_eq_true, decide_eq_true_eq] at ho
  exact ho.1.1
theorem groups_good {ep : Int} {xs : List Sh} {ks : List Str} (h : sharesB ep xs = true) (hk : ∀ j, j < ks.length → keyB (at0 ks j) = true) :
    groupsM ep xs ks = (([1, 2, 3, 4] : List Int).filter (fun g => inG xs ks ks.length g), true) := by
  have hall : ks.all keyB = true := by
    rw [List.all_eq_true]
    intro s hs
    obtain ⟨j, hj, rfl⟩ := List.getElem_of_mem hs
    have := hk j hj
    simpa [at0, hj] using this
  unfold groupsM
  rw [if_pos (by rw [h, hall]; rfl), one_four _ (fun x hx => by
    obtain ⟨s, hs, rfl⟩ := List.mem_map.1 hx
    exact groupOf_in h (List.all_eq_true.1 hall s hs))]
  congr 2
  funext g
  unfold inG
  rw [List.take_length]
  rw [Bool.eq_iff_iff]
  simp [List.mem_map]
theorem groups_bad {ep : Int} {xs : List Sh} {ks : List Str} (h : sharesB ep xs = false ∨ ∃ j, j < ks.length ∧ keyB (at0 ks j) = false) : groupsM ep xs ks = ([], false) := by
  unfold groupsM
  rw [if_neg]
  intro hc
  rw [Bool.and_eq_true] at hc
  rcases h with h | ⟨j, hj, h⟩
  · rw [h] at hc; exact absurd hc.1 (by decide)
  · have := List.all_eq_true.1 hc.2 (at0 ks j) (by simp [at0, hj])
    rw [h] at this; exact absurd this (by decide)
/-- Five marks at a block. -/
def IsAt (w : World) (q : Nat) (f : Int → Bool) : Prop := (∀ g : Nat, g < 5 → w.cell? ⟨q, g, none⟩ = some (.bool (f g))) ∧ ∀ g : Nat, g < 5 → w.frozen? ⟨q, g, none⟩ = false
theorem IsAt.ok {w w' : World} {q : Nat} {f : Int → Bool} (h : IsAt w q f) (k : Ok w w') : IsAt w' q f :=
  ⟨fun g hg => Ok.cell k (h.1 g hg), fun g hg => (Below.frozen k (p := ⟨q, g, none⟩) (World.block_lt_of_cell? w ⟨q, g, none⟩ (h.1 g hg))).trans (h.2 g hg)⟩
theorem IsAt.set {w : World} {q : Nat} {f f' : Int → Bool} (h : IsAt w q f) (d : Nat) (hd : d < 5) (hf : ∀ g : Int, f' g = (f g || ((d : Int) == g))) : IsAt (w.setCell ⟨q, d, none⟩ (.bool true)) q f' := by
  refine ⟨fun g hg => ?_, fun g hg => by rw [World.frozen?_setCell]; exact h.2 g hg⟩
  by_cases e : g = d
  · subst e
    rw [World.cell?_setCell_same _ _ _ (h.1 g hg), hf]; simp
  · rw [World.cell?_setCell_other _ _ _ _ (fun h => by cases h; exact e rfl), h.1 g hg, hf]
    have : ((d : Int) == (g : Int)) = false := beq_eq_false_iff_ne.2 (by omega)
    rw [this, Bool.or_false]
def XAt (wq : World) (is : Bool) (g : Int) (vp vo : Value) (wx : World) : Prop := ∃ p, vp = .pointer (some ⟨p, 0, none⟩) ∧ vo = .bool is ∧ wx.cell? ⟨p, 2, none⟩ = some (.int .i64 g) ∧ Ok wq wx
theorem GroupsPost.mk {w w' : World} {r : List Int × Bool} {e : Ending} (A : Option Addr) (n c : Nat) (he : e = .returned (.tuple #[.slice A n c, .bool r.2])) (h : OwnI w' w.heap.size A n c r.1) (ho : Ok w w') : GroupsPost w r e w' := by
  obtain ⟨h1, rfl⟩ := h
  exact ⟨A, c, he, ⟨h1, rfl⟩, ho⟩

set_option maxRecDepth 100000 in
set_option maxHeartbeats 2000000 in
theorem rgroups_w (ep : Int) (A : Option Addr) (n c : Nat) (xs : List Sh) (B : Option Addr) (m d : Nat) (ks : List Str) (hn : xs.length = n) (hn6 : n ≤ 1000) (hm : ks.length = m) (hk6 : m ≤ 1000) (w : World) (hI : SharesAt w A xs)
    (hz : ∀ j, j < m → ∃ b off, B = some ⟨b, off, none⟩ ∧ w.cell? ⟨b, off + j, none⟩ = some (.string (at0 ks j))) :
    Calls Tryz.prog 16 #[.agg #[.int .i64 ep, .slice A n c], .slice B m d] w (GroupsPost w (groupsM ep xs ks)) := by
  have HSR := Lib.hid (fun w' (k : Ok w w') => rsharesRight_w ep A n c xs hn hn6 w' (hI.ok k))
  have HOF := Lib.hid (fun kk w' (k : Ok w w') => rof_w kk ep A n c xs hn hn6 w' (hI.ok k))
  have HZ := Lib.hid hz
  have HM := Lib.hid hm
  obtain ⟨R, hR⟩ : ∃ R, groupsM ep xs ks = R := ⟨_, rfl⟩
  have HBAD : Hid ((sharesB ep xs = false ∨ ∃ j, j < m ∧ keyB (at0 ks j) = false) → R = ([], false)) := Lib.hid (fun h => by rw [← hR]; exact groups_bad (by rwa [hm]))
  have HGOOD : Hid (sharesB ep xs = true → (∀ j, j < m → keyB (at0 ks j) = true) → R = (([1, 2, 3, 4] : List Int).filter (fun g => inG xs ks m g), true)) := Lib.hid (fun h1 h2 => by rw [← hR, groups_good h1 (by rwa [hm]), hm])
  have HFK : Hid (sharesB ep xs = true → ∀ s, ∃ x, shareV (firstM ep xs (fun x => hasB x.sp s)) = .tuple #[shV x, .bool (keyB s)] ∧ (keyB s = true → x.g = groupOf xs s ∧ 1 ≤ x.g ∧ x.g ≤ 4)) := Lib.hid (fun h s => by
    refine ⟨_, by unfold shareV firstM; rw [if_pos h, shares_some h], fun hs => ?_⟩
    have := groupOf_in h hs
    exact ⟨rfl, this⟩)
  rw [hR]
  clear hR hI hz hn hm
  obtain ⟨sr, hsr⟩ : ∃ b, sharesB ep xs = b := ⟨_, rfl⟩
  rw [hsr] at HSR HBAD HGOOD HFK
  clear hsr
  obtain ⟨p, hp⟩ : ∃ p, w.heap.size = p := ⟨_, rfl⟩
  go_enter Tryz.func16, Tryz.ntmps16
  go_wp2_with fail
  generalize hW : w.alloc (.cells #[.int .i64 ep, .slice A n c] 24) = W
  have S0 : W.cell? ⟨p, 0, none⟩ = some (.int .i64 ep) := by subst hW; subst hp; go_cell
  have S1 : W.cell? ⟨p, 1, none⟩ = some (.slice A n c) := by subst hW; subst hp; go_cell
  have okW : Hid (Ok w W) := Lib.hid (by subst hW; exact Ok.alloc (Ok.refl w) _)
  clear hW
  (with_reducible refine (HSR.out W okW.out).mono ?_)
  rintro _ w1 ⟨rfl, o1⟩
  have OK1 := Lib.hid (Ok.call okW.out o1)
  replace S0 := Ok.cell o1 S0; replace S1 := Ok.cell o1 S1
  clear o1 okW HSR
  cases sr with
  | false =>
    have HR := Lib.hid (HBAD.out (.inl rfl))
    go_wp2
    go_ret2
    exact GroupsPost.mk none 0 0 (by rw [HR.out]; rfl) (by rw [HR.out]; exact OwnI.nil _ _) OK1.out
  | true =>
  have HFK2 := Lib.hid (HFK.out rfl)
  have HGOOD2 := Lib.hid (HGOOD.out rfl)
  clear HFK HGOOD
  go_wp2_with fail
  obtain ⟨q, hq⟩ : ∃ q, w1.heap.size = q := ⟨_, rfl⟩
  have hpq : p < q := by have : p < w1.heap.size := World.block_lt_of_cell? w1 ⟨p, 0, none⟩ S0; omega
  have hwq : w.heap.size ≤ q := by omega
  try rw [hq]
  generalize hU : w1.alloc (.cells #[.bool false, .bool false, .bool false, .bool false, .bool false] 99) = U
  have oU : Ok w1 U := by subst hU; exact Ok.alloc (Ok.refl _) _
  have HIS : Hid (IsAt U q (inG xs ks 0)) := Lib.hid ⟨fun g hg => by
    subst hU; subst hq
    obtain rfl | rfl | rfl | rfl | rfl : g = 0 ∨ g = 1 ∨ g = 2 ∨ g = 3 ∨ g = 4 := by omega
    all_goals (simp only [inG, List.take_zero, List.any_nil]; go_cell), fun g hg => by
    subst hU; subst hq
    obtain rfl | rfl | rfl | rfl | rfl : g = 0 ∨ g = 1 ∨ g = 2 ∨ g = 3 ∨ g = 4 := by omega
    all_goals go_cell⟩
  replace S0 := Ok.cell oU S0; replace S1 := Ok.cell oU S1
  have OKU := Lib.hid (Ok.call OK1.out oU)
  clear hU oU OK1
  have HS01 := Lib.hid (And.intro S0 S1)
  clear S0 S1
  go_loopw [7] (fun i wr => ∃ k : Nat, k ≤ m ∧ i = .int .i64 k ∧ (∀ j, j < k → keyB (at0 ks j) = true) ∧ IsAt wr q (inG xs ks k) ∧ wr.cell? ⟨p, 0, none⟩ = some (.int .i64 ep) ∧ wr.cell? ⟨p, 1, none⟩ = some (.slice A n c) ∧ Ok w wr) (fun i _ => m - (intOf i).toNat)
  case atStart => exact ⟨0, Nat.zero_le _, rfl, fun j hj => absurd hj (Nat.not_lt_zero _), HIS.out, HS01.out.1, HS01.out.2, OKU.out⟩
  case round =>
    clear HIS HS01 OKU
    obtain ⟨k, hk, rfl, hkeys, his, S0, S1, okr⟩ := hrel
    have HKEYS := Lib.hid hkeys
    have HIS := Lib.hid his
    have OKR := Lib.hid okr
    clear hkeys his okr
    by_cases hlt : k < m
    · have d1 : decide ((k : Int) < (m : Int)) = true := decide_eq_true (by omega)
      have hj0 : (0 : Int) ≤ (k : Int) := Int.natCast_nonneg _
      have hj1 : (k : Int) < (m : Int) := by omega
      have hj2 : (k : Int) < 1000 := by omega
      obtain ⟨bl, off, rfl, hc0⟩ := HZ.out k hlt
      have hc := Ok.cell OKR.out hc0
      clear hc0
      obtain ⟨x, hx, hxg⟩ := HFK2.out (at0 ks k)
      have HOFK := Lib.hid (fun w' (k' : Ok wr w') => HOF.out (at0 ks k) w' (Ok.call OKR.out k'))
      rw [hx] at HOFK
      have HNX := Lib.hid (inG_succ xs ks k (by rw [HM.out]; exact hlt))
      obtain ⟨kb, hkb⟩ : ∃ b, keyB (at0 ks k) = b := ⟨_, rfl⟩
      rw [hkb] at HOFK hxg
      have HKB := Lib.hid hkb
      have HXG := Lib.hid hxg
      clear hkb hxg hx
      generalize hkey : at0 ks k = key at hc HOFK HNX HXG HKB
      have HKEY := Lib.hid hkey
      clear hkey
      obtain ⟨⟨xl, xh⟩, xg, xe⟩ := x
      unfold shV at HOFK
      simp only at HOFK HXG
      have HSQ := Lib.hid fun w' (k' : Ok wr w') => show w'.cell? ⟨p, 0, none⟩ = some (.int .i64 ep) ∧ w'.cell? ⟨p, 1, none⟩ = some (.slice A n c) ∧ w'.cell? ⟨bl, off + k, none⟩ = some (.string key) ∧ OkS wr w' from ⟨Ok.cell k' S0, Ok.cell k' S1, Ok.cell k' hc, k'⟩
      have HD0 : Hid (Ok wr wr.drew) := Lib.hid (Ok.drew (Ok.refl _))
      have HDA : Hid (Ok wr (wr.alloc (.cells #[.string ⟨#[]⟩, .string ⟨#[]⟩, .int .i64 0, .int .i64 0] 35)).drew) := Lib.hid (Ok.drew (Ok.alloc (Ok.refl _) _))
      have HZW : Hid (∀ w', Ok (wr.alloc (.cells #[.string ⟨#[]⟩, .string ⟨#[]⟩, .int .i64 0, .int .i64 0] 35)).drew w' → (w'.cell? ⟨wr.heap.size, 0, none⟩ = some (.string ⟨#[]⟩) ∧ w'.cell? ⟨wr.heap.size, 1, none⟩ = some (.string ⟨#[]⟩) ∧ w'.cell? ⟨wr.heap.size, 2, none⟩ = some (.int .i64 0) ∧ w'.cell? ⟨wr.heap.size, 3, none⟩ = some (.int .i64 0)) ∧ (w'.frozen? ⟨wr.heap.size, 0, none⟩ = false ∧ w'.frozen? ⟨wr.heap.size, 1, none⟩ = false ∧ w'.frozen? ⟨wr.heap.size, 2, none⟩ = false ∧ w'.frozen? ⟨wr.heap.size, 3, none⟩ = false)) := Lib.hid fun w' k' => by
        generalize hV : (wr.alloc (.cells #[.string ⟨#[]⟩, .string ⟨#[]⟩, .int .i64 0, .int .i64 0] 35)).drew = V at k'
        have Z0 : V.cell? ⟨wr.heap.size, 0, none⟩ = some (.string ⟨#[]⟩) := by subst hV; go_cell
        have Z1 : V.cell? ⟨wr.heap.size, 1, none⟩ = some (.string ⟨#[]⟩) := by subst hV; go_cell
        have Z2 : V.cell? ⟨wr.heap.size, 2, none⟩ = some (.int .i64 0) := by subst hV; go_cell
        have Z3 : V.cell? ⟨wr.heap.size, 3, none⟩ = some (.int .i64 0) := by subst hV; go_cell
        have F0 : V.frozen? ⟨wr.heap.size, 0, none⟩ = false := by subst hV; go_cell
        have F1 : V.frozen? ⟨wr.heap.size, 1, none⟩ = false := by subst hV; go_cell
        have F2 : V.frozen? ⟨wr.heap.size, 2, none⟩ = false := by subst hV; go_cell
        have F3 : V.frozen? ⟨wr.heap.size, 3, none⟩ = false := by subst hV; go_cell
        exact ⟨⟨Ok.cell k' Z0, Ok.cell k' Z1, Ok.cell k' Z2, Ok.cell k' Z3⟩, (Below.frozen k' (World.block_lt_of_cell? _ _ Z0)).trans F0, (Below.frozen k' (World.block_lt_of_cell? _ _ Z1)).trans F1, (Below.frozen k' (World.block_lt_of_cell? _ _ Z2)).trans F2, (Below.frozen k' (World.block_lt_of_cell? _ _ Z3)).trans F3⟩
      go_upto_region 7 with fail
      go_cut [8, 9] from 15 to 34 (fun vp vo wx => XAt wr kb xg vp vo wx)
      case first =>
        go_region_held3 (fun w' => w'.cell? ⟨p, 0, none⟩ = some (.int .i64 ep) ∧ w'.cell? ⟨p, 1, none⟩ = some (.slice A n c) ∧ w'.cell? ⟨bl, off + k, none⟩ = some (.string key) ∧ OkS wr w')
          ((refine HSQ.out _ ?_; (repeat (first | (with_reducible exact Ok.refl _) | (with_reducible assumption) | (with_reducible refine Ok.drew ?_) | (with_reducible refine Ok.alloc ?_ _) | (with_reducible refine Ok.trans' ?_ (by assumption)) | (refine Ok.set ?_ (by first | (simp; done) | (have h9 := o5.size; simp at h9; simp; omega)) _)))))
          (first
            | (go_at_call 24; (with_reducible refine (HOFK.out wr.drew HD0.out).mono ?_); rintro e w5 ⟨rfl, o5⟩)
            | (go_at_call 24; (with_reducible refine (HOFK.out (wr.alloc (.cells #[.string ⟨#[]⟩, .string ⟨#[]⟩, .int .i64 0, .int .i64 0] 35)).drew HDA.out).mono ?_); rintro e w5 ⟨rfl, o5⟩; obtain ⟨⟨Z0, Z1, Z2, Z3⟩, F0, F1, F2, F3⟩ := HZW.out _ o5))
        all_goals (go_wp2_with fail; go_meet)
        · exact ⟨_, rfl, rfl, by go_cell, Ok.alloc (Ok.trans' HD0.out o5) _⟩
        · have st := store4 w5 wr.heap.size _ _ _ _ (.string xl) (.string xh) (.int .i64 xg) (.int .i64 xe) Z0 Z1 Z2 Z3
          exact ⟨_, rfl, rfl, st.2.2.1, Ok.set4 (Ok.trans' HDA.out o5) (Nat.le_refl _) _ _ _ _⟩
      case rest =>
        obtain ⟨px, rfl, rfl, hg2, oc⟩ := hcut
        obtain ⟨wd, hwd⟩ : ∃ v, v = wc := ⟨_, rfl⟩
        subst hwd
        have HISD := Lib.hid (HIS.out.ok oc)
        replace S0 := Ok.cell oc S0; replace S1 := Ok.cell oc S1
        have OKD := Lib.hid (Ok.call OKR.out oc)
        clear oc HSQ HD0 HDA HZW HIS hc
        cases kb with
        | false =>
          have HR := Lib.hid (HBAD.out (.inr ⟨k, hlt, by rw [HKEY.out]; exact HKB.out⟩))
          go_wp2
          go_ret2
          exact GroupsPost.mk none 0 0 (by rw [HR.out]; rfl) (by rw [HR.out]; exact OwnI.nil _ _) OKD.out
        | true =>
          obtain ⟨hg3, hg4, hg5⟩ := HXG.out rfl
          obtain ⟨gn, rfl⟩ : ∃ gn : Nat, xg = (gn : Int) := ⟨xg.toNat, by omega⟩
          have HG3 := Lib.hid hg3
          clear hg3
          have hgn : gn < 5 := by omega
          have hi0 : (0 : Int) ≤ (gn : Int) := Int.natCast_nonneg _
          have hi1 : (gn : Int) < 5 := by omega
          have hcq := HISD.out.1 gn hgn
          have hfq := HISD.out.2 gn hgn
          have HNEW : Hid (IsAt (wd.setCell ⟨q, gn, none⟩ (.bool true)) q (inG xs ks (k + 1))) := Lib.hid (HISD.out.set gn hgn (fun g => by rw [HNX.out g, HG3.out]))
          have HSS : Hid ((wd.setCell ⟨q, gn, none⟩ (.bool true)).cell? ⟨p, 0, none⟩ = some (.int .i64 ep) ∧ (wd.setCell ⟨q, gn, none⟩ (.bool true)).cell? ⟨p, 1, none⟩ = some (.slice A n c)) := Lib.hid ⟨other (by omega) S0, other (by omega) S1⟩
          clear hg4 hg5
          go_wp2
          refine ⟨⟨k + 1, hlt, by go_num, fun j hj => ?_, HNEW.out, HSS.out.1, HSS.out.2, Ok.set OKD.out hwq _⟩, ?_⟩
          · by_cases e : j = k
            · subst e; rw [HKEY.out]; exact HKB.out
            · exact HKEYS.out j (by omega)
          · show m - ((k : Int) + 1).toNat < m - (k : Int).toNat
            omega
    · have d1 : decide ((k : Int) < (m : Int)) = false := decide_eq_false (by omega)
      obtain rfl : k = m := by omega
      have HR := Lib.hid (HGOOD2.out HKEYS.out)
      obtain ⟨wa, hwa⟩ : ∃ v, v = wr := ⟨_, rfl⟩
      subst hwa
      have hqr : q < wa.heap.size := World.block_lt_of_cell? wa ⟨q, 0, none⟩ (HIS.out.1 0 (by decide))
      go_wp2_with fail
      go_loopw [10, 11] (fun o g wr => ∃ (t : Nat) (A2 : Option Addr) (n2 c2 : Nat), t ≤ 4 ∧ g = .int .i64 ((t : Int) + 1) ∧ o = .slice A2 n2 c2 ∧ OwnI wr wa.heap.size A2 n2 c2 ((([1, 2, 3, 4] : List Int).take t).filter (fun g => inG xs ks k g)) ∧ Ok wa wr) (fun _ g _ => 6 - (intOf g).toNat)
      case atStart => exact ⟨0, none, 0, 0, by omega, rfl, rfl, OwnI.nil _ _, Ok.refl _⟩
      case round =>
        obtain ⟨t, A2, n2, c2, ht, rfl, rfl, hown, ok2⟩ := hrel
        have HOW := Lib.hid hown
        have OK2 := Lib.hid ok2
        have HIS2 := Lib.hid (HIS.out.ok ok2)
        clear hown ok2
        by_cases ht4 : t < 4
        · have d2 : decide ((t : Int) + 1 ≤ 4) = true := decide_eq_true (by omega)
          have hi0 : (0 : Int) ≤ (t : Int) + 1 := by omega
          have hi1 : (t : Int) + 1 < 5 := by omega
          have hi2 : ((t : Int) + 1).toNat = t + 1 := by omega
          have hcq := HIS2.out.1 (t + 1) (by omega)
          have hlst : (([1, 2, 3, 4] : List Int).take (t + 1)).filter (fun g => inG xs ks k g) = (([1, 2, 3, 4] : List Int).take t).filter (fun g => inG xs ks k g) ++ (if inG xs ks k ((t + 1 : Nat) : Int) = true then [((t + 1 : Nat) : Int)] else []) := by
            have : t = 0 ∨ t = 1 ∨ t = 2 ∨ t = 3 := by omega
            rcases this with rfl | rfl | rfl | rfl <;> simp [List.filter_cons] <;> (repeat' split) <;> simp_all
          have HLST := Lib.hid hlst
          have HLE : Hid (((([1, 2, 3, 4] : List Int).take t).filter (fun g => inG xs ks k g)).length ≤ 1000000) := Lib.hid (by
            have h1 := List.length_filter_le (fun g => inG xs ks k g) (([1, 2, 3, 4] : List Int).take t)
            rw [List.length_take] at h1
            omega)
          clear hlst
          obtain ⟨bb, hbb⟩ : ∃ b, inG xs ks k ((t + 1 : Nat) : Int) = b := ⟨_, rfl⟩
          rw [hbb] at hcq HLST
          clear hbb
          cases bb with
          | true =>
            have hsz := OK2.out.size
            have HNA : Hid ((wr.alloc (.cells #[.int .i64 ((t : Int) + 1)] 3)).cell? ⟨wr.heap.size, 0, none⟩ = some (.int .i64 ((t : Int) + 1))) := Lib.hid (by go_cell)
            have HOWA : Hid (OwnI (wr.alloc (.cells #[.int .i64 ((t : Int) + 1)] 3)) wa.heap.size A2 n2 c2 ((([1, 2, 3, 4] : List Int).take t).filter (fun g => inG xs ks k g))) := Lib.hid (HOW.out.alloc _)
            have HSZ : Hid (wa.heap.size ≤ (wr.alloc (.cells #[.int .i64 ((t : Int) + 1)] 3)).heap.size) := Lib.hid (by simp; omega)
            go_wp2_with (at_builtin; go_must (refine wpList_appI rfl (.tmp 42) (.tmp 44) rfl wa.heap.size A2 n2 c2 _ wr.heap.size ((t : Int) + 1) rfl rfl HOWA.out HNA.out HLE.out HSZ.out ?_; intro A3 c3 w3 hown3 hbel3; have HOW3 := Lib.hid hown3; have HB3 : Hid (Ok wa w3) := Lib.hid (Below.trans (Ok.alloc OK2.out _) hbel3); clear hown3 hbel3))
            go_roundw
            case rel =>
              refine ⟨t + 1, A3, n2 + 1, c3, by omega, by go_num, rfl, ?_, HB3.out⟩
              rw [HLST.out, if_pos rfl]
              exact HOW3.out
            case measure => simp [intOf]; omega
          | false =>
            go_wp2_with fail
            go_roundw
            case rel =>
              refine ⟨t + 1, A2, n2, c2, by omega, by go_num, rfl, ?_, OK2.out⟩
              rw [HLST.out, if_neg (by decide), List.append_nil]
              exact HOW.out
            case measure => simp [intOf]; omega
        · have d2 : decide ((t : Int) + 1 ≤ 4) = false := decide_eq_false (by omega)
          obtain rfl : t = 4 := by omega
          go_wp2
          go_ret2
          exact GroupsPost.mk A2 n2 c2 (by rw [HR.out]; rfl) (by rw [HR.out]; exact (HOW.out.base (by have := OKR.out.size; omega))) (Ok.call OKR.out OK2.out)
end Go.Proofs.YtdabdkedgigjdaaGreat
