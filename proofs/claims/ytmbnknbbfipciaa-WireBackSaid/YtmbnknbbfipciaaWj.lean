/- The law's look at a whole row of things, and the copy of bytes. -/
import Derived.Test.YtmbnknbbfipciaaWi
namespace Go.Proofs.Ytmbnknbbfipciaa
open Go.RowKit

/-- The arguments of the law, in memory. -/
structure Args (w : World) (nums : List Int) (flags : List Bool) (txts : List ByteArray) (rows : List (List B8)) (An Af At Ar : Option Addr) : Prop where
  n : ∀ k, k < nums.length → ∃ b o, An = some ⟨b, o, none⟩ ∧ w.cell? ⟨b, o + k, none⟩ = some (.int .i64 (nums.getD k 0))
  f : ∀ k, k < flags.length → ∃ b o, Af = some ⟨b, o, none⟩ ∧ w.cell? ⟨b, o + k, none⟩ = some (.bool (flags.getD k false))
  t : ∀ k, k < txts.length → ∃ b o, At = some ⟨b, o, none⟩ ∧ w.cell? ⟨b, o + k, none⟩ = some (.string (txts.getD k { data := #[] }))
  r : ∀ k, k < rows.length → ∃ b o V, Ar = some ⟨b, o, none⟩ ∧ w.cell? ⟨b, o + k, none⟩ = some V ∧ BytesIn w V (rows.getD k [])
theorem Args.ok {w w' : World} {nums : List Int} {flags : List Bool} {txts : List ByteArray} {rows : List (List B8)} {An Af At Ar : Option Addr} (h : Args w nums flags txts rows An Af At Ar) (k : Ok w w') : Args w' nums flags txts rows An Af At Ar where
  n := fun i hi => let ⟨b, o, e, hc⟩ := h.n i hi; ⟨b, o, e, k.cell hc⟩
  f := fun i hi => let ⟨b, o, e, hc⟩ := h.f i hi; ⟨b, o, e, k.cell hc⟩
  t := fun i hi => let ⟨b, o, e, hc⟩ := h.t i hi; ⟨b, o, e, k.cell hc⟩
  r := fun i hi => let ⟨b, o, V, e, hc, hb⟩ := h.r i hi; ⟨b, o, V, e, k.cell hc, k.bytes hb⟩
/-- All is short enough, and each number may be written. -/
structure Fit (nums : List Int) (txts : List ByteArray) (rows : List (List B8)) : Prop where
  n : ∀ k, k < nums.length → goodB (nums.getD k 0) = true
  t : ∀ k, k < txts.length → (txts.getD k { data := #[] }).size ≤ 20000
  r : ∀ k, k < rows.length → (rows.getD k []).length ≤ 20000

def readsB (its : List Item) (xs : List B8) : Bool := (runI its xs false).2.2 && decide ((runI its xs false).1.length = 0) && !(runI its xs false).2.1

set_option maxRecDepth 100000 in
set_option maxHeartbeats 2000000 in
theorem reads_v (W0 : World) (g : Nat) (W : World) (xs : List B8) (n : Nat) (hn : n ≤ 20000) (nums : List Int) (flags : List Bool) (txts : List ByteArray) (rows : List (List B8))
    (An Af At Ar : Option Addr) (cn cf ct cr : Nat) (ha : Args W0 nums flags txts rows An Af At Ar) (hfit : Fit nums txts rows) (h : Rd W0 g W xs false) :
    Calls Try.prog 14 #[.pointer (some ⟨g, 0, none⟩), .int .i64 (n : Int), .slice An nums.length cn, .slice Af flags.length cf, .slice At txts.length ct, .slice Ar rows.length cr] W
      fun e w' => e = .returned (.bool (readsB (itemsTo nums flags (txts.map ofStr) rows n) xs)) ∧ Ok W0 w' := by
  have HC : Hid (Calls Try.prog 17 #[.pointer (some ⟨g, 0, none⟩), .int .i64 (n : Int), .slice An nums.length cn, .slice Af flags.length cf, .slice At txts.length ct, .slice Ar rows.length cr] W
      fun e w' => ∃ v, e = .returned v ∧ St W0 g xs (itemsTo nums flags (txts.map ofStr) rows n) v w') := Lib.hid
    (reads2_v W0 g W xs n hn nums flags txts rows An Af At Ar cn cf ct cr (fun k hk => let ⟨b, o, e, hc⟩ := ha.n k hk; ⟨b, o, e, hc, hfit.n k hk⟩) ha.f
      (fun k hk => let ⟨b, o, e, hc⟩ := ha.t k hk; ⟨b, o, e, hc, hfit.t k hk⟩) (fun k hk => let ⟨b, o, V, e, hc, hb⟩ := ha.r k hk; ⟨b, o, V, e, hc, hb, hfit.r k hk⟩) h)
  clear ha hfit h
  have HNIL := Lib.hid (runI_nil (itemsTo nums flags (txts.map ofStr) rows n) xs false (fun h => by cases h))
  have HB : Hid (∀ e, ((runI (itemsTo nums flags (txts.map ofStr) rows n) xs false).2.2 && decide ((runI (itemsTo nums flags (txts.map ofStr) rows n) xs false).1.length = 0) && !(runI (itemsTo nums flags (txts.map ofStr) rows n) xs false).2.1) = e → readsB (itemsTo nums flags (txts.map ofStr) rows n) xs = e) := Lib.hid fun e h => h
  generalize nums.length = nn at *
  generalize flags.length = nf at *
  generalize txts.length = nt at *
  generalize rows.length = nr at *
  generalize itemsTo nums flags (txts.map ofStr) rows n = its at *
  go_enter Try.func14, Try.ntmps14
  go_wp2_with fail
  refine HC.out.mono ?_
  rintro e w1 ⟨v, rfl, rfl, hrd⟩
  have HRD := Lib.hid hrd
  clear hrd
  generalize (runI its xs false).1 = ys at *
  generalize (runI its xs false).2.1 = f at *
  generalize (runI its xs false).2.2 = okb at *
  cases okb with
  | false =>
    go_wp2_with fail
    go_ret
    exact ⟨by rw [HB.out false rfl]; rfl, HRD.out.2.1⟩
  | true =>
    go_wp2_with fail
    refine (left_r W0 g _ ys f HRD.out HNIL.out).mono ?_
    rintro e w2 ⟨rfl, rfl⟩
    by_cases h0 : ys.length = 0
    · obtain rfl := List.length_eq_zero_iff.1 h0
      clear h0
      simp only [List.length_nil]
      go_wp2_with fail
      refine (end_r W0 g _ [] f HRD.out).mono ?_
      rintro e w2 ⟨rfl, rfl⟩
      cases f with
      | true =>
        have he : endOf [] true = 4 := rfl
        rw [he]
        clear he
        go_wp2_with fail
        go_ret
        exact ⟨by rw [HB.out false rfl]; rfl, HRD.out.2.1⟩
      | false =>
        have he : endOf [] false = 0 := rfl
        rw [he]
        clear he
        go_wp2_with fail
        go_ret
        exact ⟨by rw [HB.out true rfl]; rfl, HRD.out.2.1⟩
    · have HB2 := Lib.hid (HB.out false (by rw [decide_eq_false h0]; cases f <;> rfl))
      have hz : ((ys.length : Int) == 0) = false := by rw [beq_eq_false_iff_ne]; omega
      clear h0
      go_wp2_with fail
      go_ret
      exact ⟨by rw [HB2.out]; rfl, HRD.out.2.1⟩

set_option maxRecDepth 100000 in
set_option maxHeartbeats 1000000 in
theorem copyBytes_v (W : World) (v : Value) (xs : List B8) (h : BytesIn W v xs) (hx : xs.length ≤ 140737488350000) :
    Calls Try.prog 16 #[v] W fun e w' => (∃ A c, e = .returned (.slice A xs.length c) ∧ OwnN w' W.heap.size (.slice A xs.length c) xs) ∧ Ok W w' := by
  obtain ⟨A, c, rfl, _⟩ := h.form
  have HB := Lib.hid h
  have HON : Hid (OwnN W W.heap.size (.slice none 0 0) []) := Lib.hid (World.ownsRow_nil _ _ _ _)
  clear h
  go_enter Try.func16, Try.ntmps16
  go_wp2_with (at_builtin; go_must (refine wpList_app rfl (.tmp 4) (.tmp 5) rfl W.heap.size (.slice none 0 0) [] xs (.slice A xs.length c) rfl rfl HON.out HB.out (by simp; omega) (Nat.le_refl _) ?_; intro A' c' w2 hown2 hbel2; simp only [List.nil_append, List.length_nil, Nat.zero_add] at hown2 ⊢; have HOWN2 := Lib.hid hown2; have HBEL2 := Lib.hid hbel2; clear hown2 hbel2))
  go_ret
  exact ⟨⟨A', c', rfl, HOWN2.out⟩, HBEL2.out⟩
end Go.Proofs.Ytmbnknbbfipciaa
