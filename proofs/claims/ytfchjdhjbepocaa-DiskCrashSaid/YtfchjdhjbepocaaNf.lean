/- Disks: Names. -/
import Derived.Test.YtfchjdhjbepocaaNe
import Derived.Test.YtfchjdhjbepocaaShelfC
namespace Go.Proofs.Ytfchjdhjbepocaa
open Go Go.RowKit

/-- The names of files are short, the files few. -/
structure Few (D : Dk) : Prop where
  nm : ∀ f ∈ D.fs, f.1.size ≤ 40
  ct : D.fs.length ≤ 1000000
theorem ml6 : (1000000 : Nat) ≤ maxLen := by decide
def RR : Value → Option (DataW Unit × List MemPlace) := fun _ => some (.nil, [])
theorem rd_RR (s : Str) (v : Value) (hs : s.size ≤ 40) : WideElems.rd Try.prog 9 RR ⟨.string s, v, 0⟩ = some (.string s.data.toList, .nil) := by
  refine WideElems.rd_mk (yv := (.nil, [])) ?_ rfl
  have h1 : s.size ≤ maxLen := Nat.le_trans (by omega) ml6
  simp [keyOf, Try.underlying9, mapKey, h1]
set_option maxRecDepth 100000 in
theorem names_own {w : World} {mb : Nat} {l : Tb Value} (h : MapV w mb l) (hn : ∀ p ∈ l, p.1.size ≤ 40) (hl : l.length ≤ 1000000) :
    ∃ D0 : DataW Unit, w.ownsMap Try.prog 9 RR mb 1000000 D0 ∧ Maps.size D0 = l.length ∧ (strKeys D0).Perm (l.map fun p => p.1.data.toList) := by
  obtain ⟨ho, es, clock, hb, he, h1, h2⟩ := h
  have hlen : es.size = l.length := by have := congrArg List.length he; simpa using this
  have hmap : es.toList.map (WideElems.rg Try.prog 9 RR) = l.map fun p => (Lit.string p.1.data.toList, DataW.nil) := by
    have e1 : es.toList.map (WideElems.rg Try.prog 9 RR) = (es.toList.map fun e => (e.key, e.val)).map fun kv => WideElems.rg Try.prog 9 RR ⟨kv.1, kv.2, 0⟩ := by rw [List.map_map]; rfl
    rw [e1, he, List.map_map]
    refine List.map_congr_left fun p hp => ?_
    exact WideElems.rg_of (rd_RR p.1 p.2 (hn p hp))
  refine ⟨.map ((es.toList.map (WideElems.rg Try.prog 9 RR)).foldr DataW.insert []), ⟨es, clock, hb, ⟨Nat.le_trans (by omega) ml6, ?_, ?_⟩, by omega, rfl⟩, ?_, ?_⟩
  · refine ⟨h1, h2, ?_⟩
    have e2 : es.toList.map (·.key) = l.map fun p => Value.string p.1 := by
      have := congrArg (List.map Prod.fst) he
      rw [List.map_map, List.map_map] at this
      exact this
    rw [e2]
    refine List.pairwise_map.2 (List.Pairwise.imp (R := fun (a b : Str × Value) => a.1 ≠ b.1) (fun {a b} q (e : Value.string a.1 = Value.string b.1) => q (by simpa using e)) ho)
  · intro x hx
    obtain ⟨p, hp, q1, q2⟩ := keys_of he hx
    refine ⟨(.string p.1.data.toList, .nil), ?_⟩
    have := rd_RR p.1 x.val (hn p hp)
    rw [← q1] at this
    exact this
  · rw [hmap]
    show ((l.map _).foldr DataW.insert []).length = _
    rw [(WideShapes.sorted_perm _).length_eq, List.length_map]
  · rw [hmap]
    show (((l.map _).foldr DataW.insert []).map fun p => strOf p.1).Perm _
    refine ((WideShapes.sorted_perm _).map _).trans ?_
    rw [List.map_map]
    exact List.Perm.refl _
def NamesP (D : Dk) (W : World) (e : Ending) (w' : World) : Prop := ∃ (A : Option Addr) (c : Nat) (l : List Str), e = .returned (.slice A l.length c) ∧ l.Perm (D.fs.map Prod.fst) ∧
  (l = [] ∨ ∃ g, A = some ⟨g, 0, none⟩ ∧ W.heap.size ≤ g ∧ ∀ j, j < l.length → w'.cell? ⟨g, j, none⟩ = some (.string (txA l j))) ∧ Ok W w'
def unE (x : List UInt8) : Str := ⟨x.toArray⟩
set_option maxRecDepth 100000 in
set_option maxHeartbeats 2000000 in
theorem names_f (p : Nat) (D : Dk) (pv : Sl) (mb : Nat) (vs : Tb Sl) (W : World) (h : DkAt p D pv mb vs W) (hf : Few D) : Calls Try.prog 25 #[.pointer (some ⟨p, 0, none⟩)] W (NamesP D W) := by
  have hno := none_f p mb W h.c2
  have c2 := h.c2
  have hk := all2_keys h.fs.each
  have hlv : (mvs vs).length = D.fs.length := by
    have := congrArg List.length hk
    simpa [mvs] using this
  have hkv : (mvs vs).map Prod.fst = D.fs.map Prod.fst := by rw [← hk]; unfold mvs; rw [List.map_map]; rfl
  obtain ⟨D0, hown, hsz, hpm⟩ := names_own h.mp (fun q hq => by
    have : q.1 ∈ D.fs.map Prod.fst := by rw [← hkv]; exact List.mem_map_of_mem hq
    obtain ⟨f, hf1, hf2⟩ := List.mem_map.1 this
    rw [← hf2]; exact hf.nm f hf1) (by rw [hlv]; exact hf.ct)
  have HPM : Hid ((strKeys D0).Perm ((mvs vs).map fun p => p.1.data.toList)) := Lib.hid hpm
  have HKV := Lib.hid hkv
  have hkeys := (callsIn_wide (n := 5)).1 (Try.maps_Keys_70 (some mb) W)
  have hsort := (callsIn_wide (n := 5)).1 (Try.slices_Sorted_keys_69_70 mb 1000000 D0 RR W hown (by rw [hsz, hlv]; exact Nat.le_trans hf.ct ml6) (by rw [hsz, hlv]; have := hf.ct; omega))
  have HOA : Hid (Ok W (W.alloc (.cells #[.map (some mb)] 55))) := Lib.hid ((Ok.refl W).alloc _)
  clear h hf hk hlv hown hsz hpm hkv
  go_enter Try.func25, Try.ntmps25
  go_wp2_with fail
  refine hno.mono ?_
  rintro _ w1 ⟨rfl, rfl⟩
  clear hno
  go_wp2_with fail
  refine hkeys.mono ?_
  rintro _ w1 ⟨rfl, rfl⟩
  clear hkeys
  go_wp2_with fail
  refine hsort.mono ?_
  rintro _ w2 ⟨v, ss, rfl, hp, hrow, hnil, hb⟩
  have HP := Lib.hid hp
  have HROW := Lib.hid hrow
  have HB := Lib.hid hb
  clear hsort hp hrow hnil hb
  go_wp2_with fail
  go_ret
  have hrow := HROW.out
  have hlen : ((ss.mergeSort (fun x y => decide (x ≤ y))).map unE).length = ss.length := by rw [List.length_map, List.length_mergeSort]
  have hperm : ((ss.mergeSort (fun x y => decide (x ≤ y))).map unE).Perm (D.fs.map Prod.fst) := by
    refine ((((List.mergeSort_perm ss _).trans HP.out).trans HPM.out).map unE).trans ?_
    rw [← HKV.out, List.map_map]
    refine List.Perm.of_eq (List.map_congr_left fun q _ => ?_)
    simp [unE]
  have hcell : ∀ j (hj : j < ss.length), ((ss.mergeSort (fun x y => decide (x ≤ y))).map encStr)[j]? = some (.string (txA ((ss.mergeSort (fun x y => decide (x ≤ y))).map unE) j)) := fun j hj => by
    have hj2 : j < (ss.mergeSort (fun x y => decide (x ≤ y))).length := by rw [List.length_mergeSort]; exact hj
    unfold txA
    rw [List.getD_eq_getElem?_getD, List.getElem?_map, List.getElem?_map, List.getElem?_eq_getElem hj2]
    rfl
  have hok : Ok W w2 := HOA.out.trans HB.out
  rcases hrow.2 with ⟨e, h0⟩ | ⟨g, cap, cur, e, hg, _⟩
  · subst e
    have e0 : ss = [] := List.length_eq_zero_iff.1 h0
    subst e0
    exact ⟨none, 0, [], rfl, by simpa using hperm, .inl rfl, hok⟩
  · subst e
    rw [← hlen] at hrow ⊢
    refine ⟨_, _, _, rfl, hperm, .inr ⟨g, rfl, Nat.le_trans HOA.out.size hg, fun j hj => ?_⟩, hok⟩
    rw [World.ownsRow.cellAt hrow j (by omega)]
    exact hcell j (by omega)
end Go.Proofs.Ytfchjdhjbepocaa
