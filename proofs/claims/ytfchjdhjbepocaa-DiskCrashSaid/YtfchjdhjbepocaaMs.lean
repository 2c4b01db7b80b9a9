/- Deeds in memory; whether they are few, and little. -/
import Derived.Test.YtfchjdhjbepocaaMr
namespace Go.Proofs.Ytfchjdhjbepocaa
open Go Go.RowKit

structure Deed where
  kind : Int
  name : Str
  names : List Str
  num : Int
  parts : List (List B8)
/-- A deed in memory, five cells. -/
structure DeedAt (S : Nat → Prop) (w : World) (b o : Nat) (d : Deed) (A2 : Option Addr) (c2 : Nat) (A4 : Option Addr) (c4 : Nat) : Prop where
  x0 : w.cell? ⟨b, o, none⟩ = some (.int .i64 d.kind)
  x1 : w.cell? ⟨b, o + 1, none⟩ = some (.string d.name)
  x2 : w.cell? ⟨b, o + 2, none⟩ = some (.slice A2 d.names.length c2)
  x3 : w.cell? ⟨b, o + 3, none⟩ = some (.int .i64 d.num)
  x4 : w.cell? ⟨b, o + 4, none⟩ = some (.slice A4 d.parts.length c4)
  ns : TxIn S w A2 d.names
  ps : PtIn S w A4 d.parts
  z1 : d.name.size ≤ 140737488355328
  z2 : d.names.length ≤ 140737488355328
  z3 : d.parts.length ≤ 140737488355328
  z4 : ∀ j, (txA d.names j).size ≤ 140737488355328
  z5 : ∀ j, (ptA d.parts j).length ≤ 140737488355328
theorem DeedAt.kp {S : Nat → Prop} {w w' : World} {b o : Nat} {d : Deed} {A2 : Option Addr} {c2 : Nat} {A4 : Option Addr} {c4 : Nat} (h : DeedAt S w b o d A2 c2 A4 c4) (k : Kp S w w') (hb : ¬ S b) : DeedAt S w' b o d A2 c2 A4 c4 :=
  ⟨k.cell h.x0 hb, k.cell h.x1 hb, k.cell h.x2 hb, k.cell h.x3 hb, k.cell h.x4 hb, h.ns.kp k, h.ps.kp k, h.z1, h.z2, h.z3, h.z4, h.z5⟩
def de0 : Deed := ⟨0, ByteArray.empty, [], 0, []⟩
def deA (l : List Deed) (j : Nat) : Deed := l.getD j de0
/-- Deeds in memory, off the blocks of S. -/
def DeedsIn (S : Nat → Prop) (w : World) (A : Option Addr) (l : List Deed) : Prop := ∀ j, j < l.length → ∃ b o A2 c2 A4 c4, A = some ⟨b, o, none⟩ ∧ ¬ S b ∧ DeedAt S w b (o + j * 5) (deA l j) A2 c2 A4 c4
theorem DeedsIn.kp {S : Nat → Prop} {w w' : World} {A : Option Addr} {l : List Deed} (h : DeedsIn S w A l) (k : Kp S w w') : DeedsIn S w' A l := fun j hj => by
  obtain ⟨b, o, A2, c2, A4, c4, e, hn, hd⟩ := h j hj
  exact ⟨b, o, A2, c2, A4, c4, e, hn, hd.kp k hn⟩
theorem DeedsIn.ok {S : Nat → Prop} {w w' : World} {A : Option Addr} {l : List Deed} (h : DeedsIn S w A l) (k : Ok w w') : DeedsIn S w' A l := h.kp (Kp.of k)
def szs (l : List Str) : Nat := (l.map ByteArray.size).sum
def wtD (d : Deed) : Nat := d.name.size + d.names.length + d.parts.length + d.parts.flatten.length + szs d.names
def wts (l : List Deed) : Nat := (l.map wtD).sum
theorem wts_take (l : List Deed) (k : Nat) (h : k < l.length) : wts (l.take (k + 1)) = wts (l.take k) + wtD (deA l k) := by
  rw [List.take_add_one, List.getElem?_eq_getElem h]
  unfold wts deA
  rw [List.getD_eq_getElem?_getD, List.getElem?_eq_getElem h, List.map_append, List.sum_append]
  simp only [Option.toList_some, Option.getD_some, List.map_cons, List.map_nil, List.sum_cons, List.sum_nil]
  omega
theorem szs_take (l : List Str) (k : Nat) (h : k < l.length) : szs (l.take (k + 1)) = szs (l.take k) + (txA l k).size := by
  rw [tx_take l k h]
  unfold szs
  rw [List.map_append, List.sum_append]
  simp
def LightP (l : List Deed) (W : World) (e : Ending) (w' : World) : Prop := ∃ b, e = .returned (.bool b) ∧ Ok W w' ∧ (b = true → l.length ≤ 300 ∧ wts l ≤ 20000)
set_option maxRecDepth 100000 in
set_option maxHeartbeats 4000000 in
theorem light_f (S : Nat → Prop) (A : Option Addr) (n c : Nat) (l : List Deed) (W : World) (hn : l.length = n) (h : DeedsIn S W A l) : Calls Try.prog 9 #[.slice A n c] W (LightP l W) := by
  have HL := Lib.hid hn
  have HI := Lib.hid h
  clear hn h
  by_cases hbig : 300 < n
  · have d1 : decide ((n : Int) > 300) = true := decide_eq_true (by omega)
    have d2 : decide (300 < n) = true := decide_eq_true hbig
    have d3 : decide ((300 : Int) < (n : Int)) = true := decide_eq_true (by omega)
    clear hbig
    go_enter Try.func9, Try.ntmps9
    go_wp2_with fail
    go_ret
    exact ⟨false, rfl, Ok.refl _, fun h => by cases h⟩
  · have d1 : decide ((n : Int) > 300) = false := decide_eq_false (by omega)
    have d2 : decide (300 < n) = false := decide_eq_false hbig
    have d3 : decide ((300 : Int) < (n : Int)) = false := decide_eq_false (by omega)
    have HN : Hid (n ≤ 300) := Lib.hid (by omega)
    clear hbig
    go_enter Try.func9, Try.ntmps9
    go_wp2_with fail
    clear d1 d2 d3
    go_loopw [3, 4, 5, 6] (fun v i _ _ wr => ∃ (k m : Nat), k ≤ n ∧ i = .int .i64 (k : Int) ∧ v = .int .i64 (m : Int) ∧ (m = wts (l.take k) ∨ 20000 < m) ∧ m ≤ 1000000000000000 ∧ Ok W wr) (fun _ i _ _ _ => n - (intOf i).toNat)
    case atStart => exact ⟨0, 0, Nat.zero_le _, rfl, rfl, .inl rfl, Nat.zero_le _, Ok.refl _⟩
    case round =>
      obtain ⟨k, m, hk, rfl, rfl, hm, hm2, okr⟩ := hrel
      have HM := Lib.hid hm
      have HM2 := Lib.hid hm2
      have HOK := Lib.hid okr
      clear hm hm2 okr
      by_cases hlt : k < n
      · by_cases hle : m ≤ 20000
        · have d1 : decide (k < n) = true := decide_eq_true hlt
          have d2 : decide ((m : Int) ≤ 20000) = true := decide_eq_true (by omega)
          have d3 : decide (m ≤ 20000) = true := decide_eq_true hle
          obtain ⟨b, o, A2, c2, A4, c4, rfl, hsb, hd⟩ := HI.out.ok HOK.out k (by rw [HL.out]; exact hlt)
          have HDE := Lib.hid hd
          have HSB := Lib.hid hsb
          clear hsb
          have HWT := Lib.hid (wts_take l k (by rw [HL.out]; exact hlt))
          have x1 := hd.x1
          have x2 := hd.x2
          have x4 := hd.x4
          clear hd
          have HME : Hid (m = wts (l.take k)) := Lib.hid (by rcases HM.out with q | q; exact q; omega)
          have HMS : Hid (n - ((k : Int) + 1).toNat < n - (k : Int).toNat) := Lib.hid (by omega)
          have HKN : Hid (k + 1 ≤ n) := Lib.hid hlt
          have hi0 : (0 : Int) ≤ (k : Int) := Int.natCast_nonneg _
          have hi1 : (k : Int) < (n : Int) := by omega
          have e9 : IntKind.i64.wrap ((k : Int) + 1) = (k : Int) + 1 := IntWalk.i64_in _ (by have := HN.out; omega)
          generalize deA l k = d at *
          obtain ⟨a1, ha1⟩ : ∃ a1, d.name.size = a1 := ⟨_, rfl⟩
          obtain ⟨a2, ha2⟩ : ∃ a2, d.names.length = a2 := ⟨_, rfl⟩
          obtain ⟨a4, ha4⟩ : ∃ a4, d.parts.length = a4 := ⟨_, rfl⟩
          obtain ⟨m1, hm1⟩ : ∃ m1, m + a1 = m1 := ⟨_, rfl⟩
          obtain ⟨m2, hm2⟩ : ∃ m2, m1 + a2 = m2 := ⟨_, rfl⟩
          obtain ⟨m3, hm3⟩ : ∃ m3, m2 + a4 = m3 := ⟨_, rfl⟩
          have HZ1 : Hid (a1 ≤ 140737488355328) := Lib.hid (by rw [← ha1]; exact HDE.out.z1)
          have HZ2 : Hid (a2 ≤ 140737488355328) := Lib.hid (by rw [← ha2]; exact HDE.out.z2)
          have HZ4 : Hid (a4 ≤ 140737488355328) := Lib.hid (by rw [← ha4]; exact HDE.out.z3)
          have HA1 := Lib.hid ha1
          have HA2 := Lib.hid ha2
          have HA4 := Lib.hid ha4
          rw [ha2] at x2
          rw [ha4] at x4
          have e1 : IntKind.i64.wrap ((m : Int) + (a1 : Int)) = (m1 : Int) := by rw [IntWalk.i64_in _ (by have := HZ1.out; omega)]; omega
          have e2 : IntKind.i64.wrap ((m1 : Int) + (a2 : Int)) = (m2 : Int) := by rw [IntWalk.i64_in _ (by have := HZ1.out; have := HZ2.out; omega)]; omega
          have e3 : IntKind.i64.wrap ((m2 : Int) + (a4 : Int)) = (m3 : Int) := by rw [IntWalk.i64_in _ (by have := HZ1.out; have := HZ2.out; have := HZ4.out; omega)]; omega
          have HM3 : Hid (m3 = m + a1 + a2 + a4 ∧ m ≤ 20000) := Lib.hid (by omega)
          have hz0 : (d.name.size : Int) = (a1 : Int) := by rw [ha1]
          have hz1 : d.name.size = a1 := ha1
          clear ha1 ha2 ha4 hm1 hm2 hm3 hle hlt hk
          go_upto_region 7 with fail
          go_cut [3] from 20 to 41 (fun v w => v = .int .i64 (m3 : Int) ∧ Ok wr w)
          case first =>
            go_quiet (fail)
            go_wp2_with fail
            go_meet
            exact ⟨rfl, (Ok.refl wr).drewN _⟩
          case rest =>
          obtain ⟨rfl, okc⟩ := hcut
          have HOC := Lib.hid okc
          clear okc e1 e2 e3 hz0 hz1 x1 x2 x4
          go_wp2_with fail
          go_loopw [3, 5] (fun v i wx => ∃ (q mm : Nat), q ≤ a4 ∧ i = .int .i64 (q : Int) ∧ v = .int .i64 (mm : Int) ∧ (mm = m3 + (d.parts.take q).flatten.length ∨ 20000 < mm) ∧ mm ≤ 800000000000000 ∧ Ok wr wx) (fun _ i _ => a4 - (intOf i).toNat)
          case atStart => exact ⟨0, m3, Nat.zero_le _, rfl, rfl, .inl rfl, by have := HM3.out; have := HZ1.out; have := HZ2.out; have := HZ4.out; omega, HOC.out⟩
          case round =>
            obtain ⟨q, mm, hq, rfl, rfl, hmm, hmb, okx⟩ := hrel
            have HMM := Lib.hid hmm
            have HMB := Lib.hid hmb
            have HOX := Lib.hid okx
            have HDX := Lib.hid (HDE.out.kp (Kp.of okx) HSB.out)
            have y4 := HDX.out.x4
            rw [HA4.out] at y4
            clear hmm hmb okx
            by_cases hq2 : q < a4
            · by_cases hle2 : mm ≤ 20000
              · have d4 : decide (q < a4) = true := decide_eq_true hq2
                have d5 : decide ((mm : Int) ≤ 20000) = true := decide_eq_true (by omega)
                have d6 : decide (mm ≤ 20000) = true := decide_eq_true hle2
                obtain ⟨pb, po, PB, pm, pc', rfl, -, z0, hpm, -⟩ := HDX.out.ps q (by rw [HA4.out]; exact hq2)
                have HPT := Lib.hid (congrArg List.length (pt_take d.parts q (by rw [HA4.out]; exact hq2)))
                have HPM : Hid (pm = (ptA d.parts q).length ∧ pm ≤ 140737488355328) := Lib.hid ⟨hpm, by rw [hpm]; exact HDE.out.z5 q⟩
                have HME2 : Hid (mm = m3 + (d.parts.take q).flatten.length ∧ mm ≤ 20000) := Lib.hid ⟨by rcases HMM.out with r | r; exact r; omega, hle2⟩
                have e4 : IntKind.i64.wrap ((mm : Int) + (pm : Int)) = (mm : Int) + (pm : Int) := IntWalk.i64_in _ (by have := HPM.out.2; omega)
                have e5 : IntKind.i64.wrap ((q : Int) + 1) = (q : Int) + 1 := IntWalk.i64_in _ (by have := HZ4.out; omega)
                have hq0 : (0 : Int) ≤ (q : Int) := Int.natCast_nonneg _
                have hq1 : (q : Int) < (a4 : Int) := by omega
                have HMS2 : Hid (a4 - ((q : Int) + 1).toNat < a4 - (q : Int).toNat) := Lib.hid (by omega)
                have HQN : Hid (q + 1 ≤ a4) := Lib.hid hq2
                clear hpm hle2 hq2 hq
                go_wp2_with fail
                refine ⟨⟨q + 1, mm + pm, HQN.out, rfl, rfl, .inl ?_, by have := HPM.out.2; have := HME2.out.2; omega, HOX.out⟩, HMS2.out⟩
                have h1 := HPT.out
                rw [List.length_append] at h1
                have := HPM.out.1
                have := HME2.out.1
                omega
              · have d5 : decide ((mm : Int) ≤ 20000) = false := decide_eq_false (by omega)
                have d6 : decide (mm ≤ 20000) = false := decide_eq_false hle2
                have d4 : decide (q < a4) = true := decide_eq_true hq2
                have HFIN : Hid (mm = m3 + d.parts.flatten.length ∨ 20000 < mm) := Lib.hid (.inr (by omega))
                clear hle2 hq2 hq
                go_wp2_with fail
                go_loopw [3, 6] (fun v i wy => ∃ (q2 mz : Nat), q2 ≤ a2 ∧ i = .int .i64 (q2 : Int) ∧ v = .int .i64 (mz : Int) ∧ (mz = mm + szs (d.names.take q2) ∨ 20000 < mz) ∧ mz ≤ 900000000000000 ∧ Ok wr wy) (fun _ i _ => a2 - (intOf i).toNat)
                case atStart => exact ⟨0, mm, Nat.zero_le _, rfl, rfl, .inl rfl, by have := HMB.out; omega, Ok.refl _⟩
                case round =>
                  obtain ⟨q2, mz, hq2, rfl, rfl, hmz, hmb2, oky⟩ := hrel
                  have HMZ := Lib.hid hmz
                  have HMZB := Lib.hid hmb2
                  have HOY := Lib.hid oky
                  have HDY := Lib.hid (HDX.out.kp (Kp.of oky) HSB.out)
                  have y2 := HDY.out.x2
                  rw [HA2.out] at y2
                  clear hmz hmb2 oky
                  have HEND : Hid (q2 = a2 ∨ 20000 < mz → mz = wts (l.take (k + 1)) ∨ 20000 < mz) := Lib.hid (fun hh => by
                    have h1 := HWT.out
                    unfold wtD at h1
                    have := HA1.out; have := HA2.out; have := HA4.out; have := HME.out
                    have h2 := HM3.out
                    rcases hh with hh | hh
                    · rcases HMZ.out with r | r
                      · rw [hh, List.take_of_length_le (by rw [HA2.out]; exact Nat.le_refl _)] at r
                        rcases HFIN.out with t | t
                        · left; omega
                        · right; omega
                      · exact .inr r
                    · exact .inr hh)
                  have HMZC : Hid (mz ≤ 1000000000000000) := Lib.hid (by have := HMZB.out; omega)
                  by_cases hlt2 : q2 < a2
                  · have d7 : decide (q2 < a2) = true := decide_eq_true hlt2
                    by_cases hle3 : mz ≤ 20000
                    · have d8 : decide ((mz : Int) ≤ 20000) = true := decide_eq_true (by omega)
                      have d9 : decide (mz ≤ 20000) = true := decide_eq_true hle3
                      obtain ⟨nb, no, rfl, -, z1⟩ := HDY.out.ns q2 (by rw [HA2.out]; exact hlt2)
                      have HSZ := Lib.hid (szs_take d.names q2 (by rw [HA2.out]; exact hlt2))
                      have HSB2 := Lib.hid (HDY.out.z4 q2)
                      have HME3 : Hid (mz = mm + szs (d.names.take q2) ∧ mz ≤ 20000) := Lib.hid ⟨by rcases HMZ.out with r | r; exact r; omega, hle3⟩
                      generalize txA d.names q2 = nx at *
                      obtain ⟨sz, hsz⟩ : ∃ sz, nx.size = sz := ⟨_, rfl⟩
                      rw [hsz] at HSZ HSB2
                      have hsz2 : (nx.size : Int) = (sz : Int) := by rw [hsz]
                      have e6 : IntKind.i64.wrap ((mz : Int) + (sz : Int)) = (mz : Int) + (sz : Int) := IntWalk.i64_in _ (by have := HSB2.out; omega)
                      have e7 : IntKind.i64.wrap ((q2 : Int) + 1) = (q2 : Int) + 1 := IntWalk.i64_in _ (by have := HZ2.out; omega)
                      have hq0 : (0 : Int) ≤ (q2 : Int) := Int.natCast_nonneg _
                      have hq1 : (q2 : Int) < (a2 : Int) := by omega
                      have HMS2 : Hid (a2 - ((q2 : Int) + 1).toNat < a2 - (q2 : Int).toNat) := Lib.hid (by omega)
                      have HQN : Hid (q2 + 1 ≤ a2) := Lib.hid hlt2
                      clear hle3 hlt2 hq2
                      go_wp2_with fail
                      refine ⟨⟨q2 + 1, mz + sz, HQN.out, rfl, rfl, .inl ?_, by have := HSB2.out; have := HME3.out.2; omega, HOY.out⟩, HMS2.out⟩
                      have := HSZ.out
                      have := HME3.out.1
                      omega
                    · have d8 : decide ((mz : Int) ≤ 20000) = false := decide_eq_false (by omega)
                      have d9 : decide (mz ≤ 20000) = false := decide_eq_false hle3
                      have HE2 := Lib.hid (HEND.out (.inr (by omega)))
                      clear hle3 hlt2 hq2
                      go_wp2_with fail
                      exact ⟨⟨k + 1, mz, HKN.out, rfl, rfl, HE2.out, HMZC.out, (HOK.out.trans HOX.out).trans HOY.out⟩, HMS.out⟩
                  · have d7 : decide (q2 < a2) = false := decide_eq_false hlt2
                    have HE2 := Lib.hid (HEND.out (.inl (by omega)))
                    clear hlt2 hq2
                    go_wp2_with fail
                    exact ⟨⟨k + 1, mz, HKN.out, rfl, rfl, HE2.out, HMZC.out, (HOK.out.trans HOX.out).trans HOY.out⟩, HMS.out⟩
            · have d4 : decide (q < a4) = false := decide_eq_false hq2
              obtain rfl : q = a4 := by omega
              have HFIN : Hid (mm = m3 + d.parts.flatten.length ∨ 20000 < mm) := Lib.hid (by
                have h1 := HMM.out
                rwa [List.take_of_length_le (by rw [HA4.out]; exact Nat.le_refl _)] at h1)
              clear hq2 hq
              go_wp2_with fail
              go_loopw [3, 6] (fun v i wy => ∃ (q2 mz : Nat), q2 ≤ a2 ∧ i = .int .i64 (q2 : Int) ∧ v = .int .i64 (mz : Int) ∧ (mz = mm + szs (d.names.take q2) ∨ 20000 < mz) ∧ mz ≤ 900000000000000 ∧ Ok wr wy) (fun _ i _ => a2 - (intOf i).toNat)
              case atStart => exact ⟨0, mm, Nat.zero_le _, rfl, rfl, .inl rfl, by have := HMB.out; omega, Ok.refl _⟩
              case round =>
                obtain ⟨q2, mz, hq2, rfl, rfl, hmz, hmb2, oky⟩ := hrel
                have HMZ := Lib.hid hmz
                have HMZB := Lib.hid hmb2
                have HOY := Lib.hid oky
                have HDY := Lib.hid (HDX.out.kp (Kp.of oky) HSB.out)
                have y2 := HDY.out.x2
                rw [HA2.out] at y2
                clear hmz hmb2 oky
                have HEND : Hid (q2 = a2 ∨ 20000 < mz → mz = wts (l.take (k + 1)) ∨ 20000 < mz) := Lib.hid (fun hh => by
                  have h1 := HWT.out
                  unfold wtD at h1
                  have := HA1.out; have := HA2.out; have := HA4.out; have := HME.out
                  have h2 := HM3.out
                  rcases hh with hh | hh
                  · rcases HMZ.out with r | r
                    · rw [hh, List.take_of_length_le (by rw [HA2.out]; exact Nat.le_refl _)] at r
                      rcases HFIN.out with t | t
                      · left; omega
                      · right; omega
                    · exact .inr r
                  · exact .inr hh)
                have HMZC : Hid (mz ≤ 1000000000000000) := Lib.hid (by have := HMZB.out; omega)
                by_cases hlt2 : q2 < a2
                · have d7 : decide (q2 < a2) = true := decide_eq_true hlt2
                  by_cases hle3 : mz ≤ 20000
                  · have d8 : decide ((mz : Int) ≤ 20000) = true := decide_eq_true (by omega)
                    have d9 : decide (mz ≤ 20000) = true := decide_eq_true hle3
                    obtain ⟨nb, no, rfl, -, z1⟩ := HDY.out.ns q2 (by rw [HA2.out]; exact hlt2)
                    have HSZ := Lib.hid (szs_take d.names q2 (by rw [HA2.out]; exact hlt2))
                    have HSB2 := Lib.hid (HDY.out.z4 q2)
                    have HME3 : Hid (mz = mm + szs (d.names.take q2) ∧ mz ≤ 20000) := Lib.hid ⟨by rcases HMZ.out with r | r; exact r; omega, hle3⟩
                    generalize txA d.names q2 = nx at *
                    obtain ⟨sz, hsz⟩ : ∃ sz, nx.size = sz := ⟨_, rfl⟩
                    rw [hsz] at HSZ HSB2
                    have hsz2 : (nx.size : Int) = (sz : Int) := by rw [hsz]
                    have e6 : IntKind.i64.wrap ((mz : Int) + (sz : Int)) = (mz : Int) + (sz : Int) := IntWalk.i64_in _ (by have := HSB2.out; omega)
                    have e7 : IntKind.i64.wrap ((q2 : Int) + 1) = (q2 : Int) + 1 := IntWalk.i64_in _ (by have := HZ2.out; omega)
                    have hq0 : (0 : Int) ≤ (q2 : Int) := Int.natCast_nonneg _
                    have hq1 : (q2 : Int) < (a2 : Int) := by omega
                    have HMS2 : Hid (a2 - ((q2 : Int) + 1).toNat < a2 - (q2 : Int).toNat) := Lib.hid (by omega)
                    have HQN : Hid (q2 + 1 ≤ a2) := Lib.hid hlt2
                    clear hle3 hlt2 hq2
                    go_wp2_with fail
                    refine ⟨⟨q2 + 1, mz + sz, HQN.out, rfl, rfl, .inl ?_, by have := HSB2.out; have := HME3.out.2; omega, HOY.out⟩, HMS2.out⟩
                    have := HSZ.out
                    have := HME3.out.1
                    omega
                  · have d8 : decide ((mz : Int) ≤ 20000) = false := decide_eq_false (by omega)
                    have d9 : decide (mz ≤ 20000) = false := decide_eq_false hle3
                    have HE2 := Lib.hid (HEND.out (.inr (by omega)))
                    clear hle3 hlt2 hq2
                    go_wp2_with fail
                    exact ⟨⟨k + 1, mz, HKN.out, rfl, rfl, HE2.out, HMZC.out, (HOK.out.trans HOX.out).trans HOY.out⟩, HMS.out⟩
                · have d7 : decide (q2 < a2) = false := decide_eq_false hlt2
                  have HE2 := Lib.hid (HEND.out (.inl (by omega)))
                  clear hlt2 hq2
                  go_wp2_with fail
                  exact ⟨⟨k + 1, mz, HKN.out, rfl, rfl, HE2.out, HMZC.out, (HOK.out.trans HOX.out).trans HOY.out⟩, HMS.out⟩
        · have d1 : decide (k < n) = true := decide_eq_true hlt
          have d2 : decide ((m : Int) ≤ 20000) = false := decide_eq_false (by omega)
          have d3 : decide (m ≤ 20000) = false := decide_eq_false hle
          go_wp2_with fail
          go_ret
          exact ⟨false, rfl, HOK.out, fun h => by cases h⟩
      · have d1 : decide (k < n) = false := decide_eq_false hlt
        obtain rfl : k = n := by omega
        by_cases hle : m ≤ 20000
        · have d2 : decide ((m : Int) ≤ 20000) = true := decide_eq_true (by omega)
          have d3 : decide (m ≤ 20000) = true := decide_eq_true hle
          have HRR : Hid (l.length ≤ 300 ∧ wts l ≤ 20000) := Lib.hid ⟨by rw [HL.out]; exact HN.out, by
            rcases HM.out with r | r
            · rw [List.take_of_length_le (by rw [HL.out]; exact Nat.le_refl _)] at r; omega
            · omega⟩
          go_wp2_with fail
          go_ret
          exact ⟨true, rfl, HOK.out, fun _ => HRR.out⟩
        · have d2 : decide ((m : Int) ≤ 20000) = false := decide_eq_false (by omega)
          have d3 : decide (m ≤ 20000) = false := decide_eq_false hle
          go_wp2_with fail
          go_ret
          exact ⟨false, rfl, HOK.out, fun h => by cases h⟩
end Go.Proofs.Ytfchjdhjbepocaa
