/- The law DiskAppends, walked. -/
import Derived.Test.YtfchjdhjbepocaaMs
namespace Go.Proofs.Ytfchjdhjbepocaa
open Go Go.RowKit

def sF : Str := ⟨#[102]⟩
/-- Flags in memory. -/
def BlIn (w : World) (A : Option Addr) (l : List Bool) : Prop := ∀ j, j < l.length → ∃ b o, A = some ⟨b, o, none⟩ ∧ w.cell? ⟨b, o + j, none⟩ = some (.bool (l.getD j false))
theorem BlIn.ok {w w' : World} {A : Option Addr} {l : List Bool} (h : BlIn w A l) (k : Ok w w') : BlIn w' A l := fun j hj => by
  obtain ⟨b, o, e, hc⟩ := h j hj
  exact ⟨b, o, e, k.cell hc⟩
theorem lit_pt (S : Nat → Prop) (w : World) (B : Option Addr) (m c : Nat) (xs : List B8) (hb : Bys S w (.slice B m c) xs) (hm : m = xs.length) (hS : ¬ S w.heap.size) : PtIn S (w.alloc (.cells #[.slice B m c] 48)) (some ⟨w.heap.size, 0, none⟩) [xs] := by
  have h := heap_alloc_new w (.cells #[.slice B m c] 48)
  intro j hj
  obtain rfl : j = 0 := by simpa using hj
  exact ⟨w.heap.size, 0, B, m, c, rfl, hS, by unfold World.cell?; simp only [h]; rfl, hm, hb.ok ((Ok.refl w).alloc _)⟩
theorem lit_tx (S : Nat → Prop) (w : World) (k : Str) (hS : ¬ S w.heap.size) : TxIn S (w.alloc (.cells #[.string k] 9)) (some ⟨w.heap.size, 0, none⟩) [k] := by
  have h := heap_alloc_new w (.cells #[.string k] 9)
  intro j hj
  obtain rfl : j = 0 := by simpa using hj
  exact ⟨w.heap.size, 0, rfl, hS, by unfold World.cell?; simp only [h]; rfl⟩
theorem lit_de (S : Nat → Prop) (w : World) (A : Option Addr) (n c : Nat) (l : List (List B8)) (hn : l.length = n) (hn2 : n ≤ 140737488355328) (hp : PtIn S w A l) (hS : ¬ S w.heap.size) :
    DeedsIn S (w.alloc (.cells #[.int .i64 0, .string ⟨#[]⟩, .slice none 0 0, .int .i64 0, .slice A n c] 38)) (some ⟨w.heap.size, 0, none⟩) [⟨0, ⟨#[]⟩, [], 0, l⟩] := by
  have h := heap_alloc_new w (.cells #[.int .i64 0, .string ⟨#[]⟩, .slice none 0 0, .int .i64 0, .slice A n c] 38)
  intro j hj
  obtain rfl : j = 0 := by simpa using hj
  subst hn
  refine ⟨w.heap.size, 0, none, 0, A, c, rfl, hS, ?_, ?_, ?_, ?_, ?_, ?_, ?_, ?_, ?_, ?_, ?_, ?_⟩
  · unfold World.cell?; simp only [h]; rfl
  · unfold World.cell?; simp only [h]; rfl
  · unfold World.cell?; simp only [h]; rfl
  · unfold World.cell?; simp only [h]; rfl
  · unfold World.cell?; simp only [h]; rfl
  · intro j hj; exact absurd hj (Nat.not_lt_zero _)
  · exact hp.kp (Kp.of ((Ok.refl w).alloc _))
  · exact Nat.zero_le _
  · exact Nat.zero_le _
  · exact hn2
  · intro j
    show (txA [] j).size ≤ _
    unfold txA
    simp
  · intro j
    show (ptA l j).length ≤ _
    by_cases hj : j < l.length
    · obtain ⟨b, off, B, m, c, _, _, _, hm, hb⟩ := hp j hj
      obtain ⟨A', c', e, h2⟩ := hb.1.form
      omega
    · unfold ptA
      rw [List.getD_eq_getElem?_getD, List.getElem?_eq_none (by omega)]
      simp
theorem appR_F (D : Dk) (bs : List B8) (h : D.size = 0) : D.appR sF bs = (D.append sF bs, 0) := by
  unfold Dk.appR
  rw [if_neg (by decide), if_neg (by rw [h]; omega)]
theorem append_len (D : Dk) (k : Str) (bs : List B8) : (D.append k bs).ps.length ≤ D.ps.length + 1 := by
  unfold Dk.append
  simp only
  split
  · omega
  · simp
/-- The loop's state: k parts are appended, to the file and to all. -/
structure AL (W : World) (p mb : Nat) (l : List (List B8)) (k : Nat) (D : Dk) (pv : Sl) (vs : Tb Sl) (sa : Sl) (safe : Nat) (w : World) : Prop where
  dk : DkAt p D pv mb vs w
  one : One sF D k (l.take k).flatten safe
  own : OwnN w sa.v (l.take k).flatten
  fr : From0 W.heap.size p pv mb vs
  sa : ∀ g, sa.v.ownBlock = some g → W.heap.size ≤ g ∧ ¬ Blk p pv mb vs g
  ok : Ok W w
  ln : D.ps.length ≤ k
theorem AL.small {W w : World} {p mb k safe : Nat} {l : List (List B8)} {D : Dk} {pv sa : Sl} {vs : Tb Sl} (h : AL W p mb l k D pv vs sa safe w) (hk : k ≤ 300) (hl : l.flatten.length ≤ 20000) : Small D := by
  have h1 := h.one.us
  have h2 := pt_le l k
  have h3 := h.ln
  exact ⟨by omega, by omega⟩
theorem syncs_one {D : Dk} (h : (D.fs.at? sF).isSome = true) : D.syncs [sF] = (D.sync sF, true) := by
  rw [Dk.syncs_cons, if_pos h]; rfl
set_option maxRecDepth 100000 in
set_option maxHeartbeats 4000000 in
theorem appends_w (A : Option Addr) (n c : Nat) (l : List (List B8)) (A1 : Option Addr) (n1 c1 : Nat) (bs : List Bool) (keep : Int) (W : World) (hl : l.length = n) (hn : n ≤ 140737488355328) (hp : PtIn (fun b => W.heap.size ≤ b) W A l) (hl1 : bs.length = n1) (hb : BlIn W A1 bs)
    (hk1 : -9223372036854775808 ≤ keep) (hk2 : keep ≤ 9223372036854775807) : Calls Try.prog 6 #[.slice A n c, .slice A1 n1 c1, .int .i64 keep] W (Ret W (.bool true)) := by
  have HL := Lib.hid hl
  have HN := Lib.hid hn
  have HP := Lib.hid hp
  have HL1 := Lib.hid hl1
  have HB := Lib.hid hb
  have HK1 := Lib.hid hk1
  have HK2 := Lib.hid hk2
  clear hl hn hp hl1 hb hk1 hk2
  go_enter Try.func6, Try.ntmps6
  go_wp2_with fail
  refine (awake_f W).mono ?_
  rintro _ w1 ⟨rfl, o1⟩
  have HO1 := Lib.hid o1
  clear o1
  go_wp2_with fail
  have HOA : Hid (Ok w1 (w1.alloc (.cells #[.int .i64 0, .string ⟨#[]⟩, .slice none 0 0, .int .i64 0, .slice A n c] 38))) := Lib.hid ((Ok.refl w1).alloc _)
  refine (light_f (fun _ => False) _ 1 1 [⟨0, ⟨#[]⟩, [], 0, l⟩] _ rfl (lit_de (fun _ => False) w1 A n c l HL.out HN.out ((HP.out.mono (fun _ q => q.elim)).kp (Kp.of HO1.out)) id)).mono ?_
  rintro _ w2 ⟨lb, rfl, o2, hlb⟩
  have HO2 : Hid (Ok W w2) := Lib.hid ((HO1.out.trans HOA.out).trans o2)
  clear HO1 HOA o2
  cases lb with
  | false =>
    go_wp2_with fail
    go_ret
    exact ⟨rfl, HO2.out⟩
  | true =>
  by_cases hbig : 300 < n
  · have d1 : decide ((n : Int) > 300) = true := decide_eq_true (by omega)
    have d2 : decide (300 < n) = true := decide_eq_true hbig
    have d3 : decide ((300 : Int) < (n : Int)) = true := decide_eq_true (by omega)
    clear hlb hbig
    go_wp2_with fail
    go_ret
    exact ⟨rfl, HO2.out⟩
  have HLT : Hid (n ≤ 300 ∧ l.flatten.length ≤ 20000) := Lib.hid ⟨by omega, by
    have h1 := (hlb rfl).2
    simp only [wts, List.map_cons, List.map_nil, List.sum_cons, List.sum_nil, wtD] at h1
    omega⟩
  have d1 : decide ((n : Int) > 300) = false := decide_eq_false (by omega)
  have d2 : decide (300 < n) = false := decide_eq_false hbig
  have d3 : decide ((300 : Int) < (n : Int)) = false := decide_eq_false (by omega)
  clear hlb hbig
  go_wp2_with fail
  refine (new_f 0 w2).mono ?_
  rintro _ w3 ⟨p, mb, rfl, hd, o3, hp3, hmb3⟩
  have HD3 := Lib.hid hd
  have HO3 := Lib.hid (HO2.out.trans o3)
  have HF3 : Hid (From0 W.heap.size p sl0 mb []) := Lib.hid fun b hb => by
    have := HO2.out.size
    rcases hb with rfl | rfl | e | ⟨q, hq, _⟩
    · omega
    · omega
    · cases e
    · cases hq
  clear hd o3 hp3 hmb3 d1 d2 d3 HO2
  go_wp2_with fail
  go_loopw [8, 9, 10] (fun v f i wr => ∃ (k : Nat) (D : Dk) (pv : Sl) (vs : Tb Sl) (sa : Sl) (safe : Nat), k ≤ n ∧ i = .int .i64 (k : Int) ∧ v = .slice sa.A sa.n sa.c ∧ f = .int .i64 (safe : Int) ∧ AL W p mb l k D pv vs sa safe wr) (fun _ _ i _ => n - (intOf i).toNat)
  case atStart => exact ⟨0, fresh0 0, sl0, [], sl0, 0, Nat.zero_le _, rfl, rfl, rfl, ⟨HD3.out, One.new sF, World.ownsRow_nil _ _ _ _, HF3.out, (fun g e => by cases e), HO3.out, Nat.le_refl _⟩⟩
  case round =>
    obtain ⟨k, D, pv, vs, sa, safe, hk, rfl, rfl, rfl, hal⟩ := hrel
    have HAL := Lib.hid hal
    clear hal HD3 HF3 HO3
    by_cases hlt : k < n
    · have d1 : decide (k < n) = true := decide_eq_true hlt
      have HSM := Lib.hid (HAL.out.small (by have := HLT.out.1; omega) HLT.out.2)
      have HP2 := Lib.hid (HP.out.kp (Kp.of HAL.out.ok))
      obtain ⟨b, off, B, m, c', rfl, hsb, x0, hpm, hby⟩ := HP2.out k (by rw [HL.out]; exact hlt)
      have HTK := Lib.hid (pt_take l k (by rw [HL.out]; exact hlt))
      have HPL := Lib.hid (pt_le l (k + 1))
      have HX0 := Lib.hid x0
      have HSB := Lib.hid hsb
      have HPM := Lib.hid hpm
      have HBY := Lib.hid hby
      have hi0 : (0 : Int) ≤ (k : Int) := Int.natCast_nonneg _
      have hi1 : (k : Int) < (n : Int) := by omega
      have e1 : IntKind.i64.wrap ((k : Int) + 1) = (k : Int) + 1 := IntWalk.i64_in _ (by have := HLT.out.1; omega)
      have HMS : Hid (n - ((k : Int) + 1).toNat < n - (k : Int).toNat) := Lib.hid (by omega)
      have HKN : Hid (k + 1 ≤ n) := Lib.hid hlt
      clear hsb hpm hby hlt hk
      generalize ptA l k = xs at *
      go_wp2_with fail
      have HOL : Hid (Ok wr (wr.alloc (.cells #[.slice B m c'] 48))) := Lib.hid ((Ok.refl wr).alloc _)
      have hap := append_f p D pv mb vs sF (some ⟨wr.heap.size, 0, none⟩) 1 1 [xs] (wr.alloc (.cells #[.slice B m c'] 48)) (HAL.out.dk.ok HOL.out) HSM.out (by have := HAL.out.ln; have := HLT.out.1; have := HKN.out; omega) rfl (by omega)
        (by
          have h1 := HPL.out
          rw [HTK.out, List.length_append] at h1
          have := HLT.out.2
          simp only [List.flatten_cons, List.flatten_nil, List.append_nil]
          omega)
        (lit_pt _ wr B m c' xs ⟨HBY.out.1, fun hne g e q => HBY.out.2 hne g e (HAL.out.fr g q)⟩ HPM.out (fun q => by have := HAL.out.dk.lt q; omega))
      rw [show [xs].flatten = xs from by simp, appR_F D xs HAL.out.one.sz] at hap
      refine hap.mono ?_
      rintro _ w4 ⟨rfl, pv4, vs4, hd, hbn, hkp⟩
      have HD4 := Lib.hid hd
      have HON : Hid (One sF (D.append sF xs) (k + 1) ((l.take k).flatten ++ xs) safe) := Lib.hid (HAL.out.one.append xs)
      have HOK4 : Hid (Ok W w4) := Lib.hid (HAL.out.fr.ok (HAL.out.ok.trans HOL.out) hkp)
      have HFR4 : Hid (From0 W.heap.size p pv4 mb vs4) := Lib.hid (HAL.out.fr.next (Nat.le_trans HAL.out.ok.size HOL.out.size) hbn)
      have HLN4 : Hid ((D.append sF xs).ps.length ≤ k + 1) := Lib.hid (Nat.le_trans (append_len D sF xs) (by have := HAL.out.ln; omega))
      have HSA4 : Hid (∀ g, sa.v.ownBlock = some g → W.heap.size ≤ g ∧ ¬ Blk p pv4 mb vs4 g) := Lib.hid fun g e => by
        have h1 := HAL.out.sa g e
        refine ⟨h1.1, fun q => ?_⟩
        rcases hbn g q with r | r
        · exact h1.2 r
        · have := owns_lt HAL.out.own e
          have := HOL.out.size
          omega
      have HOW4 : Hid (OwnN w4 sa.v (l.take k).flatten) := Lib.hid (HAL.out.own.kept fun g e => by
        have h1 := owns_lt HAL.out.own e
        rw [hkp.block g (Nat.lt_of_lt_of_le h1 HOL.out.size) (HAL.out.sa g e).2, HOL.out.block g h1])
      have HX4 : Hid (w4.cell? ⟨b, off + k, none⟩ = some (.slice B m c')) := Lib.hid ((hkp.cell (HOL.out.cell HX0.out) (fun q => HSB.out (HAL.out.fr b q))))
      have HBY4 : Hid (BytesIn w4 (.slice B m c') xs) := Lib.hid ((HBY.out.1.ok HOL.out).kept fun hne g e hg => hkp.block g hg (fun q => HBY.out.2 hne g e (HAL.out.fr g q)))
      have HLL : Hid ((l.take k).flatten.length + xs.length ≤ 20000) := Lib.hid (by
        have h1 := HPL.out
        rw [HTK.out, List.length_append] at h1
        have := HLT.out.2; omega)
      have hx4 := HX4.out
      clear hap hd hbn hkp x0
      have HOA4 := HOW4.out
      have HTK2 : Hid ((l.take (k + 1)).flatten = (l.take k).flatten ++ xs) := Lib.hid HTK.out
      generalize hall : (l.take k).flatten = all at *
      clear hall
      go_upto_region 14 with (at_builtin; go_must (refine wpList_appBo Try.underlying48 rfl (.tmp 43) (.tmp 47) rfl sa all rfl HOA4 _ xs rfl HBY4.out (by have := HLL.out; omega) ?_; intro s2 w5 h1 h2 h3 h4; have HO5 := Lib.hid h1; have HG5 := Lib.hid h2; have HF5 := Lib.hid h3; have HN5 := Lib.hid h4; clear h1 h2 h3 h4))
      have HOK5 : Hid (Ok W w5) := Lib.hid (⟨HG5.out.os.trans HOK4.out.os, HG5.out.tape.trans HOK4.out.tape, HG5.out.output.trans HOK4.out.output, Nat.le_trans HOK4.out.size HG5.out.size, fun j hj => (HG5.out.block j (Nat.lt_of_lt_of_le hj HOK4.out.size) (fun q => by have := (HSA4.out j q.symm).1; omega)).trans (HOK4.out.block j hj)⟩ : Ok W w5)
      have HDK5 : Hid (DkAt p (D.append sF xs) pv4 mb vs4 w5) := Lib.hid (HD4.out.kept fun g hg => HG5.out.block g (HD4.out.lt hg) (fun q => (HSA4.out g q.symm).2 hg))
      have HSA5 : Hid (∀ g, s2.v.ownBlock = some g → W.heap.size ≤ g ∧ ¬ Blk p pv4 mb vs4 g) := Lib.hid fun g e => by
        rcases HF5.out g e with q | q
        · exact HSA4.out g q
        · refine ⟨Nat.le_trans HOK4.out.size q, fun r => ?_⟩
          have := HD4.out.lt r
          omega
      have HAL5 : Hid (AL W p mb l (k + 1) (D.append sF xs) pv4 vs4 s2 safe w5) := Lib.hid ⟨HDK5.out, by rw [HTK2.out]; exact HON.out, by rw [HTK2.out]; exact HO5.out, HFR4.out, HSA5.out, HOK5.out, HLN4.out⟩
      clear HD4 HON HOK4 HFR4 HLN4 HSA4 HOW4 HX4 HBY4 HO5 HG5 HF5 HOK5 HDK5 HSA5 hx4 HAL HX0 HBY HP2
      by_cases hq : k < n1
      · have d2 : decide (k < n1) = true := decide_eq_true hq
        obtain ⟨bb, bo, rfl, hbc⟩ := (HB.out.ok HAL5.out.ok) k (by rw [HL1.out]; exact hq)
        have hi2 : (k : Int) < (n1 : Int) := by omega
        generalize bs.getD k false = fl at *
        clear hq
        cases fl with
        | false =>
          go_wp2_with fail
          exact ⟨⟨k + 1, D.append sF xs, pv4, vs4, s2, safe, HKN.out, rfl, rfl, rfl, HAL5.out⟩, HMS.out⟩
        | true =>
          go_wp2_with fail
          have HOL5 : Hid (Ok w5 (w5.alloc (.cells #[.string sF] 9))) := Lib.hid ((Ok.refl w5).alloc _)
          have hsy := sync_f p (D.append sF xs) pv4 mb vs4 (some ⟨w5.heap.size, 0, none⟩) 1 1 [sF] (w5.alloc (.cells #[.string sF] 9)) (HAL5.out.dk.ok HOL5.out) (by have := HAL5.out.ln; have := HLT.out.1; have := HKN.out; omega) rfl (by omega)
            (lit_tx _ w5 sF (fun q => by
              have : Blk p pv4 mb vs4 w5.heap.size := by rcases q with q | q; exact .inl q; exact .inr (.inr (.inl q))
              have := HAL5.out.dk.lt this; omega))
          have hsome : ((D.append sF xs).fs.at? sF).isSome = true := by rw [HAL5.out.one.at_, if_neg (by omega)]; rfl
          unfold SyncsP at hsy
          rw [syncs_one hsome] at hsy
          refine hsy.mono ?_
          rintro _ w6 ⟨pv6, rfl, hd6, hf6, hk6⟩
          have HONE6 : Hid (One sF ((D.append sF xs).sync sF) (k + 1) (l.take (k + 1)).flatten (l.take (k + 1)).flatten.length) := Lib.hid HAL5.out.one.sync
          have hk6' : Kp (Blk p pv4 mb vs4) (w5.alloc (.cells #[.string sF] 9)) w6 := hk6.mono fun j _ q => by
            rcases q with q | q
            · exact .inl q
            · exact .inr (.inr (.inl q))
          have HFR6 : Hid (From0 W.heap.size p pv6 mb vs4) := Lib.hid fun g hg => by
            rcases hg with q | q | q | q
            · exact HAL5.out.fr g (.inl q)
            · exact HAL5.out.fr g (.inr (.inl q))
            · rcases hf6 g q with r | r
              · exact HAL5.out.fr g (.inr (.inr (.inl r)))
              · exact Nat.le_trans (Nat.le_trans HAL5.out.ok.size HOL5.out.size) r
            · exact HAL5.out.fr g (.inr (.inr (.inr q)))
          have hsb : ∀ g, s2.v.ownBlock = some g → g < w5.heap.size := fun g e => owns_lt HAL5.out.own e
          have HAL6 : Hid (AL W p mb l (k + 1) ((D.append sF xs).sync sF) pv6 vs4 s2 (l.take (k + 1)).flatten.length w6) := Lib.hid ⟨hd6, HONE6.out, HAL5.out.own.kept fun g e => by
              rw [hk6'.block g (Nat.lt_of_lt_of_le (hsb g e) HOL5.out.size) (HAL5.out.sa g e).2, HOL5.out.block g (hsb g e)], HFR6.out, fun g e => ⟨(HAL5.out.sa g e).1, fun q => by
              have h1 := (HAL5.out.sa g e).2
              rcases q with q | q | q | q
              · exact h1 (.inl q)
              · exact h1 (.inr (.inl q))
              · rcases hf6 g q with r | r
                · exact h1 (.inr (.inr (.inl r)))
                · have := hsb g e; have := HOL5.out.size; omega
              · exact h1 (.inr (.inr (.inr q)))⟩, HAL5.out.fr.ok (HAL5.out.ok.trans HOL5.out) hk6', Nat.le_trans (settle_len _ _) HAL5.out.ln⟩
          have HLE : Hid ((s2.n : Int) = (((l.take (k + 1)).flatten.length : Nat) : Int)) := Lib.hid (by rw [HTK2.out, List.length_append, HN5.out])
          clear hsy hd6 hf6 hk6 hk6' hsb hsome
          go_wp2_with fail
          refine ⟨⟨k + 1, (D.append sF xs).sync sF, pv6, vs4, s2, _, HKN.out, rfl, rfl, ?_, HAL6.out⟩, HMS.out⟩
          rw [HLE.out]
      · have d2 : decide (k < n1) = false := decide_eq_false hq
        clear hq
        go_wp2_with fail
        exact ⟨⟨k + 1, D.append sF xs, pv4, vs4, s2, safe, HKN.out, rfl, rfl, rfl, HAL5.out⟩, HMS.out⟩
    · have d1 : decide (k < n) = false := decide_eq_false hlt
      obtain rfl : k = n := by omega
      have HSM := Lib.hid (HAL.out.small HLT.out.1 HLT.out.2)
      have hfl : (l.take k).flatten = l.flatten := by rw [List.take_of_length_le (by rw [HL.out]; exact Nat.le_refl _)]
      have HON : Hid (One sF D k l.flatten safe) := Lib.hid (by rw [← hfl]; exact HAL.out.one)
      have HOW : Hid (OwnN wr sa.v l.flatten) := Lib.hid (by rw [← hfl]; exact HAL.out.own)
      have HSL : Hid (sa.n = l.flatten.length) := Lib.hid (by obtain ⟨s', e, hn⟩ := HOW.out.form; simp only [Sl.v, Value.slice.injEq] at e; rw [e.2.1, hn])
      have HFIL : Hid (D.file sF = l.flatten) := Lib.hid HON.out.file
      have HIS : Hid ((D.fs.at? sF).isSome = decide (0 < k)) := Lib.hid (by
        rw [HON.out.at_]
        by_cases h0 : k = 0
        · rw [if_pos h0, decide_eq_false (by omega)]; rfl
        · rw [if_neg h0, decide_eq_true (by omega)]; rfl)
      have HWM : Hid (many D.ps = l.flatten.length - safe ∧ safe ≤ l.flatten.length) := Lib.hid (by have := HON.out.wt; omega)
      have HDONE := Lib.hid (HON.out.done keep)
      have HFL : Hid (l.flatten.length ≤ 20000) := Lib.hid HLT.out.2
      have HBY : Hid (BytesIn wr (.slice sa.A sa.n sa.c) l.flatten) := Lib.hid (HOW.out.bytes (by have := HFL.out; omega))
      clear hfl hlt hk
      have hrd := read_f p D pv mb vs sF wr HAL.out.dk HSM.out
      rw [HFIL.out, HIS.out] at hrd
      generalize l.flatten = all at *
      go_wp2_with fail
      refine hrd.mono ?_
      rintro _ w4 ⟨s4, rfl, ho4, -, hn4, o4⟩
      have HB4 := Lib.hid (ho4.bytes (by have := HFL.out; omega))
      have HO4 := Lib.hid o4
      have HD4 := Lib.hid (HAL.out.dk.ok o4)
      have HBA := Lib.hid (HBY.out.ok o4)
      clear hrd ho4 hn4 o4
      unfold Sl.v at HB4 ⊢
      have hneq : (decide (0 < k) != decide ((k : Int) > 0)) = false := by
        rw [show decide ((k : Int) > 0) = decide (0 < k) from decide_eq_decide.2 (by omega)]; simp
      have hneq2 : (decide (0 < k) != decide ((0 : Int) < (k : Int))) = false := hneq
      have hneq3 : (decide (0 < k) != decide (0 < k)) = false := by simp
      go_wp2_with fail
      have hsm := sameBytes_any _ _ all all w4 HB4.out HBA.out
      have he : eqB all all = true := by unfold eqB; simp
      rw [he] at hsm
      refine hsm.mono ?_
      rintro _ w5 ⟨rfl, o5⟩
      have HO5 := Lib.hid (HO4.out.trans o5)
      have HD5 := Lib.hid (HD4.out.ok o5)
      clear hsm he o5 hneq hneq2 hneq3
      obtain ⟨M, hM⟩ : ∃ M, many D.ps = M := ⟨_, rfl⟩
      have HM : Hid (M = all.length - safe ∧ safe ≤ all.length) := Lib.hid (by rw [← hM]; exact HWM.out)
      have hwt := waits_f p D pv mb vs w5 HD5.out HSM.out
      rw [hM] at hwt
      clear hM
      have hM0 : (0 : Int) ≤ (M : Int) := Int.natCast_nonneg _
      have hM1 : (M : Int) ≤ 20000 := by have := HM.out; have := HFL.out; omega
      have hbs : ((sa.n : Int) - (safe : Int)) = (M : Int) := by have := HM.out; have := HSL.out; omega
      go_wp2_with fail
      refine hwt.mono ?_
      rintro _ w6 ⟨rfl, o6⟩
      have HO6 := Lib.hid (HO5.out.trans o6)
      have HD6 := Lib.hid (HD5.out.ok o6)
      clear hwt o6
      go_upto_region 21 with fail
      go_upto_region 22 with fail
      have hke : (if (M : Int) < if keep < 0 then 0 else keep then (M : Int) else if keep < 0 then 0 else keep) = ((kept1 keep M : Nat) : Int) := by
        rw [kept1_int]
        split <;> split <;> omega
      rw [hke]
      obtain ⟨mx, hmx⟩ : ∃ mx, (if keep < 0 then 0 else keep) = mx := ⟨_, rfl⟩
      rw [hmx]
      have HKM : Hid (kept1 keep M ≤ M) := Lib.hid (kept1_le keep M)
      have HDN : Hid (((D.crash keep).file sF).length = safe + kept1 keep M ∧ (D.crash keep).file sF = all.take ((D.crash keep).file sF).length) := Lib.hid (by rw [HM.out.1]; exact HDONE.out)
      clear hke hmx hbs
      generalize kept1 keep M = kk at *
      go_wp2_with fail
      refine (crash_f p D pv mb vs keep w6 HD6.out HSM.out HK1.out HK2.out).mono ?_
      rintro _ w7 ⟨rfl, pv7, vs7, hd7, hb7, hk7⟩
      have HSM7 : Hid (Small (D.crash keep)) := Lib.hid ⟨Nat.le_trans (used_crash _ _ _) HSM.out.us, Nat.zero_le _⟩
      have HBA7 : Hid (BytesIn w7 (.slice sa.A sa.n sa.c) all) := Lib.hid ((HBY.out.ok HO6.out).kept fun _ g e hg => hk7.block g hg (HAL.out.sa g e).2)
      have HO7 : Hid (Ok W w7) := Lib.hid (HAL.out.fr.ok (HAL.out.ok.trans HO6.out) hk7)
      have HD7 := Lib.hid hd7
      clear hd7 hb7 hk7
      go_wp2_with fail
      have hrd := read_f p (D.crash keep) pv7 mb vs7 sF w7 HD7.out HSM7.out
      generalize ((D.crash keep).fs.at? sF).isSome = is7 at *
      generalize (D.crash keep).file sF = fx at *
      refine hrd.mono ?_
      rintro _ w8 ⟨s8, rfl, ho8, -, hn8, o8⟩
      have HFX : Hid (fx.length ≤ all.length) := Lib.hid (by have h1 := HDN.out.2; have h2 := congrArg List.length h1; rw [List.length_take] at h2; omega)
      have HB8 := Lib.hid (ho8.bytes (by have := HFL.out; have := HFX.out; omega))
      have HN8 := Lib.hid hn8
      have HBA8 := Lib.hid (HBA7.out.ok o8)
      have HO8 : Hid (Ok W w8) := Lib.hid (HO7.out.trans o8)
      clear hrd ho8 hn8 o8
      unfold Sl.v at HB8 ⊢
      go_wp2_with fail
      have hbg := begins_f _ _ fx all w8 HB8.out HBA8.out
      have hbe : beginsB fx all = true := by
        unfold beginsB eqB
        rw [decide_eq_true HFX.out, ← HDN.out.2]
        simp
      rw [hbe] at hbg
      refine hbg.mono ?_
      rintro _ w9 ⟨rfl, o9⟩
      have HO9 : Hid (Ok W w9) := Lib.hid (HO8.out.trans o9)
      have hfin : (s8.n : Int) = (safe : Int) + (kk : Int) := by have := HN8.out; have := HDN.out.1; omega
      have hs0 : (0 : Int) ≤ (safe : Int) := Int.natCast_nonneg _
      have hs1 : (safe : Int) ≤ 20000 := by have := HM.out.2; have := HFL.out; omega
      have hs2 : (0 : Int) ≤ (kk : Int) := Int.natCast_nonneg _
      have hs3 : (kk : Int) ≤ 20000 := by have := HKM.out; omega
      clear hbg hbe o9
      go_wp2_with fail
      go_ret
      refine ⟨?_, HO9.out⟩
      first | rfl | simp [hfin]
end Go.Proofs.Ytfchjdhjbepocaa
