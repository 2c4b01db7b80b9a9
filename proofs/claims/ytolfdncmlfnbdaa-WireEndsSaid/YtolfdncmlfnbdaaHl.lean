/- The law WireReads, walked: what any calls read of any bytes, how many are left, and the end, are what the document tells. -/
import Derived.Test.YtolfdncmlfnbdaaHk
namespace Go.Proofs.Ytolfdncmlfnbdaa
open Go.RowKit

theorem KO {g : Nat} {w w' : World} {a : Addr} {v : Value} (h : w.cell? a = some v) (o : Alo g w w') (hne : a.block ≠ g) : w'.cell? a = some v := by
  rw [cell_eq (o.block a.block hne (World.block_lt_of_cell? _ _ h))]; exact h
def CellS (a : Addr) (v : Value) (w : World) : Prop := w.cell? a = some v
theorem RfS.left {q m : Nat} {w : World} {ys : List B8} {f : Bool} (h : RfS q m w ys f) : ∃ A c, w.cell? ⟨m, 0, none⟩ = some (.slice A ys.length c) := by
  obtain ⟨_, _, ⟨v, hv, h0⟩, _⟩ := h
  obtain ⟨A, c, rfl, _⟩ := hv.1.form
  exact ⟨A, c, h0⟩
theorem Inv.drew {W W0 w : World} {g q m : Nat} {ys : List B8} {f : Bool} (h : Inv W W0 g q m w ys f) : Inv W W0 g q m w.drew ys f := h.to ((Ok.refl w).drew)
theorem KD {w : World} {a : Addr} {v : Value} (h : w.cell? a = some v) : w.drew.cell? a = some v := ((Ok.refl w).drew).cell h
theorem Inv.bel {W W0 w w' : World} {g q m : Nat} {ys : List B8} {f : Bool} (h : Inv W W0 g q m w ys f) (p : Pos W W0 g q m) (k : Below (m + 1) w w') : Inv W W0 g q m w' ys f := by
  have h1 := p.gm
  have h2 := h.rd.1
  have h3 := h.rf.1
  have h4 := p.wg
  exact ⟨h.rd.same (Below.trans h.rd.2.1 (k.mono (by omega))) (k.block g (by omega)), h.rf.same (k.block q (by omega)) (k.block m (by omega)) k.size, Below.trans h.ok (k.mono (by omega))⟩
theorem KB {m : Nat} {w w' : World} {v : Value} (h : w.cell? ⟨m, 0, none⟩ = some v) (k : Below (m + 1) w w') : w'.cell? ⟨m, 0, none⟩ = some v := by
  rw [k.cell (p := ⟨m, 0, none⟩) (Nat.lt_succ_self m)]; exact h
set_option maxRecDepth 100000 in
set_option maxHeartbeats 8000000 in
theorem wireReads_w (W : World) (xs : List B8) (v : Value) (l : List Cl) (A : Option Addr) (nc c : Nat) (hx : BytesIn W v xs) (hl : CallsAt W A l) (hlen : l.length = nc) (hnc : nc ≤ 140737488351232) :
    Calls Try.prog 4 #[v, .slice A nc c] W fun e w' => e = .returned (.bool true) ∧ Ok W w' := by
  obtain ⟨Ab, cb, rfl, hxm⟩ := hx.form
  have HX := Lib.hid hx
  have HC := Lib.hid hl
  have HLN := Lib.hid hlen
  have HAW := Lib.hid (fun V => awake_v V)
  clear hx hl hlen
  obtain ⟨n, hn⟩ : ∃ n, xs.length = n := ⟨_, rfl⟩
  rw [hn] at HX hxm ⊢
  have HN := Lib.hid hn
  clear hn
  go_enter Try.func4, Try.ntmps4
  by_cases h1 : 20000 < n
  · have d1 : decide ((20000 : Int) < (n : Int)) = true := decide_eq_true (by omega)
    go_wp2_with fail
    (with_reducible refine (HAW.out _).mono ?_)
    rintro _ wa ⟨rfl, oa⟩
    go_wp2_with fail
    go_ret
    exact ⟨rfl, oa⟩
  have d1 : decide ((20000 : Int) < (n : Int)) = false := decide_eq_false (by omega)
  by_cases h2 : 1000 < nc
  · have d2 : decide ((1000 : Int) < (nc : Int)) = true := decide_eq_true (by omega)
    go_wp2_with fail
    (with_reducible refine (HAW.out _).mono ?_)
    rintro _ wa ⟨rfl, oa⟩
    go_wp2_with fail
    go_ret
    exact ⟨rfl, oa⟩
  have d2 : decide ((1000 : Int) < (nc : Int)) = false := decide_eq_false (by omega)
  have hn2 : n ≤ 20000 := by omega
  have hnc2 : nc ≤ 1000 := by omega
  clear h1 h2
  go_wp2_with fail
  (with_reducible refine (lentB_w Ab n cb xs HN.out (by omega) W HX.out).mono ?_)
  rintro _ w1 ⟨gi, ci, rfl, hci, hgi, ok1, ho1⟩
  have HOI := Lib.hid ho1
  have HK1 := Lib.hid ok1
  have HGI := Lib.hid hgi
  have HGS : Hid (gi < w1.heap.size) := Lib.hid ((ho1.lt gi rfl).2)
  have HCI := Lib.hid hci
  clear ho1 ok1 hgi
  go_wp2_with fail
  (with_reducible refine (newReader_z w1 _ xs (by have := lent_bytes HN.out (by omega) HOI.out; exact this)).mono ?_)
  rintro _ w2 ⟨g, A2, c2, rfl, hg1, hgs, ok2, ho2, hlt2, hgb⟩
  have HG1 := Lib.hid hg1
  have HGS2 := Lib.hid hgs
  have HK2 := Lib.hid ok2
  have HO2 := Lib.hid ho2
  have HLT2 := Lib.hid hlt2
  have HGB := Lib.hid hgb
  clear hg1 hgs ok2 ho2 hlt2 hgb
  go_wp2_with fail
  (with_reducible refine (overBytes_w gi n ci w2 (by omega) HCI.out ((HOI.out.ok HK2.out).capm) ((HOI.out.ok HK2.out).open)).mono ?_)
  rintro _ w3 ⟨rfl, on3⟩
  have HK3 : Hid (Ok W w3) := Lib.hid (Below.trans (Ok.trans HK1.out HK2.out) (on3.below HGI.out))
  have HRD3 : Hid (Rd (cutW w3 g) g w3 xs false) := Lib.hid (by
    have hgg : g ≠ gi := by have := HG1.out; have := HGS.out; omega
    have hblk : w3.heap[g]? = w2.heap[g]? := on3.2.2.2.2 g hgg
    have hs3 : w3.heap.size = w2.heap.size := on3.2.2.2.1
    have ho3 : OwnN w3 w1.heap.size (.slice A2 xs.length c2) xs := own_stays HO2.out fun b hb => on3.2.2.2.2 b (by have := (HO2.out.lt b hb).1; have := HGS.out; omega)
    have hb3 := (ho3.cut HLT2.out).bytes (by rw [HN.out]; omega)
    refine ⟨cutW_size _ _, cutW_ok _ _ (by rw [hs3]; exact Nat.le_of_lt HGS2.out), ⟨_, hb3, ?_⟩, ?_, ?_, ?_, ?_⟩
    · rw [cell_eq (a := ⟨g, 0, none⟩) hblk, cell_of_heap HGB.out]; rfl
    · rw [cell_eq (a := ⟨g, 1, none⟩) hblk, cell_of_heap HGB.out]; rfl
    · rw [cell_eq (a := ⟨g, 2, none⟩) hblk, cell_of_heap HGB.out]; rfl
    · rw [frozen_eq (a := ⟨g, 0, none⟩) hblk, World.frozen?, HGB.out]; rfl
    · rw [frozen_eq (a := ⟨g, 1, none⟩) hblk, World.frozen?, HGB.out]; rfl)
  have HWG : Hid (W.heap.size ≤ g) := Lib.hid (Nat.le_trans HK1.out.size HG1.out)
  have HG3 : Hid (g < w3.heap.size ∧ gi < g) := Lib.hid ⟨by rw [on3.2.2.2.1]; exact HGS2.out, by have := HGS.out; have := HG1.out; omega⟩
  clear on3 HGB HLT2 HO2 HK2 HOI HCI hci
  obtain ⟨W0, hW0⟩ : ∃ X, cutW w3 g = X := ⟨_, rfl⟩
  rw [hW0] at HRD3
  clear hW0
  go_wp2_with fail
  (with_reducible refine (copyBytes_w w3 _ xs (HK3.out.bytes HX.out) (by rw [HN.out]; omega)).mono ?_)
  rintro _ w4 ⟨A4, c4, rfl, ho4, ok4⟩
  have HINV : Hid (∃ q, Pos W W0 g q w4.heap.size ∧ Inv W W0 g q w4.heap.size (w4.alloc (.cells #[.slice A4 xs.length c4, .bool false] 50)) xs false) := Lib.hid (by
    have hka : Ok w4 (w4.alloc (.cells #[.slice A4 xs.length c4, .bool false] 50)) := (Ok.refl w4).alloc _
    have hb := (ho4.ok hka).bytes (by rw [HN.out]; omega)
    have hrd := HRD3.out.ok (Ok.trans ok4 hka)
    have hokk : Ok W (w4.alloc (.cells #[.slice A4 xs.length c4, .bool false] 50)) := Ok.trans HK3.out (Ok.trans ok4 hka)
    have hg4 : g < w4.heap.size := Nat.lt_of_lt_of_le HG3.out.1 ok4.size
    have hcl := heap_alloc_new w4 (.cells #[.slice A4 xs.length c4, .bool false] 50)
    have mk : ∀ q, q < w4.heap.size → q ≠ g → BytesQ q (w4.alloc (.cells #[.slice A4 xs.length c4, .bool false] 50)) (.slice A4 xs.length c4) xs → ∃ q, Pos W W0 g q w4.heap.size ∧ Inv W W0 g q w4.heap.size (w4.alloc (.cells #[.slice A4 xs.length c4, .bool false] 50)) xs false := fun q hq hqg hbq =>
      ⟨q, ⟨HWG.out, hg4, hqg⟩, ⟨hrd, ⟨hq, by simp, ⟨_, hbq, by rw [cell_of_heap hcl]; rfl⟩, by rw [cell_of_heap hcl]; rfl, by rw [World.frozen?, hcl]; rfl, by rw [World.frozen?, hcl]; rfl⟩, hokk⟩⟩
    rcases own_form ho4 with ⟨e, h0⟩ | ⟨q, cap, e⟩
    · simp only [Value.slice.injEq] at e
      obtain ⟨rfl, -, -⟩ := e
      exact mk gi (by have := HG3.out.2; omega) (by have := HG3.out.2; omega) ⟨hb, fun _ _ _ e => by cases e⟩
    · simp only [Value.slice.injEq] at e
      obtain ⟨rfl, -, rfl⟩ := e
      have hq := ho4.lt q rfl
      refine mk q hq.2 (by have := hq.1; have := HG3.out.1; omega) ⟨hb, fun A' n' c' e' _ => ?_⟩
      simp only [Value.slice.injEq, Option.some.injEq] at e'
      rw [← e'.1])
  clear ho4 HRD3 HX
  rw [HN.out] at HINV ⊢
  go_wp2_with fail
  generalize w4.heap.size = m at *
  obtain ⟨q, hpos, hinv⟩ := HINV.out
  have HP := Lib.hid hpos
  have HI0 := Lib.hid hinv
  clear hpos hinv HINV ok4 HG3 HWG HK3 HGS2 HG1 HGS HGI HK1
  generalize w4.alloc (.cells #[.slice A4 n c4, .bool false] 50) = w5 at *
  have HXL : Hid (xs.length ≤ 20000) := Lib.hid (by rw [HN.out]; exact hn2)
  clear HN hxm hn2 d1
  go_loopw [8, 9] (fun v8 i wr => ∃ (k r : Nat) (A8 : Option Addr) (c8 : Nat) (ys : List B8) (f : Bool), k ≤ nc ∧ r ≤ k ∧ i = .int .i64 k ∧ v8 = .slice A8 r c8 ∧ Inv W W0 g q m wr ys f ∧ (f = true → ys = []) ∧ ys.length ≤ 20000 ∧ RowsO (m + 1) wr A8 r c8 ∧ m < wr.heap.size) (fun _ i _ => nc - (intOf i).toNat)
  case atStart => exact ⟨0, 0, none, 0, xs, false, Nat.zero_le _, Nat.zero_le _, rfl, rfl, HI0.out, (fun h => by cases h), HXL.out, RowsO.nil _ _, HI0.out.rf.2.1⟩
  case round =>
    obtain ⟨k, r, A8, c8, ys, f, hk, hrk, rfl, rfl, hinv, hfy, hyl, hro, hms⟩ := hrel
    have HI := Lib.hid hinv
    have HFY := Lib.hid hfy
    have HYL := Lib.hid hyl
    have HRO := Lib.hid hro
    clear hinv hfy hyl hro HI0 HXL
    by_cases hlt : k < nc
    · obtain ⟨b, o, rfl, C0, C1⟩ := (HC.out.ok HI.out.ok) k (by rw [HLN.out]; exact hlt)
      have i0 : (0 : Int) ≤ (k : Int) := Int.natCast_nonneg _
      have i1 : (k : Int) < (nc : Int) := by omega
      generalize (l.getD k ⟨0, 0⟩).kind = kd at *
      generalize (l.getD k ⟨0, 0⟩).most = z at *
      have HPB : Hid ((wr.alloc (.cells #[.int .i64 kd, .int .i64 z] 52)).heap[wr.heap.size]? = some (.cells #[.int .i64 kd, .int .i64 z] 52 (0, 0))) := Lib.hid (heap_alloc_new _ _)
      go_upto_region 12 with fail
      have HIP := Lib.hid (HI.out.to ((Ok.refl wr).alloc (.cells #[.int .i64 kd, .int .i64 z] 52)))
      have HROP := Lib.hid (HRO.out.up (Up.ok ((Ok.refl wr).alloc (.cells #[.int .i64 kd, .int .i64 z] 52))))
      have HPM : Hid (m < wr.heap.size ∧ g < wr.heap.size) := Lib.hid ⟨hms, Nat.lt_trans HP.out.gm hms⟩
      clear HI HRO C0 C1 hms
      generalize wr.alloc (.cells #[.int .i64 kd, .int .i64 z] 52) = wp at *
      generalize wr.heap.size = p at *
      have c0 : wp.cell? ⟨p, 0, none⟩ = some (.int .i64 kd) := by rw [cell_of_heap HPB.out]; rfl
      have c1 : wp.cell? ⟨p, 1, none⟩ = some (.int .i64 z) := by rw [cell_of_heap HPB.out]; rfl
      have hpg : p ≠ g := by have := HPM.out.2; omega
      have hpm : p ≠ m := by have := HPM.out.1; omega
      obtain ⟨t, hb⟩ : ∃ t, bits .and .i64 kd 3 = t := ⟨_, rfl⟩
      have HPG := Lib.hid hpg
      have HPMM := Lib.hid hpm
      have HGB : Hid (g < m + 1) := Lib.hid (Nat.lt_succ_of_lt HP.out.gm)
      clear hpg hpm
      by_cases h0 : t = 0
      · subst h0
        obtain ⟨N, ys2, f2, hZ⟩ : ∃ N ys2 f2, numZ z ys f = (N, ys2, f2) := ⟨_, _, _, rfl⟩
        have HN : Hid (∀ w, Rd W0 g w ys f → Calls Try.prog 27 #[.pointer (some ⟨g, 0, none⟩), .int .i64 z] w (RdPost W0 g w (.int .i64 (N : Int)) ys2 f2)) := Lib.hid fun w h => by have := Num_z W0 g w ys f z h; rw [hZ] at this; exact this
        have HM : Hid (∀ w, RfS q m w ys f → Calls Try.prog 28 #[.pointer (some ⟨m, 0, none⟩), .int .i64 z] w (RfSP q m w (.int .i64 (N : Int)) ys2 f2)) := Lib.hid fun w h => by have := rnum_s q m w ys f z h; rw [hZ] at this; exact this
        have HFY2 : Hid (f2 = true → ys2 = []) := Lib.hid (by have := numZ_ok z ys f HFY.out; rw [hZ] at this; exact this)
        have HYL2 : Hid (ys2.length ≤ 20000) := Lib.hid (by have h1 := numZ_len z ys f; rw [hZ] at h1; have h2 := HYL.out; exact Nat.le_trans h1 h2)
        clear hZ
        have e0 : ((N : Int) != (N : Int)) = false := by simp
        have HD := Lib.hid HIP.out.drew
        go_wp2_with fail
        go_region_held3 (fun w' => w'.cell? ⟨p, 1, none⟩ = some (.int .i64 z))
          (first | assumption | exact KD c1 | exact KO (KD c1) (by assumption) HPG.out | exact KO (KO (KD c1) (by assumption) HPG.out) (by assumption) HPMM.out)
          ((first
            | (go_at_call 27; (with_reducible refine (HN.out _ ?_).mono ?_); (exact HD.out.rd); rintro _ wc ⟨rfl, hrd, hon⟩; have han : Alo g wp.drew wc := Alo.only hon; clear hon)
            | (go_at_call 28; (with_reducible refine (HM.out _ ?_).mono ?_); (exact HD.out.rf1 HP.out (by assumption)); rintro _ wd ⟨rfl, hrf, hon2⟩; have han2 := Alo.only hon2; clear hon2)))
        all_goals skip
        have HI2 := Lib.hid (HD.out.step HP.out (by assumption) (by assumption) (by assumption) (by assumption))
        have HRO2 : Hid (RowsO (m + 1) wd A8 r c8) := Lib.hid (((HROP.out.up (Up.ok ((Ok.refl wp).drew))).up (Up.alo (by assumption) HGB.out)).up (Up.alo (by assumption) (Nat.lt_succ_self m)))
        clear hrd han hrf han2 HN HM HFY HYL HROP HIP HD c0 c1
        go_wp2_with fail
        obtain ⟨A9, c9, L0⟩ := HI2.out.rf.left
        have q34 : ∀ d os, Calls Try.prog 34 #[.pointer (some ⟨g, 0, none⟩)] (Go.Sort.grow (redrawn wd d) os) fun e w'' => e = .returned (.int .i64 ((ys2).length : Int)) ∧ ∃ q : Regrown, w'' = Go.Sort.grow (redrawn wd q.d) q.os := fun d os => Calls.regrown_of ((left_r W0 g _ (ys2) (f2) (HI2.out.rd.ok (below_regrown wd d os)) HFY2.out).mono fun e w' ⟨a, b⟩ => ⟨a, b ▸ Ok.refl _⟩)
        have q35 : ∀ d os, Calls Try.prog 35 #[.pointer (some ⟨g, 0, none⟩)] (Go.Sort.grow (redrawn wd d) os) fun e w'' => e = .returned (.int .i64 (endOf (ys2) (f2))) ∧ ∃ q : Regrown, w'' = Go.Sort.grow (redrawn wd q.d) q.os := fun d os => Calls.regrown_of ((end_r W0 g _ (ys2) (f2) (HI2.out.rd.ok (below_regrown wd d os))).mono fun e w' ⟨a, b⟩ => ⟨a, b ▸ Ok.refl _⟩)
        have q36 : ∀ d os, Calls Try.prog 36 #[.pointer (some ⟨m, 0, none⟩)] (Go.Sort.grow (redrawn wd d) os) fun e w'' => e = .returned (.int .i64 (endOf (ys2) (f2))) ∧ ∃ q : Regrown, w'' = Go.Sort.grow (redrawn wd q.d) q.os := fun d os => Calls.regrown_of ((rend_s q m _ (ys2) (f2) (HI2.out.rf.ok (below_regrown wd d os))).mono fun e w' ⟨a, b⟩ => ⟨a, b ▸ Ok.refl _⟩)
        have kL0 := cell_regrown L0
        obtain ⟨E, hE⟩ : ∃ E, endOf (ys2) (f2) = E := ⟨_, rfl⟩
        obtain ⟨L, hL⟩ : ∃ L, (ys2).length = L := ⟨_, rfl⟩
        rw [hE] at q35 q36
        rw [hL] at q34 kL0
        clear hE hL L0
        have e1 : ((L : Int) != (L : Int)) = false := by simp
        have e2 : (E != E) = false := by simp
        refine wp_region_quiet_below (by kernel_rfl) (by kernel_rfl) ?_
        refine HeldF.out ?_
        repeat (
          refine hqF_step (fun K hK => ?_)
          go_simp
          first
            | (refine hK _ ?_; clear hK K)
            | (apply Exists.intro
               refine ⟨fun _ => ?_, hK _ ?_⟩
               (with_reducible first | exact q34 _ _ | exact q35 _ _ | exact q36 _ _)
               clear hK K))
        refine HeldF.mk (wpQuiet_nil ?_)
        intro _ hw'
        obtain ⟨⟨dq, osq⟩, hw''⟩ := hw'
        subst hw''
        have HI3 := Lib.hid (HI2.out.to (below_regrown wd dq osq))
        have HR3 := Lib.hid (HRO2.out.up (Up.ok (below_regrown wd dq osq)))
        clear q34 q35 q36 kL0 HI2 HRO2
        generalize Go.Sort.grow (redrawn wd dq) osq = wz at *
        go_wp2_with fail
        exact ⟨⟨k + 1, r, A8, c8, ys2, f2, by omega, by omega, by go_num, rfl, HI3.out, HFY2.out, HYL2.out, HR3.out, HI3.out.rf.2.1⟩, by simp [intOf]; omega⟩
      by_cases h1 : t = 1
      · subst h1
        obtain ⟨N, ys2, f2, hZ⟩ : ∃ N ys2 f2, flagZ ys f = (N, ys2, f2) := ⟨_, _, _, rfl⟩
        have HN : Hid (∀ w, Rd W0 g w ys f → Calls Try.prog 29 #[.pointer (some ⟨g, 0, none⟩)] w (RdPost W0 g w (.bool N) ys2 f2)) := Lib.hid fun w h => by have := Flag_z W0 g w ys f h; rw [hZ] at this; exact this
        have HM : Hid (∀ w, RfS q m w ys f → Calls Try.prog 30 #[.pointer (some ⟨m, 0, none⟩)] w (RfSP q m w (.bool N) ys2 f2)) := Lib.hid fun w h => by have := rflag_s q m w ys f h; rw [hZ] at this; exact this
        have HFY2 : Hid (f2 = true → ys2 = []) := Lib.hid (by have := flagZ_ok ys f HFY.out; rw [hZ] at this; exact this)
        have HYL2 : Hid (ys2.length ≤ 20000) := Lib.hid (by have h1 := flagZ_len ys f; rw [hZ] at h1; have h2 := HYL.out; exact Nat.le_trans h1 h2)
        clear hZ
        have e0 : (N != N) = false := by simp
        go_wp2_with fail
        (with_reducible refine (HN.out _ HIP.out.rd).mono ?_)
        rintro _ wc ⟨rfl, hrd, hon⟩
        have HRDc := Lib.hid hrd
        have HANc := Lib.hid (Alo.only hon)
        clear hrd hon
        go_wp2_with fail
        (with_reducible refine (HM.out _ (HIP.out.rf1 HP.out HANc.out)).mono ?_)
        rintro _ wd ⟨rfl, hrf, hon2⟩
        have HI2 := Lib.hid (HIP.out.step HP.out HRDc.out HANc.out hrf (Alo.only hon2))
        have HRO2 := Lib.hid ((HROP.out.up (Up.alo HANc.out HGB.out)).up (Up.only hon2 (Nat.lt_succ_self m)))
        clear hrf hon2 HRDc HANc HN HM HFY HYL HROP HIP
        go_wp2_with fail
        obtain ⟨A9, c9, L0⟩ := HI2.out.rf.left
        have q34 : ∀ d os, Calls Try.prog 34 #[.pointer (some ⟨g, 0, none⟩)] (Go.Sort.grow (redrawn wd d) os) fun e w'' => e = .returned (.int .i64 ((ys2).length : Int)) ∧ ∃ q : Regrown, w'' = Go.Sort.grow (redrawn wd q.d) q.os := fun d os => Calls.regrown_of ((left_r W0 g _ (ys2) (f2) (HI2.out.rd.ok (below_regrown wd d os)) HFY2.out).mono fun e w' ⟨a, b⟩ => ⟨a, b ▸ Ok.refl _⟩)
        have q35 : ∀ d os, Calls Try.prog 35 #[.pointer (some ⟨g, 0, none⟩)] (Go.Sort.grow (redrawn wd d) os) fun e w'' => e = .returned (.int .i64 (endOf (ys2) (f2))) ∧ ∃ q : Regrown, w'' = Go.Sort.grow (redrawn wd q.d) q.os := fun d os => Calls.regrown_of ((end_r W0 g _ (ys2) (f2) (HI2.out.rd.ok (below_regrown wd d os))).mono fun e w' ⟨a, b⟩ => ⟨a, b ▸ Ok.refl _⟩)
        have q36 : ∀ d os, Calls Try.prog 36 #[.pointer (some ⟨m, 0, none⟩)] (Go.Sort.grow (redrawn wd d) os) fun e w'' => e = .returned (.int .i64 (endOf (ys2) (f2))) ∧ ∃ q : Regrown, w'' = Go.Sort.grow (redrawn wd q.d) q.os := fun d os => Calls.regrown_of ((rend_s q m _ (ys2) (f2) (HI2.out.rf.ok (below_regrown wd d os))).mono fun e w' ⟨a, b⟩ => ⟨a, b ▸ Ok.refl _⟩)
        have kL0 := cell_regrown L0
        obtain ⟨E, hE⟩ : ∃ E, endOf (ys2) (f2) = E := ⟨_, rfl⟩
        obtain ⟨L, hL⟩ : ∃ L, (ys2).length = L := ⟨_, rfl⟩
        rw [hE] at q35 q36
        rw [hL] at q34 kL0
        clear hE hL L0
        have e1 : ((L : Int) != (L : Int)) = false := by simp
        have e2 : (E != E) = false := by simp
        refine wp_region_quiet_below (by kernel_rfl) (by kernel_rfl) ?_
        refine HeldF.out ?_
        repeat (
          refine hqF_step (fun K hK => ?_)
          go_simp
          first
            | (refine hK _ ?_; clear hK K)
            | (apply Exists.intro
               refine ⟨fun _ => ?_, hK _ ?_⟩
               (with_reducible first | exact q34 _ _ | exact q35 _ _ | exact q36 _ _)
               clear hK K))
        refine HeldF.mk (wpQuiet_nil ?_)
        intro _ hw'
        obtain ⟨⟨dq, osq⟩, hw''⟩ := hw'
        subst hw''
        have HI3 := Lib.hid (HI2.out.to (below_regrown wd dq osq))
        have HR3 := Lib.hid (HRO2.out.up (Up.ok (below_regrown wd dq osq)))
        clear q34 q35 q36 kL0 HI2 HRO2
        generalize Go.Sort.grow (redrawn wd dq) osq = wz at *
        go_wp2_with fail
        exact ⟨⟨k + 1, r, A8, c8, ys2, f2, by omega, by omega, by go_num, rfl, HI3.out, HFY2.out, HYL2.out, HR3.out, HI3.out.rf.2.1⟩, by simp [intOf]; omega⟩
      by_cases h2 : t = 2
      · subst h2
        obtain ⟨zs, ys2, f2, hZ⟩ : ∃ zs ys2 f2, rowZ z ys f = (zs, ys2, f2) := ⟨_, _, _, rfl⟩
        obtain ⟨N, hN⟩ : ∃ N, toStr zs = N := ⟨_, rfl⟩
        have HNZ := Lib.hid hN
        have HN : Hid (∀ w, Rd W0 g w ys f → Calls Try.prog 31 #[.pointer (some ⟨g, 0, none⟩), .int .i64 z] w (RdPost W0 g w (.string N) ys2 f2)) := Lib.hid fun w h => by have := Text_z W0 g w ys f z h; rw [hZ] at this; rw [← hN]; exact this
        have HM : Hid (∀ w, RfS q m w ys f → Calls Try.prog 32 #[.pointer (some ⟨m, 0, none⟩), .int .i64 z] w (RowS q m w zs ys2 f2)) := Lib.hid fun w h => by have := rrow_s q m w ys f z h; rw [hZ] at this; exact this
        have HFY2 : Hid (f2 = true → ys2 = []) := Lib.hid (by have := rowZ_ok z ys f HFY.out; rw [hZ] at this; exact this)
        have HYL2 : Hid (ys2.length ≤ 20000) := Lib.hid (by have h1 := (rowZ_len z ys f).1; rw [hZ] at h1; have h2 := HYL.out; exact Nat.le_trans h1 h2)
        clear hZ hN
        go_wp2_with fail
        refine Until.begin (S := (fun V => V.cell? ⟨p, 1, none⟩ = some (.int .i64 z))) (j := 7) (by kernel_rfl) ?_ ?_
        · exact KD c1
        intro hS
        have HD : Hid (Ok wp wp.drew) := Lib.hid ((Ok.refl wp).drew)
        generalize wp.drew = V0 at *
        have HDI := Lib.hid (HIP.out.to HD.out)
        refine Until.take0 (i := 0) (v := ?v0) rfl (by kernel_rfl) (by kernel_rfl) (by kernel_rfl) (by kernel_rfl) (fun _ _ _ h => h) (Or.inl ⟨by rfl, ?hy0⟩) (fun _ => hS) ?rest0
        case hy0 => ((intro w hSw); clear hSw; go_simp; (try with_reducible rfl))
        try go_frame
        refine Until.take0 (i := 1) (v := ?v1) rfl (by kernel_rfl) (by kernel_rfl) (by kernel_rfl) (by kernel_rfl) (fun _ _ _ h => h) (Or.inl ⟨by rfl, ?hy1⟩) (fun _ => hS) ?rest1
        case hy1 => ((intro w hSw); clear hSw; go_simp; (try with_reducible rfl))
        try go_frame
        refine Until.take0 (i := 4) (v := ?v4) rfl (by kernel_rfl) (by kernel_rfl) (by kernel_rfl) (by kernel_rfl) (fun _ _ _ h => h) (Or.inl ⟨by rfl, ?hy4⟩) (fun _ => hS) ?rest4
        case hy4 => ((intro w hSw); clear hSw; go_simp; (try with_reducible rfl))
        try go_frame
        refine Until.take0 (i := 5) (v := ?v5) rfl (by kernel_rfl) (by kernel_rfl) (by kernel_rfl) (by kernel_rfl) (fun _ _ _ h => h) (Or.inl ⟨by rfl, ?hy5⟩) (fun _ => hS) ?rest5
        case hy5 => ((intro w hSw); clear hSw; go_simp; (try with_reducible rfl))
        try go_frame
        refine Until.take (i := 6) (v := ?v6) rfl (by kernel_rfl) (by kernel_rfl) (by kernel_rfl) (by kernel_rfl) (fun _ _ _ h => h) (Or.inl ⟨by rfl, ?hy6⟩) hS ?rest6
        case hy6 => ((intro w hSw; (try dsimp only at hSw)); skip; go_simp; (try with_reducible rfl))
        try go_frame
        refine Until.one (i := 2) (by kernel_rfl) rfl (fun K hK => ?_)
        have HK := Lib.hid hK
        clear hK
        go_simp
        refine HK.out.out _ _ (fun _ => hS) (fun _ => ?_)
        clear HK K
        try go_frame
        refine Until.one (i := 3) (by kernel_rfl) rfl (fun K hK => ?_)
        have HK := Lib.hid hK
        clear hK
        go_simp
        refine (HN.out _ HDI.out.rd).mono ?_
        rintro _ wc ⟨rfl, hrd, hon⟩
        have HAN : Hid (Alo g V0 wc) := Lib.hid (Alo.only hon)
        have HRDc := Lib.hid hrd
        clear hrd hon
        have hS1 := KO hS HAN.out HPG.out
        refine HK.out.out _ _ (fun _ => hS1) (fun _ => ?_)
        clear hS
        have hS := hS1
        clear HK K
        try go_frame
        refine Until.one (i := 7) (by kernel_rfl) rfl (fun K hK => ?_)
        have HK := Lib.hid hK
        clear hK
        go_simp
        refine (HM.out _ (HDI.out.rf1 HP.out HAN.out)).mono ?_
        rintro _ wd ⟨vz, rfl, hzb, hrf, han2⟩
        have hcv := conv_str hzb
        rw [HNZ.out] at hcv
        have HI2 := Lib.hid (HDI.out.step HP.out HRDc.out HAN.out hrf han2)
        have HRO2 : Hid (RowsO (m + 1) wd A8 r c8) := Lib.hid (((HROP.out.up (Up.ok HD.out)).up (Up.alo HAN.out HGB.out)).up (Up.alo han2 (Nat.lt_succ_self m)))
        clear hzb hrf han2 HRDc HAN HDI HD HROP HIP HN HM HFY HYL
        refine HK.out.out _ _ (fun h => absurd (h.symm.trans (by kernel_rfl : _ = true)) Bool.false_ne_true) (fun _ => ?_)
        clear HK K
        try go_frame
        refine Until.one (i := 8) (by kernel_rfl) rfl (fun K hK => ?_)
        have HK := Lib.hid hK
        clear hK
        go_simp
        refine HK.out.out _ _ (fun h => absurd (h.symm.trans (by kernel_rfl : _ = true)) Bool.false_ne_true) (fun _ => ?_)
        clear HK K
        try go_frame
        refine Until.one (i := 9) (by kernel_rfl) rfl (fun K hK => ?_)
        have HK := Lib.hid hK
        clear hK
        go_simp
        refine HK.out.out _ _ (fun h => absurd (h.symm.trans (by kernel_rfl : _ = true)) Bool.false_ne_true) (fun _ => ?_)
        clear HK K
        try go_frame
        refine Until.done (by kernel_rfl) ?_ _
        go_wp2_with fail
        obtain ⟨A9, c9, L0⟩ := HI2.out.rf.left
        have q34 : ∀ d os, Calls Try.prog 34 #[.pointer (some ⟨g, 0, none⟩)] (Go.Sort.grow (redrawn wd d) os) fun e w'' => e = .returned (.int .i64 ((ys2).length : Int)) ∧ ∃ q : Regrown, w'' = Go.Sort.grow (redrawn wd q.d) q.os := fun d os => Calls.regrown_of ((left_r W0 g _ (ys2) (f2) (HI2.out.rd.ok (below_regrown wd d os)) HFY2.out).mono fun e w' ⟨a, b⟩ => ⟨a, b ▸ Ok.refl _⟩)
        have q35 : ∀ d os, Calls Try.prog 35 #[.pointer (some ⟨g, 0, none⟩)] (Go.Sort.grow (redrawn wd d) os) fun e w'' => e = .returned (.int .i64 (endOf (ys2) (f2))) ∧ ∃ q : Regrown, w'' = Go.Sort.grow (redrawn wd q.d) q.os := fun d os => Calls.regrown_of ((end_r W0 g _ (ys2) (f2) (HI2.out.rd.ok (below_regrown wd d os))).mono fun e w' ⟨a, b⟩ => ⟨a, b ▸ Ok.refl _⟩)
        have q36 : ∀ d os, Calls Try.prog 36 #[.pointer (some ⟨m, 0, none⟩)] (Go.Sort.grow (redrawn wd d) os) fun e w'' => e = .returned (.int .i64 (endOf (ys2) (f2))) ∧ ∃ q : Regrown, w'' = Go.Sort.grow (redrawn wd q.d) q.os := fun d os => Calls.regrown_of ((rend_s q m _ (ys2) (f2) (HI2.out.rf.ok (below_regrown wd d os))).mono fun e w' ⟨a, b⟩ => ⟨a, b ▸ Ok.refl _⟩)
        have kL0 := cell_regrown L0
        obtain ⟨E, hE⟩ : ∃ E, endOf (ys2) (f2) = E := ⟨_, rfl⟩
        obtain ⟨L, hL⟩ : ∃ L, (ys2).length = L := ⟨_, rfl⟩
        rw [hE] at q35 q36
        rw [hL] at q34 kL0
        clear hE hL L0
        have e1 : ((L : Int) != (L : Int)) = false := by simp
        have e2 : (E != E) = false := by simp
        refine wp_region_quiet_below (by kernel_rfl) (by kernel_rfl) ?_
        refine HeldF.out ?_
        repeat (
          refine hqF_step (fun K hK => ?_)
          go_simp
          first
            | (refine hK _ ?_; clear hK K)
            | (apply Exists.intro
               refine ⟨fun _ => ?_, hK _ ?_⟩
               (with_reducible first | exact q34 _ _ | exact q35 _ _ | exact q36 _ _)
               clear hK K))
        refine HeldF.mk (wpQuiet_nil ?_)
        intro _ hw'
        obtain ⟨⟨dq, osq⟩, hw''⟩ := hw'
        subst hw''
        have HI3 := Lib.hid (HI2.out.to (below_regrown wd dq osq))
        have HR3 := Lib.hid (HRO2.out.up (Up.ok (below_regrown wd dq osq)))
        clear q34 q35 q36 kL0 HI2 HRO2
        generalize Go.Sort.grow (redrawn wd dq) osq = wz at *
        go_wp2_with fail
        exact ⟨⟨k + 1, r, A8, c8, ys2, f2, by omega, by omega, by go_num, rfl, HI3.out, HFY2.out, HYL2.out, HR3.out, HI3.out.rf.2.1⟩, by simp [intOf]; omega⟩
      have d5 : (t == 0) = false := beq_eq_false_iff_ne.2 h0
      have d6 : (t == 1) = false := beq_eq_false_iff_ne.2 h1
      have d7 : (t == 2) = false := beq_eq_false_iff_ne.2 h2
      clear h0 h1 h2
      obtain ⟨zs, ys2, f2, hZ⟩ : ∃ zs ys2 f2, rowZ z ys f = (zs, ys2, f2) := ⟨_, _, _, rfl⟩
      have HN : Hid (∀ w, Rd W0 g w ys f → Calls Try.prog 33 #[.pointer (some ⟨g, 0, none⟩), .int .i64 z] w (RowQ W0 g w zs ys2 f2)) := Lib.hid fun w h => by have := RowP_z W0 g w ys f z h; rw [hZ] at this; exact this
      have HM : Hid (∀ w, RfS q m w ys f → Calls Try.prog 32 #[.pointer (some ⟨m, 0, none⟩), .int .i64 z] w (RowS q m w zs ys2 f2)) := Lib.hid fun w h => by have := rrow_s q m w ys f z h; rw [hZ] at this; exact this
      have HFY2 : Hid (f2 = true → ys2 = []) := Lib.hid (by have := rowZ_ok z ys f HFY.out; rw [hZ] at this; exact this)
      have HYL2 : Hid (ys2.length ≤ 20000) := Lib.hid (by have h1 := (rowZ_len z ys f).1; rw [hZ] at h1; have h2 := HYL.out; exact Nat.le_trans h1 h2)
      have HZL : Hid (zs.length ≤ 20000) := Lib.hid (by have h1 := (rowZ_len z ys f).2; rw [hZ] at h1; have h2 := HYL.out; exact Nat.le_trans h1 h2)
      clear hZ
      obtain ⟨Lz, hLz⟩ : ∃ Lz, zs.length = Lz := ⟨_, rfl⟩
      have HLZ := Lib.hid hLz
      clear hLz
      go_wp2_with fail
      (with_reducible refine (HN.out _ HIP.out.rd).mono ?_)
      rintro _ wc ⟨Ax, cx, rfl, hox, hrd, han⟩
      rw [HLZ.out] at hox ⊢
      have HOX := Lib.hid hox
      have HRDc := Lib.hid hrd
      have HANc := Lib.hid han
      have C1c := KO c1 han HPG.out
      have HPS : Hid (m < wp.heap.size) := Lib.hid HIP.out.rf.2.1
      clear hox hrd han
      go_wp2_with fail
      (with_reducible refine (HM.out _ (HIP.out.rf1 HP.out HANc.out)).mono ?_)
      rintro _ wd ⟨vz, rfl, hzb, hrf, han2⟩
      have HZB := Lib.hid hzb
      obtain ⟨Az, cz, rfl, -⟩ := hzb.form
      have HI2' := Lib.hid (HIP.out.step HP.out HRDc.out HANc.out hrf han2)
      have HOXd : Hid (OwnN wd (m + 1) (.slice Ax Lz cx) zs) := Lib.hid (own_stays (HOX.out.mono (by have := HPS.out; omega)) fun b hb => han2.block b (by have := (HOX.out.lt b hb).1; have := HPS.out; omega) (HOX.out.lt b hb).2)
      have HUP := Lib.hid ((Up.alo HANc.out HGB.out).trans (Up.alo han2 (Nat.lt_succ_self m)))
      clear hzb hrf han2 HRDc C1c
      go_wp2_with fail
      (with_reducible refine (sameBytes_v _ _ zs wd (HOXd.out.bytes (by have := HZL.out; omega)) HZB.out).mono ?_)
      rintro _ we ⟨rfl, oke⟩
      have HOKE := Lib.hid oke
      clear oke
      obtain ⟨dv, cont, hd1, hd2, hd3⟩ := HROP.out
      have HKA : Hid (Ok wd (we.alloc (.cells #[.slice Ax Lz cx] 26))) := Lib.hid (HOKE.out.alloc _)
      have HUA : Hid (Up (m + 1) wp (we.alloc (.cells #[.slice Ax Lz cx] 26))) := Lib.hid (HUP.out.trans (Up.ok HKA.out))
      have HD1 : Hid ((we.alloc (.cells #[.slice Ax Lz cx] 26)).ownsRow (m + 1) 26 1 (.slice A8 r c8) r ((List.range r).map dv)) := Lib.hid (own_stays hd1 fun b hb => HUA.out.2 b (World.ownsRow.lt hd1 b hb).1 (World.ownsRow.lt hd1 b hb).2)
      have HD2 : Hid (∀ j, j < r → OwnN (we.alloc (.cells #[.slice Ax Lz cx] 26)) (m + 1) (dv j) (cont j) ∧ (cont j).length ≤ 1000000) := Lib.hid fun j hj => ⟨own_stays (hd2 j hj).1 fun b hb => HUA.out.2 b ((hd2 j hj).1.lt b hb).1 ((hd2 j hj).1.lt b hb).2, (hd2 j hj).2⟩
      have HD3 := Lib.hid hd3
      have HDO : Hid (∀ j b, j < r → (dv j).ownBlock = some b → b < wp.heap.size) := Lib.hid fun j b hj hb => ((hd2 j hj).1.lt b hb).2
      have HNX : Hid (∀ b, (Value.slice Ax Lz cx).ownBlock = some b → wp.heap.size ≤ b) := Lib.hid fun b hb => (HOX.out.lt b hb).1
      have HOXe : Hid (OwnN (we.alloc (.cells #[.slice Ax Lz cx] 26)) (m + 1) (.slice Ax Lz cx) zs) := Lib.hid (HOXd.out.ok HKA.out)
      have HCB : Hid ((we.alloc (.cells #[.slice Ax Lz cx] 26)).heap[we.heap.size]? = some (.cells #[.slice Ax Lz cx] 26 (0, 0))) := Lib.hid (heap_alloc_new _ _)
      have HSZ : Hid (m + 1 ≤ (we.alloc (.cells #[.slice Ax Lz cx] 26)).heap.size) := Lib.hid (by have h1 := HI2'.out.rf.2.1; have h2 := HKA.out.size; omega)
      have HIE := Lib.hid (HI2'.out.to HKA.out)
      clear hd1 hd2 hd3 HOXd HI2' HOX HROP
      go_wp2_with (at_builtin; go_must (refine wpList_app1 rfl (.tmp 55) (.tmp 57) rfl (m + 1) A8 r c8 _ rfl HD1.out we.heap.size (.slice Ax Lz cx) rfl rfl HCB.out (by omega) HSZ.out ?_; intro A10 c10 w6 h6 hbel6 hgr6; have HRO2 : Hid (RowsO (m + 1) w6 A10 (r + 1) c10) := Lib.hid (RowsO.snoc HD1.out HD2.out HD3.out HOXe.out (by have := HZL.out; omega) HDO.out HNX.out h6 hgr6); have HI2 : Hid (Inv W W0 g q m w6 ys2 f2) := Lib.hid (HIE.out.bel HP.out hbel6); clear h6 hbel6 hgr6))
      obtain ⟨A9, c9, L0⟩ := HI2.out.rf.left
      have q34 : ∀ d os, Calls Try.prog 34 #[.pointer (some ⟨g, 0, none⟩)] (Go.Sort.grow (redrawn w6 d) os) fun e w'' => e = .returned (.int .i64 ((ys2).length : Int)) ∧ ∃ q : Regrown, w'' = Go.Sort.grow (redrawn w6 q.d) q.os := fun d os => Calls.regrown_of ((left_r W0 g _ (ys2) (f2) (HI2.out.rd.ok (below_regrown w6 d os)) HFY2.out).mono fun e w' ⟨a, b⟩ => ⟨a, b ▸ Ok.refl _⟩)
      have q35 : ∀ d os, Calls Try.prog 35 #[.pointer (some ⟨g, 0, none⟩)] (Go.Sort.grow (redrawn w6 d) os) fun e w'' => e = .returned (.int .i64 (endOf (ys2) (f2))) ∧ ∃ q : Regrown, w'' = Go.Sort.grow (redrawn w6 q.d) q.os := fun d os => Calls.regrown_of ((end_r W0 g _ (ys2) (f2) (HI2.out.rd.ok (below_regrown w6 d os))).mono fun e w' ⟨a, b⟩ => ⟨a, b ▸ Ok.refl _⟩)
      have q36 : ∀ d os, Calls Try.prog 36 #[.pointer (some ⟨m, 0, none⟩)] (Go.Sort.grow (redrawn w6 d) os) fun e w'' => e = .returned (.int .i64 (endOf (ys2) (f2))) ∧ ∃ q : Regrown, w'' = Go.Sort.grow (redrawn w6 q.d) q.os := fun d os => Calls.regrown_of ((rend_s q m _ (ys2) (f2) (HI2.out.rf.ok (below_regrown w6 d os))).mono fun e w' ⟨a, b⟩ => ⟨a, b ▸ Ok.refl _⟩)
      have kL0 := cell_regrown L0
      obtain ⟨E, hE⟩ : ∃ E, endOf (ys2) (f2) = E := ⟨_, rfl⟩
      obtain ⟨L, hL⟩ : ∃ L, (ys2).length = L := ⟨_, rfl⟩
      rw [hE] at q35 q36
      rw [hL] at q34 kL0
      clear hE hL L0
      have e1 : ((L : Int) != (L : Int)) = false := by simp
      have e2 : (E != E) = false := by simp
      refine wp_region_quiet_below (by kernel_rfl) (by kernel_rfl) ?_
      refine HeldF.out ?_
      repeat (
        refine hqF_step (fun K hK => ?_)
        go_simp
        first
          | (refine hK _ ?_; clear hK K)
          | (apply Exists.intro
             refine ⟨fun _ => ?_, hK _ ?_⟩
             (with_reducible first | exact q34 _ _ | exact q35 _ _ | exact q36 _ _)
             clear hK K))
      refine HeldF.mk (wpQuiet_nil ?_)
      intro _ hw'
      obtain ⟨⟨dq, osq⟩, hw''⟩ := hw'
      subst hw''
      have HI3 := Lib.hid (HI2.out.to (below_regrown w6 dq osq))
      have HR3 := Lib.hid (HRO2.out.up (Up.ok (below_regrown w6 dq osq)))
      clear q34 q35 q36 kL0 HI2 HRO2
      generalize Go.Sort.grow (redrawn w6 dq) osq = wz at *
      go_wp2_with fail
      exact ⟨⟨k + 1, r + 1, A10, c10, ys2, f2, by omega, by omega, by go_num, rfl, HI3.out, HFY2.out, HYL2.out, HR3.out, HI3.out.rf.2.1⟩, by simp [intOf]; omega⟩
    · have d2' : decide ((k : Int) < (nc : Int)) = false := decide_eq_false (by omega)
      have HD := Lib.hid HI.out.drew
      obtain ⟨A9, c9, L0⟩ := HD.out.rf.left
      have H34 := Lib.hid (fun w (h : Rd W0 g w ys f) => left_r W0 g w ys f h HFY.out)
      have H35 := Lib.hid (fun w (h : Rd W0 g w ys f) => end_r W0 g w ys f h)
      have H36 := Lib.hid (fun w (h : RfS q m w ys f) => rend_s q m w ys f h)
      obtain ⟨E, hE⟩ : ∃ E, endOf ys f = E := ⟨_, rfl⟩
      obtain ⟨L, hL⟩ : ∃ L, ys.length = L := ⟨_, rfl⟩
      rw [hE] at H35 H36
      rw [hL] at H34 L0
      clear hE hL
      have e1 : ((L : Int) == (L : Int)) = true := by simp
      have e2 : (E == E) = true := by simp
      have HAP : Hid (Calls Try.prog 22 #[.slice A8 r c8] wr.drew (fun e w' => e = .returned (.bool true) ∧ Below (m + 1) wr.drew w')) := Lib.hid (by
        obtain ⟨dv, cont, hd1, hd2, hd3⟩ := (HRO.out.up (Up.ok ((Ok.refl wr).drew)))
        refine (apartBytes_w A8 r c8 dv (fun j => (cont j).length) (fun j => (cont j).map bv) wr.drew (fun j hj => ?_) (fl_k (fun j hj => (hd2 j hj).1.mono (Nat.zero_le _)) hd3) (by omega) (fun j hj => (hd2 j hj).2)).mono ?_
        · rcases own_form hd1 with ⟨e, h0⟩ | ⟨gq, cap, e⟩
          · omega
          · simp only [Value.slice.injEq] at e
            obtain ⟨rfl, -, rfl⟩ := e
            refine ⟨gq, 0, rfl, ?_⟩
            rw [Nat.zero_add, World.ownsRow.cellAt hd1 j (by omega)]
            simp [hj]
        · rintro e w' ⟨rfl, hkv⟩
          refine ⟨rfl, hkv.low (fun j b hj e => ((hd2 j hj).1.lt b e).1) ?_⟩
          have := HD.out.rf.2.1
          omega)
      go_wp2_with fail
      go_region_held3 (fun w' => w'.cell? ⟨m, 0, none⟩ = some (.slice A9 L c9))
        (first | assumption | exact KB L0 (by assumption) | exact Ok.cell (by assumption) (KB L0 (by assumption)))
        ((first
          | (go_at_call 34; (with_reducible refine (H34.out _ ?_).mono ?_); (exact HD.out.rd); rintro _ w34 ⟨rfl, rfl⟩)
          | (go_at_call 35; (with_reducible refine (H35.out _ ?_).mono ?_); (exact HD.out.rd); rintro _ w35 ⟨rfl, rfl⟩)
          | (go_at_call 36; (with_reducible refine (H36.out _ ?_).mono ?_); (exact HD.out.rf); rintro _ w36 ⟨rfl, rfl⟩)
          | (go_at_call 22; (with_reducible refine HAP.out.mono ?_); rintro _ wk ⟨rfl, hbk⟩)
          | (go_at_call 11; (with_reducible refine (HAW.out _).mono ?_); rintro _ wa ⟨rfl, oa⟩)))
      all_goals go_wp2_with fail
      all_goals go_ret
      all_goals exact ⟨rfl, Ok.trans (Below.trans HD.out.ok (Below.mono (by assumption) (Nat.le_trans HP.out.wg (Nat.le_trans (Nat.le_of_lt HP.out.gm) (Nat.le_succ m))))) (by assumption)⟩

end Go.Proofs.Ytolfdncmlfnbdaa
