/- The document's ferry takes a piece: a beginning. -/
import Derived.Test.YtolfdncmlfnbdaaM7
namespace Go.Proofs.Ytolfdncmlfnbdaa
open Go.RowKit
set_option maxRecDepth 100000 in
set_option maxHeartbeats 8000000 in
theorem rtakeBegin (x : Lt) (r : LR) (p : Nat) (tm0 i0 t0 sz0 : Int) (u0 : Bool) (A : Option Addr) (n c : Nat) (xs : List B8) (W : World) (L a : Nat) (h : RAt p tm0 i0 t0 sz0 u0 A n c xs W) (hk0 : (x.kind != 5) = false) (hsz : x.size = (L : Int)) (hat : x.at_ = (a : Int)) (h1 : L ≤ 131072) (h2 : a ≤ L) (h3 : r.bn ≤ L - a) (cf : Cfg) (ys : List B8) (hm : r.bn = ys.length) (HX0 : ∀ w', Fr p A n c W w' → CfgIn w' r.s.v cf ∧ BytesIn w' (.slice r.bA r.bn r.bc) ys) (hfi : Fine cf) (hsp : ∀ b o s, r.bA = some ⟨b, o, s⟩ → 0 < r.bn → (Value.slice A n c).ownBlock ≠ some b) (hne : crossB tm0 i0 t0 sz0 u0 x.term x.bi x.bt x.size = false) (ha0 : a = 0) (AZ : Option Addr) (nZ cZ : Nat) (xZ : List B8) (he : AZ = none ∧ nZ = 0 ∧ cZ = 0 ∧ xZ = []) :
    Calls Try.prog 78 #[.pointer (some ⟨p, 0, none⟩), .agg #[.int .u8 x.kind, .int .i64 x.group, .int .i64 x.from_, .int .i64 x.to_, .int .i64 x.term, .int .i64 x.index, .int .i64 x.logterm, .int .i64 x.commit, .bool x.ok, .slice r.eA x.es.length r.ec, .int .i64 x.bi, .int .i64 x.bt, .slice r.s.A0 r.s.n0 r.s.c0, .slice r.s.A1 r.s.n1 r.s.c1, .slice r.s.A2 r.s.n2 r.s.c2, .slice r.s.A3 r.s.n3 r.s.c3, .int .i64 x.size, .int .i64 x.at_, .int .i64 x.tag, .slice r.bA r.bn r.bc]] W (RYes p x.term x.bi x.bt L cf A n c W (laid xZ ys a)) := by
  rw [hsz] at hne
  have HNE := Lib.hid hne
  have HA0 := Lib.hid ha0
  have HEE := Lib.hid he
  clear hne he
  have HK0 := Lib.hid hk0
  have HSZX := Lib.hid hsz
  have HATX := Lib.hid hat
  clear hk0 hsz hat
  have HXX := Lib.hid HX0
  have HM := Lib.hid hm
  have HFI := Lib.hid hfi
  have HSP := Lib.hid hsp
  clear HX0 hm hfi hsp
  have HO : Hid (Ok W ((W.alloc (.cells #[.int .u8 x.kind, .int .i64 x.group, .int .i64 x.from_, .int .i64 x.to_, .int .i64 x.term, .int .i64 x.index, .int .i64 x.logterm, .int .i64 x.commit, .bool x.ok, .slice r.eA x.es.length r.ec, .int .i64 x.bi, .int .i64 x.bt, .slice r.s.A0 r.s.n0 r.s.c0, .slice r.s.A1 r.s.n1 r.s.c1, .slice r.s.A2 r.s.n2 r.s.c2, .slice r.s.A3 r.s.n3 r.s.c3, .int .i64 x.size, .int .i64 x.at_, .int .i64 x.tag, .slice r.bA r.bn r.bc] 95)).alloc (.cells #[.int .i64 0, .int .i64 0, .slice none 0 0, .slice none 0 0, .slice none 0 0, .slice none 0 0, .slice none 0 0] 97))) := Lib.hid (((Ok.refl W).alloc _).alloc _)
  have HF : Hid (RAt p tm0 i0 t0 sz0 u0 A n c xs ((W.alloc (.cells #[.int .u8 x.kind, .int .i64 x.group, .int .i64 x.from_, .int .i64 x.to_, .int .i64 x.term, .int .i64 x.index, .int .i64 x.logterm, .int .i64 x.commit, .bool x.ok, .slice r.eA x.es.length r.ec, .int .i64 x.bi, .int .i64 x.bt, .slice r.s.A0 r.s.n0 r.s.c0, .slice r.s.A1 r.s.n1 r.s.c1, .slice r.s.A2 r.s.n2 r.s.c2, .slice r.s.A3 r.s.n3 r.s.c3, .int .i64 x.size, .int .i64 x.at_, .int .i64 x.tag, .slice r.bA r.bn r.bc] 95)).alloc (.cells #[.int .i64 0, .int .i64 0, .slice none 0 0, .slice none 0 0, .slice none 0 0, .slice none 0 0, .slice none 0 0] 97))) := Lib.hid (h.ok HO.out)
  have HX : Hid (((W.alloc (.cells #[.int .u8 x.kind, .int .i64 x.group, .int .i64 x.from_, .int .i64 x.to_, .int .i64 x.term, .int .i64 x.index, .int .i64 x.logterm, .int .i64 x.commit, .bool x.ok, .slice r.eA x.es.length r.ec, .int .i64 x.bi, .int .i64 x.bt, .slice r.s.A0 r.s.n0 r.s.c0, .slice r.s.A1 r.s.n1 r.s.c1, .slice r.s.A2 r.s.n2 r.s.c2, .slice r.s.A3 r.s.n3 r.s.c3, .int .i64 x.size, .int .i64 x.at_, .int .i64 x.tag, .slice r.bA r.bn r.bc] 95)).alloc (.cells #[.int .i64 0, .int .i64 0, .slice none 0 0, .slice none 0 0, .slice none 0 0, .slice none 0 0, .slice none 0 0] 97)).heap[W.heap.size]? = some (.cells #[.int .u8 x.kind, .int .i64 x.group, .int .i64 x.from_, .int .i64 x.to_, .int .i64 x.term, .int .i64 x.index, .int .i64 x.logterm, .int .i64 x.commit, .bool x.ok, .slice r.eA x.es.length r.ec, .int .i64 x.bi, .int .i64 x.bt, .slice r.s.A0 r.s.n0 r.s.c0, .slice r.s.A1 r.s.n1 r.s.c1, .slice r.s.A2 r.s.n2 r.s.c2, .slice r.s.A3 r.s.n3 r.s.c3, .int .i64 x.size, .int .i64 x.at_, .int .i64 x.tag, .slice r.bA r.bn r.bc] 95 (0, 0))) := Lib.hid (blk_old (blk_new rfl))
  have HI : Hid (((W.alloc (.cells #[.int .u8 x.kind, .int .i64 x.group, .int .i64 x.from_, .int .i64 x.to_, .int .i64 x.term, .int .i64 x.index, .int .i64 x.logterm, .int .i64 x.commit, .bool x.ok, .slice r.eA x.es.length r.ec, .int .i64 x.bi, .int .i64 x.bt, .slice r.s.A0 r.s.n0 r.s.c0, .slice r.s.A1 r.s.n1 r.s.c1, .slice r.s.A2 r.s.n2 r.s.c2, .slice r.s.A3 r.s.n3 r.s.c3, .int .i64 x.size, .int .i64 x.at_, .int .i64 x.tag, .slice r.bA r.bn r.bc] 95)).alloc (.cells #[.int .i64 0, .int .i64 0, .slice none 0 0, .slice none 0 0, .slice none 0 0, .slice none 0 0, .slice none 0 0] 97)).heap[W.heap.size + 1]? = some (.cells #[.int .i64 0, .int .i64 0, .slice none 0 0, .slice none 0 0, .slice none 0 0, .slice none 0 0, .slice none 0 0] 97 (0, 0))) := Lib.hid (blk_new (by rw [World.size_alloc]))
  have HOB := Lib.hid h.ownGe
  have HPL := Lib.hid h.lt
  clear h
  go_enter Try.func78, Try.ntmps78
  go_upto_region 1 with fail
  generalize ((W.alloc (.cells #[.int .u8 x.kind, .int .i64 x.group, .int .i64 x.from_, .int .i64 x.to_, .int .i64 x.term, .int .i64 x.index, .int .i64 x.logterm, .int .i64 x.commit, .bool x.ok, .slice r.eA x.es.length r.ec, .int .i64 x.bi, .int .i64 x.bt, .slice r.s.A0 r.s.n0 r.s.c0, .slice r.s.A1 r.s.n1 r.s.c1, .slice r.s.A2 r.s.n2 r.s.c2, .slice r.s.A3 r.s.n3 r.s.c3, .int .i64 x.size, .int .i64 x.at_, .int .i64 x.tag, .slice r.bA r.bn r.bc] 95)).alloc (.cells #[.int .i64 0, .int .i64 0, .slice none 0 0, .slice none 0 0, .slice none 0 0, .slice none 0 0, .slice none 0 0] 97)) = w0 at *
  obtain ⟨g, hg⟩ : ∃ g, W.heap.size = g := ⟨_, rfl⟩
  have HG := Lib.hid hg
  rw [hg] at HX HI HOB HPL ⊢
  clear hg
  have a0 : w0.cell? ⟨g, 0, none⟩ = some (.int .u8 x.kind) := (cell_of_heap HX.out 0).trans rfl
  have a16 : w0.cell? ⟨g, 16, none⟩ = some (.int .i64 (L : Int)) := HSZX.out ▸ (cell_of_heap HX.out 16).trans rfl
  have a17 : w0.cell? ⟨g, 17, none⟩ = some (.int .i64 (a : Int)) := HATX.out ▸ (cell_of_heap HX.out 17).trans rfl
  have a19 : w0.cell? ⟨g, 19, none⟩ = some (.slice r.bA r.bn r.bc) := (cell_of_heap HX.out 19).trans rfl
  have k0 := HK0.out
  have d4 : decide ((L : Int) < (0 : Int)) = false := decide_eq_false (by omega)
  have d1 : decide ((131072 : Int) < (L : Int)) = false := decide_eq_false (by omega)
  have d5 : decide ((a : Int) < (0 : Int)) = false := decide_eq_false (by omega)
  have d2 : decide (L < a) = false := decide_eq_false (by omega)
  have d3 : decide ((L : Int) - (a : Int) < (r.bn : Int)) = false := decide_eq_false (by omega)
  have p0 := HF.out.c0
  have p1 := HF.out.c1
  have p2 := HF.out.c2
  have p3 := HF.out.c3
  have p4 := HF.out.c4
  have a4 : w0.cell? ⟨g, 4, none⟩ = some (.int .i64 x.term) := (cell_of_heap HX.out 4).trans rfl
  have a10 : w0.cell? ⟨g, 10, none⟩ = some (.int .i64 x.bi) := (cell_of_heap HX.out 10).trans rfl
  have a11 : w0.cell? ⟨g, 11, none⟩ = some (.int .i64 x.bt) := (cell_of_heap HX.out 11).trans rfl
  go_upto_region 3 with fail
  have d3b : decide (L < r.bn) = false := decide_eq_false (by omega)
  try simp only [d3b]
  clear k0 d4 d1 d5 d2 d3 a0 a19
  go_cut [88] from 46 to 88 (fun v wx => v = .bool true ∧ wx = w0.drew)
  case first =>
    cases hu : u0 with
    | false =>
      rw [hu] at p0
      go_region
      all_goals (go_wp2_with fail; go_meet; exact ⟨rfl, rfl⟩)
    | true =>
    rw [hu] at p0
    cases e1 : (tm0 != x.term) with
    | true =>
      go_region
      all_goals (go_wp2_with fail; go_meet; exact ⟨rfl, rfl⟩)
    | false =>
    cases e2 : (i0 != x.bi) with
    | true =>
      go_region
      all_goals (go_wp2_with fail; go_meet; exact ⟨rfl, rfl⟩)
    | false =>
    cases e3 : (t0 != x.bt) with
    | true =>
      go_region
      all_goals (go_wp2_with fail; go_meet; exact ⟨rfl, rfl⟩)
    | false =>
    cases e4 : (sz0 != (L : Int)) with
    | true =>
      go_region
      all_goals (go_wp2_with fail; go_meet; exact ⟨rfl, rfl⟩)
    | false =>
    exfalso
    have h := HNE.out
    have q1 : tm0 = x.term := by simpa using e1
    have q2 : i0 = x.bi := by simpa using e2
    have q3 : t0 = x.bt := by simpa using e3
    have q4 : sz0 = (L : Int) := by simpa using e4
    rw [hu, q1, q2, q3, q4] at h
    simp [crossB] at h
  case rest =>
  obtain ⟨rfl, rfl⟩ := hcut
  clear p0 p1 p2 p3 p4
  have HOD : Hid (Ok w0 w0.drew) := Lib.hid (Ok.refl w0).drew
  have HI3 := Lib.hid (blk_ok HOD.out HI.out)
  have HX3 := Lib.hid (blk_ok HOD.out HX.out)
  have HR3 := Lib.hid (HF.out.ok HOD.out)
  have HF3 : Hid (Fr p A n c W w0.drew) := Lib.hid ((Fr.refl p A n c W).ok (HO.out.trans HOD.out))
  have HS3 : Hid (g + 2 ≤ w0.drew.heap.size) := Lib.hid (by have h1 := lt_raw HI3.out; omega)
  replace a4 := HOD.out.cell a4
  replace a10 := HOD.out.cell a10
  replace a11 := HOD.out.cell a11
  replace a16 := HOD.out.cell a16
  replace a17 := HOD.out.cell a17
  generalize w0.drew = w3 at *
  clear HF HX HI HO HOD
  have dn : ((a : Int) != (0 : Int)) = false := by simp; omega
  have p0 := HR3.out.c0
  have p1 := HR3.out.c1
  have p2 := HR3.out.c2
  have p3 := HR3.out.c3
  have p4 := HR3.out.c4
  have p5 := HR3.out.c5
  have f0 := HR3.out.f 0
  have f1 := HR3.out.f 1
  have f2 := HR3.out.f 2
  have f3 := HR3.out.f 3
  have f4 := HR3.out.f 4
  have f5 := HR3.out.f 5
  go_upto_region 7 with fail
  clear p0 p1 p2 p3 p4 p5 f0 f1 f2 f3 f4 f5 a4 a10 a11 a16 a17 dn
  have hne1 : g ≠ p := by have := HPL.out; omega
  have hne2 : g + 1 ≠ p := by have := HPL.out; omega
  have HR4 : Hid (RAt p x.term x.bi x.bt (L : Int) true AZ nZ cZ xZ ((((((w3.setCell ⟨p, 0, none⟩ (.bool true)).setCell ⟨p, 1, none⟩ (.int .i64 x.term)).setCell ⟨p, 2, none⟩ (.int .i64 x.bi)).setCell ⟨p, 3, none⟩ (.int .i64 x.bt)).setCell ⟨p, 4, none⟩ (.int .i64 (L : Int))).setCell ⟨p, 5, none⟩ (.slice none 0 0))) := Lib.hid (by rw [HEE.out.1, HEE.out.2.1, HEE.out.2.2.1, HEE.out.2.2.2]; exact HR3.out.put)
  have HF4 : Hid (Fr p A n c W ((((((w3.setCell ⟨p, 0, none⟩ (.bool true)).setCell ⟨p, 1, none⟩ (.int .i64 x.term)).setCell ⟨p, 2, none⟩ (.int .i64 x.bi)).setCell ⟨p, 3, none⟩ (.int .i64 x.bt)).setCell ⟨p, 4, none⟩ (.int .i64 (L : Int))).setCell ⟨p, 5, none⟩ (.slice none 0 0))) := Lib.hid ((((((HF3.out.set 0 _).set 1 _).set 2 _).set 3 _).set 4 _).set 5 _)
  have HX4 : Hid (((((((w3.setCell ⟨p, 0, none⟩ (.bool true)).setCell ⟨p, 1, none⟩ (.int .i64 x.term)).setCell ⟨p, 2, none⟩ (.int .i64 x.bi)).setCell ⟨p, 3, none⟩ (.int .i64 x.bt)).setCell ⟨p, 4, none⟩ (.int .i64 (L : Int))).setCell ⟨p, 5, none⟩ (.slice none 0 0)).heap[g]? = some (.cells #[.int .u8 x.kind, .int .i64 x.group, .int .i64 x.from_, .int .i64 x.to_, .int .i64 x.term, .int .i64 x.index, .int .i64 x.logterm, .int .i64 x.commit, .bool x.ok, .slice r.eA x.es.length r.ec, .int .i64 x.bi, .int .i64 x.bt, .slice r.s.A0 r.s.n0 r.s.c0, .slice r.s.A1 r.s.n1 r.s.c1, .slice r.s.A2 r.s.n2 r.s.c2, .slice r.s.A3 r.s.n3 r.s.c3, .int .i64 x.size, .int .i64 x.at_, .int .i64 x.tag, .slice r.bA r.bn r.bc] 95 (0, 0))) := Lib.hid (by (iterate 6 rw [heap_setCell_other _ _ _ _ hne1]); exact HX3.out)
  have HI4 : Hid (((((((w3.setCell ⟨p, 0, none⟩ (.bool true)).setCell ⟨p, 1, none⟩ (.int .i64 x.term)).setCell ⟨p, 2, none⟩ (.int .i64 x.bi)).setCell ⟨p, 3, none⟩ (.int .i64 x.bt)).setCell ⟨p, 4, none⟩ (.int .i64 (L : Int))).setCell ⟨p, 5, none⟩ (.slice none 0 0)).heap[g + 1]? = some (.cells #[.int .i64 0, .int .i64 0, .slice none 0 0, .slice none 0 0, .slice none 0 0, .slice none 0 0, .slice none 0 0] 97 (0, 0))) := Lib.hid (by (iterate 6 rw [heap_setCell_other _ _ _ _ hne2]); exact HI3.out)
  have HS4 : Hid (g + 2 ≤ ((((((w3.setCell ⟨p, 0, none⟩ (.bool true)).setCell ⟨p, 1, none⟩ (.int .i64 x.term)).setCell ⟨p, 2, none⟩ (.int .i64 x.bi)).setCell ⟨p, 3, none⟩ (.int .i64 x.bt)).setCell ⟨p, 4, none⟩ (.int .i64 (L : Int))).setCell ⟨p, 5, none⟩ (.slice none 0 0)).heap.size) := Lib.hid (by have h1 := lt_raw HI4.out; omega)
  generalize ((((((w3.setCell ⟨p, 0, none⟩ (.bool true)).setCell ⟨p, 1, none⟩ (.int .i64 x.term)).setCell ⟨p, 2, none⟩ (.int .i64 x.bi)).setCell ⟨p, 3, none⟩ (.int .i64 x.bt)).setCell ⟨p, 4, none⟩ (.int .i64 (L : Int))).setCell ⟨p, 5, none⟩ (.slice none 0 0)) = w4 at *
  clear hne1 hne2 HR3 HF3 HX3 HI3 HS3
  have HOBQ : Hid (∀ k, (Value.slice AZ nZ cZ).ownBlock = some k → p + 1 ≤ k ∧ k < g) := Lib.hid (fun k e => by rw [HEE.out.1] at e; cases e)
  have HOQ : Hid (∀ j, j < W.heap.size → (Value.slice AZ nZ cZ).ownBlock = some j → (Value.slice A n c).ownBlock = some j) := Lib.hid (fun j _ e => by rw [HEE.out.1] at e; cases e)
  have hn1 : nZ ≤ L := by have := HEE.out.2.1; omega
  clear ha0
  have HRL4 : Hid (RL p x.term x.bi x.bt L AZ nZ cZ w4 xZ AZ nZ cZ w4) := Lib.hid ⟨HR4.out, Fr.refl _ _ _ _ _, fun _ _ e => e⟩
  have HNX : Hid (nZ = xZ.length) := Lib.hid HR4.out.len
  have HKEEP : Hid (∀ zs A2 n2 c2 w, RL p x.term x.bi x.bt L AZ nZ cZ w4 zs A2 n2 c2 w → w.heap[g]? = some (.cells #[.int .u8 x.kind, .int .i64 x.group, .int .i64 x.from_, .int .i64 x.to_, .int .i64 x.term, .int .i64 x.index, .int .i64 x.logterm, .int .i64 x.commit, .bool x.ok, .slice r.eA x.es.length r.ec, .int .i64 x.bi, .int .i64 x.bt, .slice r.s.A0 r.s.n0 r.s.c0, .slice r.s.A1 r.s.n1 r.s.c1, .slice r.s.A2 r.s.n2 r.s.c2, .slice r.s.A3 r.s.n3 r.s.c3, .int .i64 x.size, .int .i64 x.at_, .int .i64 x.tag, .slice r.bA r.bn r.bc] 95 (0, 0)) ∧ w.heap[g + 1]? = some (.cells #[.int .i64 0, .int .i64 0, .slice none 0 0, .slice none 0 0, .slice none 0 0, .slice none 0 0, .slice none 0 0] 97 (0, 0)) ∧ Fr p A n c W w) := Lib.hid (fun zs A2 n2 c2 w h =>
    ⟨(h.fr.block g (by have := HS4.out; omega) (by have := HPL.out; omega) (fun e => by have := HOBQ.out _ e; omega)).trans HX4.out,
     (h.fr.block (g + 1) (by have := HS4.out; omega) (by have := HPL.out; omega) (fun e => by have := HOBQ.out _ e; omega)).trans HI4.out, Fr.trans HF4.out h.fr HOQ.out⟩)
  clear HR4 HX4 HI4
  have hML : a + ys.length ≤ L := by have := HM.out; omega
  have HML := Lib.hid hML
  go_upto_region 8 with fail
  go_loopw [7] (fun i wr => ∃ (k : Nat) (A2 : Option Addr) (n2 c2 : Nat), k ≤ ys.length ∧ i = .int .i64 (k : Int) ∧ RL p x.term x.bi x.bt L AZ nZ cZ w4 (laid xZ (ys.take k) a) A2 n2 c2 wr) (fun i _ => ys.length - (intOf i).toNat)
  case atStart => exact ⟨0, AZ, nZ, cZ, Nat.zero_le _, rfl, by rw [laid_zero]; exact HRL4.out⟩
  case round =>
    obtain ⟨k, A2, n2, c2, hkm, rfl, hrl⟩ := hrel
    have HRL := Lib.hid hrl
    clear hrl
    obtain ⟨hX, hI, hF⟩ := HKEEP.out _ _ _ _ _ HRL.out
    have HXr := Lib.hid hX
    have HFr := Lib.hid hF
    clear hI hF hX
    have HN2 := Lib.hid HRL.out.at_.len
    have p5 := HRL.out.at_.c5
    have a17 : wr.cell? ⟨g, 17, none⟩ = some (.int .i64 (a : Int)) := HATX.out ▸ (cell_of_heap HXr.out 17).trans rfl
    have a19 : wr.cell? ⟨g, 19, none⟩ = some (.slice r.bA r.bn r.bc) := (cell_of_heap HXr.out 19).trans rfl
    by_cases hgo : k < r.bn ∧ a ≤ n2
    · obtain ⟨hlt, hle⟩ := hgo
      have dk : decide (k < r.bn) = true := decide_eq_true hlt
      have da : decide (a ≤ n2) = true := decide_eq_true hle
      have HLT : Hid (k < ys.length) := Lib.hid (by rw [← HM.out]; exact hlt)
      have HST := Lib.hid (laid_step xZ ys a k HLT.out (by rw [← HN2.out]; exact hle))
      have HZL : Hid ((laid xZ (ys.take k) a).length ≤ 1000000) := Lib.hid (by have := laid_le xZ (ys.take k) a L (by rw [← HNX.out]; exact hn1) (by rw [List.length_take]; have := HML.out; omega); omega)
      have HMS : Hid (ys.length - (k + 1) < ys.length - k) := Lib.hid (by have := HLT.out; omega)
      obtain ⟨bb, off, HA, HCE⟩ : ∃ bb off, r.bA = some ⟨bb, off, none⟩ ∧ ∀ V, Fr p A n c W V → V.cell? ⟨bb, off + k, none⟩ = some (.int .u8 (ub (ys.getD k 0#8))) := by
        rcases (HXX.out wr HFr.out).2 with ⟨h0, -⟩ | ⟨b0, o0, c0, h1, -, -, -⟩
        · rw [h0] at HLT; exact absurd HLT.out (Nat.not_lt_zero _)
        · simp only [Value.slice.injEq] at h1
          refine ⟨b0, o0, h1.1, fun V hV => ?_⟩
          rcases (HXX.out V hV).2 with ⟨h0, -⟩ | ⟨b1, o1, c1, h2, -, -, h3⟩
          · rw [h0] at HLT; exact absurd HLT.out (Nat.not_lt_zero _)
          · simp only [Value.slice.injEq] at h2
            rw [h1.1] at h2
            simp only [Option.some.injEq, Addr.mk.injEq, and_true] at h2
            obtain ⟨⟨rfl, rfl⟩, -⟩ := h2
            exact h3 k HLT.out
      rw [HA] at a19
      have HCEL := Lib.hid HCE
      have HNB0 : Hid (∀ V, RL p x.term x.bi x.bt L AZ nZ cZ w4 (laid xZ (ys.take k) a) A2 n2 c2 V → (Value.slice A2 n2 c2).ownBlock ≠ some g) := Lib.hid (fun V h e => by
        have := HOBQ.out _ (h.own g (by have := HS4.out; omega) e)
        omega)
      have HBW : Hid (bb < W.heap.size ∧ W.heap.size ≤ w4.heap.size) := Lib.hid ⟨World.block_lt_of_cell? _ _ (HCE W (Fr.refl _ _ _ _ _)), HF4.out.size⟩
      have HNB1 : Hid (∀ V, RL p x.term x.bi x.bt L AZ nZ cZ w4 (laid xZ (ys.take k) a) A2 n2 c2 V → (Value.slice A2 n2 c2).ownBlock ≠ some bb) := Lib.hid (fun V h e => HSP.out bb off none HA (by omega) (HOQ.out bb HBW.out.1 (h.own bb (by have := HBW.out; omega) e)))
      generalize ys.getD k 0#8 = y at *
      have ce := HCE wr HFr.out
      have hk5 : k ≤ 140000 := by have := HML.out; have := HLT.out; omega
      clear HCE HA hkm
      go_upto_region 8 with fail
      go_cut [120] from 106 to 120 (fun v wx => v = .bool true ∧ wx = wr.drew)
      case first =>
        go_region
        all_goals (go_wp2_with fail; go_meet; exact ⟨rfl, rfl⟩)
      case rest =>
      obtain ⟨rfl, rfl⟩ := hcut
      have HOD : Hid (Ok wr wr.drew) := Lib.hid (Ok.refl wr).drew
      have HRL5 := Lib.hid (HRL.out.ok HOD.out)
      replace p5 := HOD.out.cell p5
      replace a17 := HOD.out.cell a17
      replace a19 := HOD.out.cell a19
      replace ce := HOD.out.cell ce
      generalize wr.drew = w5 at *
      clear HRL HOD HXr HFr dk da
      have hak : IntKind.i64.wrap ((a : Int) + (k : Int)) = (a : Int) + (k : Int) := by simp only [IntKind.wrap_i64]; have := HML.out; omega
      by_cases heq : a + k = n2
      · have dq : ((a : Int) + (k : Int) == (n2 : Int)) = true := by simp; omega
        go_upto_region 10 with fail
        go_cut [132] from 123 to 132 (fun v wx => v = .bool true ∧ wx = w5.drew)
        case first =>
          go_region
          all_goals (go_wp2_with fail; go_meet; exact ⟨rfl, rfl⟩)
        case rest =>
        obtain ⟨rfl, rfl⟩ := hcut
        have HOD : Hid (Ok w5 w5.drew) := Lib.hid (Ok.refl w5).drew
        have HRL6 := Lib.hid (HRL5.out.ok HOD.out)
        replace p5 := HOD.out.cell p5
        replace a19 := HOD.out.cell a19
        replace ce := HOD.out.cell ce
        generalize w5.drew = w6 at *
        have HNXT := Lib.hid (HST.out.1 (by rw [← HN2.out]; exact heq))
        have HNB : Hid ((∀ V, RL p x.term x.bi x.bt L AZ nZ cZ w4 (laid xZ (ys.take k) a) A2 n2 c2 V → (Value.slice A2 n2 c2).ownBlock ≠ some g) ∧ (∀ V, RL p x.term x.bi x.bt L AZ nZ cZ w4 (laid xZ (ys.take k) a) A2 n2 c2 V → (Value.slice A2 n2 c2).ownBlock ≠ some bb)) := Lib.hid ⟨HNB0.out, HNB1.out⟩
        obtain ⟨zs, hzs⟩ : ∃ zs, laid xZ (ys.take k) a = zs := ⟨_, rfl⟩
        rw [hzs] at HRL6 HZL HNXT HNB
        clear HRL5 HOD a17 dq hak hzs HST HNB0 HN2 heq hlt hle hk5
        have hk5 : k ≤ 140000 := by have := HML.out; have := HLT.out; omega
        have hk0 : (0 : Int) ≤ (k : Int) := Int.natCast_nonneg _
        have hk1 : (k : Int) < (r.bn : Int) := by have := HLT.out; have := HM.out; omega
        go_upto_region 11 with fail
        refine Until.begin (S := fun V => V.cell? ⟨p, 5, none⟩ = some (.slice A2 n2 c2) ∧ V.cell? ⟨g, 19, none⟩ = some (.slice (some ⟨bb, off, none⟩) r.bn r.bc) ∧ V.cell? ⟨bb, off + k, none⟩ = some (.int .u8 (ub y))) (j := 12) (by kernel_rfl) ?_ ?_
        · exact ⟨(Ok.refl w6).drew.cell p5, (Ok.refl w6).drew.cell a19, (Ok.refl w6).drew.cell ce⟩
        intro hS
        have HD : Hid (Ok w6 w6.drew) := Lib.hid ((Ok.refl w6).drew)
        generalize w6.drew = V0 at *
        refine Until.take0 (i := 0) (v := ?v0) rfl (by kernel_rfl) (by kernel_rfl) (by kernel_rfl) (by kernel_rfl) (fun _ _ _ h => h) (Or.inl ⟨by rfl, ?hy0⟩) (fun _ => hS) ?rest0
        case hy0 => ((intro w hSw); clear hSw; go_simp; (try with_reducible rfl))
        try go_frame
        refine Until.take0 (i := 1) (v := ?v1) rfl (by kernel_rfl) (by kernel_rfl) (by kernel_rfl) (by kernel_rfl) (fun _ _ _ h => h) (Or.inl ⟨by rfl, ?hy1⟩) (fun _ => hS) ?rest1
        case hy1 => ((intro w hSw); clear hSw; go_simp; (try with_reducible rfl))
        try go_frame
        refine Until.take0 (i := 2) (v := ?v2) rfl (by kernel_rfl) (by kernel_rfl) (by kernel_rfl) (by kernel_rfl) (fun _ _ _ h => h) (Or.inl ⟨by rfl, ?hy2⟩) (fun _ => hS) ?rest2
        case hy2 => ((intro w hSw); clear hSw; go_simp; (try with_reducible rfl))
        try go_frame
        refine Until.take0 (i := 3) (v := ?v3) rfl (by kernel_rfl) (by kernel_rfl) (by kernel_rfl) (by kernel_rfl) (fun _ _ _ h => h) (Or.inl ⟨by rfl, ?hy3⟩) (fun _ => hS) ?rest3
        case hy3 => ((intro w hSw); clear hSw; go_simp; (try with_reducible rfl))
        try go_frame
        refine Until.take (i := 4) (v := ?v4) rfl (by kernel_rfl) (by kernel_rfl) (by kernel_rfl) (by kernel_rfl) (fun _ _ _ h => h) (Or.inl ⟨by rfl, ?hy4⟩) hS ?rest4
        case hy4 => ((intro w hSw; (try dsimp only at hSw)); obtain ⟨s0, s1, s2⟩ := hSw; go_simp; (try with_reducible rfl))
        try go_frame
        refine Until.take0 (i := 5) (v := ?v5) rfl (by kernel_rfl) (by kernel_rfl) (by kernel_rfl) (by kernel_rfl) (fun _ _ _ h => h) (Or.inl ⟨by rfl, ?hy5⟩) (fun _ => hS) ?rest5
        case hy5 => ((intro w hSw); clear hSw; go_simp; (try with_reducible rfl))
        try go_frame
        refine Until.take (i := 6) (v := ?v6) rfl (by kernel_rfl) (by kernel_rfl) (by kernel_rfl) (by kernel_rfl) (fun _ _ _ h => h) (Or.inl ⟨by rfl, ?hy6⟩) hS ?rest6
        case hy6 => ((intro w hSw; (try dsimp only at hSw)); obtain ⟨s0, s1, s2⟩ := hSw; go_simp; (try with_reducible rfl))
        try go_frame
        refine Until.take0 (i := 7) (v := ?v7) rfl (by kernel_rfl) (by kernel_rfl) (by kernel_rfl) (by kernel_rfl) (fun _ _ _ h => h) (Or.inl ⟨by rfl, ?hy7⟩) (fun _ => hS) ?rest7
        case hy7 => ((intro w hSw); clear hSw; go_simp; (try with_reducible rfl))
        try go_frame
        refine Until.take0 (i := 8) (v := ?v8) rfl (by kernel_rfl) (by kernel_rfl) (by kernel_rfl) (by kernel_rfl) (fun _ _ _ h => h) (Or.inl ⟨by rfl, ?hy8⟩) (fun _ => hS) ?rest8
        case hy8 => ((intro w hSw); clear hSw; go_simp; (try with_reducible rfl))
        try go_frame
        refine Until.take (i := 9) (v := ?v9) rfl (by kernel_rfl) (by kernel_rfl) (by kernel_rfl) (by kernel_rfl) (fun _ _ _ h => h) (Or.inl ⟨by rfl, ?hy9⟩) hS ?rest9
        case hy9 => ((intro w hSw; (try dsimp only at hSw)); obtain ⟨s0, s1, s2⟩ := hSw; go_simp; (try with_reducible rfl))
        try go_frame
        refine Until.one (i := 10) (by kernel_rfl) rfl (fun K hK => ?_)
        have HK := Lib.hid hK
        clear hK
        go_simp
        have HCN1 : Hid ((V0.alloc (.cells #[.int .u8 (ub y)] 5)).cell? ⟨V0.heap.size, 0, none⟩ = some (.int .u8 (ub y))) := Lib.hid ((cell_of_heap (heap_alloc_new V0 _) 0).trans rfl)
        have HK1 : Hid (Ok w6 (V0.alloc (.cells #[.int .u8 (ub y)] 5))) := Lib.hid (HD.out.alloc _)
        have hS1 := (⟨((Ok.refl V0).alloc (.cells #[.int .u8 (ub y)] 5)).cell hS.1, ((Ok.refl V0).alloc (.cells #[.int .u8 (ub y)] 5)).cell hS.2.1, ((Ok.refl V0).alloc (.cells #[.int .u8 (ub y)] 5)).cell hS.2.2⟩ : _ ∧ _ ∧ _)
        generalize V0.alloc (.cells #[.int .u8 (ub y)] 5) = V1 at *
        refine HK.out.out _ _ (fun _ => hS1) (fun _ => ?_)
        clear hS
        have hS := hS1
        clear HK K
        try go_frame
        refine Until.one (i := 11) (by kernel_rfl) rfl (fun K hK => ?_)
        have HK := Lib.hid hK
        clear hK
        refine step_appN1 (by rfl) _ _ (by rfl) (p + 1) (.slice A2 n2 c2) zs y V0.heap.size 1 (by rfl) (by rfl) (HRL6.out.at_.ok HK1.out).own HCN1.out HZL.out (by have := (HRL6.out.at_.ok HK1.out).lt; omega) ?_
        intro A5 N5 c5 V3 ho5 hN5 hg5 hb5
        have HRL7 := Lib.hid ((HRL6.out.ok HK1.out).app ho5 hg5 hb5)
        have HC5 := Lib.hid ((HRL6.out.at_.ok HK1.out).app ho5 hg5)
        have hS2 := (⟨HC5.out.1, gcell hg5 (HNB.out.1 V1 (HRL6.out.ok HK1.out)) hS.2.1, gcell hg5 (HNB.out.2 V1 (HRL6.out.ok HK1.out)) hS.2.2⟩ : _ ∧ _ ∧ _)
        clear ho5 hN5 hg5 hb5
        refine HK.out.out _ _ (fun _ => hS2) (fun _ => ?_)
        clear hS
        have hS := hS2
        clear HK K
        try go_frame
        have f5 := HC5.out.2.1
        refine Until.one (i := 12) (by kernel_rfl) rfl (fun K hK => ?_)
        have HK := Lib.hid hK
        clear hK
        go_simp
        refine HK.out.out _ _ (fun h => absurd (h.symm.trans (by kernel_rfl : _ = true)) Bool.false_ne_true) (fun _ => ?_)
        clear HK K
        try go_frame
        refine Until.one (i := 13) (by kernel_rfl) rfl (fun K hK => ?_)
        have HK := Lib.hid hK
        clear hK
        go_simp
        refine HK.out.out _ _ (fun h => absurd (h.symm.trans (by kernel_rfl : _ = true)) Bool.false_ne_true) (fun _ => ?_)
        clear HK K
        try go_frame
        refine Until.one (i := 14) (by kernel_rfl) rfl (fun K hK => ?_)
        have HK := Lib.hid hK
        clear hK
        go_simp
        refine HK.out.out _ _ (fun h => absurd (h.symm.trans (by kernel_rfl : _ = true)) Bool.false_ne_true) (fun _ => ?_)
        clear HK K
        try go_frame
        refine Until.done (by kernel_rfl) ?_ _
        clear f5 p5 a19 ce
        go_wp2_with fail
        exact ⟨⟨k + 1, A5, N5, c5, HLT.out, by go_num, by rw [HNXT.out]; exact HRL7.out⟩, HMS.out⟩
      · have dq : ((a : Int) + (k : Int) == (n2 : Int)) = false := by simp; omega
        go_upto_region 10 with fail
        go_cut [132] from 123 to 132 (fun v wx => v = .bool false ∧ wx = w5.drew)
        case first =>
          go_region
          all_goals (go_wp2_with fail; go_meet; exact ⟨rfl, rfl⟩)
        case rest =>
        obtain ⟨rfl, rfl⟩ := hcut
        have HRL6 := Lib.hid (HRL5.out.ok (Ok.refl w5).drew)
        have HNXT := Lib.hid (HST.out.2 (by rw [← HN2.out]; exact heq))
        generalize w5.drew = w6 at *
        clear p5 a17 a19 ce dq hak
        go_wp2_with fail
        exact ⟨⟨k + 1, A2, n2, c2, HLT.out, by go_num, by rw [HNXT.out]; exact HRL6.out⟩, HMS.out⟩
    · have HEND := Lib.hid (laid_end xZ ys a k (by have h1 := HN2.out; have h2 := HM.out; omega))
      have HGO := Lib.hid hgo
      clear hgo
      go_upto_region 8 with fail
      go_cut [120] from 106 to 120 (fun v wx => v = .bool false ∧ wx = wr.drew)
      case first =>
        by_cases hlt : k < r.bn
        · have dk : decide (k < r.bn) = true := decide_eq_true hlt
          have da : decide (a ≤ n2) = false := decide_eq_false (by have := HGO.out; omega)
          go_region
          all_goals (go_wp2_with fail; go_meet; exact ⟨rfl, rfl⟩)
        · have dk : decide (k < r.bn) = false := decide_eq_false hlt
          go_region
          all_goals (go_wp2_with fail; go_meet; exact ⟨rfl, rfl⟩)
      case rest =>
      obtain ⟨rfl, rfl⟩ := hcut
      have HRL5 := Lib.hid (HRL.out.ok (Ok.refl wr).drew)
      rw [HEND.out] at HRL5 HN2
      have HLE := Lib.hid (laid_le xZ ys a L (by rw [← HNX.out]; exact hn1) HML.out)
      obtain ⟨zs, hzs⟩ : ∃ zs, laid xZ ys a = zs := ⟨_, rfl⟩
      rw [hzs] at HRL5 HN2 HLE
      have HZS := Lib.hid hzs
      generalize wr.drew = w5 at *
      clear HRL HXr HFr p5 a17 a19 HEND HGO hzs hkm
      obtain ⟨hX, hI, hF⟩ := HKEEP.out _ _ _ _ _ HRL5.out
      have HX5 := Lib.hid hX
      have HI5 := Lib.hid hI
      have HF5 := Lib.hid hF
      have HOA : Hid (∀ j, j < W.heap.size → (Value.slice A2 n2 c2).ownBlock = some j → (Value.slice A n c).ownBlock = some j) := Lib.hid (fun j hj e => HOQ.out j hj (HRL5.out.own j (by have := HF4.out.size; omega) e))
      have HG1 : Hid ((Value.slice A2 n2 c2).ownBlock ≠ some (g + 1)) := Lib.hid (fun e => by
        have h1 := HRL5.out.own (g + 1) (by have := HS4.out; omega) e
        have := HOBQ.out _ h1
        omega)
      clear hX hI hF
      have p5 := HRL5.out.at_.c5
      have p4 := HRL5.out.at_.c4
      have hnL2 : n2 ≤ L := by rw [HN2.out]; exact HLE.out
      go_upto_region 12 with fail
      by_cases hfull : n2 < L
      · have dl : decide (n2 < L) = true := decide_eq_true hfull
        go_cut [156] from 147 to 156 (fun v wx => v = .bool true ∧ wx = w5.drew)
        case first =>
          go_region
          all_goals (go_wp2_with fail; go_meet; exact ⟨rfl, rfl⟩)
        case rest =>
        obtain ⟨rfl, rfl⟩ := hcut
        have HOD : Hid (Ok w5 w5.drew) := Lib.hid (Ok.refl w5).drew
        have HR6 := Lib.hid (HRL5.out.at_.ok HOD.out)
        have HF6 := Lib.hid (HF5.out.ok HOD.out)
        have HI6 := Lib.hid (blk_ok HOD.out HI5.out)
        replace p5 := HOD.out.cell p5
        generalize w5.drew = w6 at *
        clear p4 dl HOD HX5 HI5 HF5
        have z0 : w6.cell? ⟨g + 1, 0, none⟩ = some (.int .i64 0) := (cell_of_heap HI6.out 0).trans rfl
        have y0 : w6.frozen? ⟨g + 1, 0, none⟩ = false := frz_raw HI6.out 0
        have z1 : w6.cell? ⟨g + 1, 1, none⟩ = some (.int .i64 0) := (cell_of_heap HI6.out 1).trans rfl
        have y1 : w6.frozen? ⟨g + 1, 1, none⟩ = false := frz_raw HI6.out 1
        have z2 : w6.cell? ⟨g + 1, 2, none⟩ = some (.slice none 0 0) := (cell_of_heap HI6.out 2).trans rfl
        have y2 : w6.frozen? ⟨g + 1, 2, none⟩ = false := frz_raw HI6.out 2
        have z3 : w6.cell? ⟨g + 1, 3, none⟩ = some (.slice none 0 0) := (cell_of_heap HI6.out 3).trans rfl
        have y3 : w6.frozen? ⟨g + 1, 3, none⟩ = false := frz_raw HI6.out 3
        have z4 : w6.cell? ⟨g + 1, 4, none⟩ = some (.slice none 0 0) := (cell_of_heap HI6.out 4).trans rfl
        have y4 : w6.frozen? ⟨g + 1, 4, none⟩ = false := frz_raw HI6.out 4
        have z5 : w6.cell? ⟨g + 1, 5, none⟩ = some (.slice none 0 0) := (cell_of_heap HI6.out 5).trans rfl
        have y5 : w6.frozen? ⟨g + 1, 5, none⟩ = false := frz_raw HI6.out 5
        have z6 : w6.cell? ⟨g + 1, 6, none⟩ = some (.slice none 0 0) := (cell_of_heap HI6.out 6).trans rfl
        have y6 : w6.frozen? ⟨g + 1, 6, none⟩ = false := frz_raw HI6.out 6
        go_upto_region 13 with fail
        go_wp2_with fail
        refine bodyPost_ret (v := .tuple #[.int .i64 (n2 : Int), .bool false, .agg #[.int .i64 0, .int .i64 0, .slice none 0 0, .slice none 0 0, .slice none 0 0, .slice none 0 0, .slice none 0 0]]) (by simp [results, Try.results78, go_sem, z0, z1, z2, z3, z4, z5, z6]; try rfl) rfl ?_
        clear z0 z1 z2 z3 z4 z5 z6 y0 y1 y2 y3 y4 y5 y6 p5
        have hn1p : g + 1 ≠ p := by have := HPL.out; omega
        rw [HZS.out]
        refine .inl ⟨by rw [← HN2.out]; omega, by rw [HN2.out], ⟨A2, c2, ?_, ?_⟩, ?_⟩
        · rw [← HN2.out]; (repeat (refine RAt.far ?_ (g + 1) _ _ hn1p HG1.out)); exact HR6.out
        · rw [← HN2.out]; exact HOA.out
        · (repeat (refine Fr.far ?_ (q := g + 1) (by have := HG.out; omega) _ _)); exact HF6.out
      · obtain rfl : n2 = L := by omega
        have dl : decide (n2 < n2) = false := decide_eq_false (by omega)
        go_cut [156] from 147 to 156 (fun v wx => v = .bool false ∧ wx = w5.drew)
        case first =>
          go_region
          all_goals (go_wp2_with fail; go_meet; exact ⟨rfl, rfl⟩)
        case rest =>
        obtain ⟨rfl, rfl⟩ := hcut
        have HOD : Hid (Ok w5 w5.drew) := Lib.hid (Ok.refl w5).drew
        have HRL6 := Lib.hid (HRL5.out.ok HOD.out)
        have HF6 := Lib.hid (HF5.out.ok HOD.out)
        have HI6 := Lib.hid (blk_ok HOD.out HI5.out)
        have HX6 := Lib.hid (blk_ok HOD.out HX5.out)
        have HL65q : Hid (w5.heap.size ≤ w5.drew.heap.size) := Lib.hid (ok_le' HOD.out)
        generalize w5.drew = w6 at *
        clear p4 p5 dl HOD HX5 HI5 HRL5 hfull
        have HL65 : Hid (w5.heap.size ≤ w6.heap.size) := Lib.hid HL65q.out
        have HG16 : Hid (g + 1 < w6.heap.size) := Lib.hid (lt_raw HI6.out)
        go_upto_region 14 with fail
        go_cut [8] from 163 to 170 (fun v8 wx => ∃ (g8 : Nat) (s' : S4), v8 = .pointer (some ⟨g8, 0, none⟩) ∧ wx.heap[g8]? = some (.cells #[.int .i64 x.bi, .int .i64 x.bt, .slice s'.A0 s'.n0 s'.c0, .slice s'.A1 s'.n1 s'.c1, .slice s'.A2 s'.n2 s'.c2, .slice s'.A3 s'.n3 s'.c3, .slice A2 n2 c2] 97 (0, 0)) ∧ CfgN wx w6.heap.size s' cf ∧ Ok w6 wx ∧ w6.heap.size ≤ g8)
        case first =>
          rename_i K0 Q0 hK0
          have HKK := Lib.hid hK0
          clear hK0
          have HP5 := Lib.hid HRL6.out.at_.c5
          refine Until.begin (S := fun V => V.heap[g]? = some (.cells #[.int .u8 x.kind, .int .i64 x.group, .int .i64 x.from_, .int .i64 x.to_, .int .i64 x.term, .int .i64 x.index, .int .i64 x.logterm, .int .i64 x.commit, .bool x.ok, .slice r.eA x.es.length r.ec, .int .i64 x.bi, .int .i64 x.bt, .slice r.s.A0 r.s.n0 r.s.c0, .slice r.s.A1 r.s.n1 r.s.c1, .slice r.s.A2 r.s.n2 r.s.c2, .slice r.s.A3 r.s.n3 r.s.c3, .int .i64 x.size, .int .i64 x.at_, .int .i64 x.tag, .slice r.bA r.bn r.bc] 95 (0, 0)) ∧ V.cell? ⟨p, 5, none⟩ = some (.slice A2 n2 c2)) (j := 9) (by kernel_rfl) ?_ ?_
          · exact ⟨blk_ok (Ok.refl w6).drew HX6.out, (Ok.refl w6).drew.cell HP5.out⟩
          intro hS
          have HD : Hid (Ok w6 w6.drew) := Lib.hid ((Ok.refl w6).drew)
          generalize w6.drew = V0 at *
          refine Until.take0 (i := 0) (v := ?vq0) rfl (by kernel_rfl) (by kernel_rfl) (by kernel_rfl) (by kernel_rfl) (fun _ _ _ h => h) (Or.inl ⟨by rfl, ?hyq0⟩) (fun _ => hS) ?restq0
          case hyq0 => ((intro w hSw); clear hSw; go_simp; (try with_reducible rfl))
          try go_frame
          refine Until.take (i := 1) (v := ?vq1) rfl (by kernel_rfl) (by kernel_rfl) (by kernel_rfl) (by kernel_rfl) (fun _ _ _ h => h) (Or.inl ⟨by rfl, ?hyq1⟩) hS ?restq1
          case hyq1 => ((intro w hSw; (try dsimp only at hSw)); obtain ⟨s0, s1⟩ := hSw; have b10 : w.cell? ⟨g, 10, none⟩ = some (.int .i64 x.bi) := (cell_of_heap s0 10).trans rfl; have b11 : w.cell? ⟨g, 11, none⟩ = some (.int .i64 x.bt) := (cell_of_heap s0 11).trans rfl; have b12 : w.cell? ⟨g, 12, none⟩ = some (.slice r.s.A0 r.s.n0 r.s.c0) := (cell_of_heap s0 12).trans rfl; have b13 : w.cell? ⟨g, 13, none⟩ = some (.slice r.s.A1 r.s.n1 r.s.c1) := (cell_of_heap s0 13).trans rfl; have b14 : w.cell? ⟨g, 14, none⟩ = some (.slice r.s.A2 r.s.n2 r.s.c2) := (cell_of_heap s0 14).trans rfl; have b15 : w.cell? ⟨g, 15, none⟩ = some (.slice r.s.A3 r.s.n3 r.s.c3) := (cell_of_heap s0 15).trans rfl; go_simp; (try with_reducible rfl))
          try go_frame
          refine Until.take0 (i := 3) (v := ?vq3) rfl (by kernel_rfl) (by kernel_rfl) (by kernel_rfl) (by kernel_rfl) (fun _ _ _ h => h) (Or.inl ⟨by rfl, ?hyq3⟩) (fun _ => hS) ?restq3
          case hyq3 => ((intro w hSw); clear hSw; go_simp; (try with_reducible rfl))
          try go_frame
          refine Until.take0 (i := 4) (v := ?vq4) rfl (by kernel_rfl) (by kernel_rfl) (by kernel_rfl) (by kernel_rfl) (fun _ _ _ h => h) (Or.inl ⟨by rfl, ?hyq4⟩) (fun _ => hS) ?restq4
          case hyq4 => ((intro w hSw); clear hSw; go_simp; (try with_reducible rfl))
          try go_frame
          refine Until.take0 (i := 5) (v := ?vq5) rfl (by kernel_rfl) (by kernel_rfl) (by kernel_rfl) (by kernel_rfl) (fun _ _ _ h => h) (Or.inl ⟨by rfl, ?hyq5⟩) (fun _ => hS) ?restq5
          case hyq5 => ((intro w hSw); clear hSw; go_simp; (try with_reducible rfl))
          try go_frame
          refine Until.take (i := 6) (v := ?vq6) rfl (by kernel_rfl) (by kernel_rfl) (by kernel_rfl) (by kernel_rfl) (fun _ _ _ h => h) (Or.inl ⟨by rfl, ?hyq6⟩) hS ?restq6
          case hyq6 => ((intro w hSw; (try dsimp only at hSw)); obtain ⟨s0, s1⟩ := hSw; have b10 : w.cell? ⟨g, 10, none⟩ = some (.int .i64 x.bi) := (cell_of_heap s0 10).trans rfl; have b11 : w.cell? ⟨g, 11, none⟩ = some (.int .i64 x.bt) := (cell_of_heap s0 11).trans rfl; have b12 : w.cell? ⟨g, 12, none⟩ = some (.slice r.s.A0 r.s.n0 r.s.c0) := (cell_of_heap s0 12).trans rfl; have b13 : w.cell? ⟨g, 13, none⟩ = some (.slice r.s.A1 r.s.n1 r.s.c1) := (cell_of_heap s0 13).trans rfl; have b14 : w.cell? ⟨g, 14, none⟩ = some (.slice r.s.A2 r.s.n2 r.s.c2) := (cell_of_heap s0 14).trans rfl; have b15 : w.cell? ⟨g, 15, none⟩ = some (.slice r.s.A3 r.s.n3 r.s.c3) := (cell_of_heap s0 15).trans rfl; go_simp; (try with_reducible rfl))
          try go_frame
          refine Until.pair (i := 2) (k := 8) (by kernel_rfl) rfl rfl (fun K hK => ?_) (fun K hK => ?_)
          · have HK := Lib.hid hK
            clear hK
            go_simp
            refine (copyBase_v x.bi x.bt r.s cf V0 (HXX.out V0 (HF6.out.ok HD.out)).1 HFI.out).mono ?_
            rintro _ V1 ⟨s', rfl, hcn, ok⟩
            have HCN := Lib.hid hcn
            have HDC := Lib.hid ok
            have hS1 := (⟨blk_ok ok hS.1, ok.cell hS.2⟩ : _ ∧ _)
            clear ok hcn
            refine HK.out.out _ _ (fun _ => hS1) (fun _ => ?_)
            clear hS
            have hS := hS1
            clear HK K
            try go_frame
            refine Until.take0 (i := 7) (v := ?vq7b2) rfl (by kernel_rfl) (by kernel_rfl) (by kernel_rfl) (by kernel_rfl) (fun _ _ _ h => h) (Or.inl ⟨by rfl, ?hyq7b2⟩) (fun _ => hS) ?restq7b2
            case hyq7b2 => ((intro w hSw); clear hSw; go_simp; (try with_reducible rfl))
            try go_frame
            refine Until.one (i := 8) (by kernel_rfl) rfl (fun K hK => ?_)
            have HK := Lib.hid hK
            clear hK
            go_simp
            have HZN : Hid ((V1.alloc (.cells #[.int .i64 0, .int .i64 0, .slice none 0 0, .slice none 0 0, .slice none 0 0, .slice none 0 0, .slice none 0 0] 97)).heap[V1.heap.size]? = some (.cells #[.int .i64 0, .int .i64 0, .slice none 0 0, .slice none 0 0, .slice none 0 0, .slice none 0 0, .slice none 0 0] 97 (0, 0))) := Lib.hid (heap_alloc_new V1 _)
            have ok : Ok V1 (V1.alloc (.cells #[.int .i64 0, .int .i64 0, .slice none 0 0, .slice none 0 0, .slice none 0 0, .slice none 0 0, .slice none 0 0] 97)) := (Ok.refl _).alloc _
            have HDA := Lib.hid ok
            have hS2 := (⟨blk_ok ok hS.1, ok.cell hS.2⟩ : _ ∧ _)
            clear ok
            generalize V1.alloc (.cells #[.int .i64 0, .int .i64 0, .slice none 0 0, .slice none 0 0, .slice none 0 0, .slice none 0 0, .slice none 0 0] 97) = V2 at *
            refine HK.out.out _ _ (fun _ => hS2) (fun _ => ?_)
            clear hS
            have hS := hS2
            clear HK K
            try go_frame
            have HZ2 := HZN
            have z0 : V2.cell? ⟨V1.heap.size, 0, none⟩ = some (.int .i64 0) := (cell_of_heap HZ2.out 0).trans rfl
            have z1 : V2.cell? ⟨V1.heap.size, 1, none⟩ = some (.int .i64 0) := (cell_of_heap HZ2.out 1).trans rfl
            have z2 : V2.cell? ⟨V1.heap.size, 2, none⟩ = some (.slice none 0 0) := (cell_of_heap HZ2.out 2).trans rfl
            have z3 : V2.cell? ⟨V1.heap.size, 3, none⟩ = some (.slice none 0 0) := (cell_of_heap HZ2.out 3).trans rfl
            have z4 : V2.cell? ⟨V1.heap.size, 4, none⟩ = some (.slice none 0 0) := (cell_of_heap HZ2.out 4).trans rfl
            have z5 : V2.cell? ⟨V1.heap.size, 5, none⟩ = some (.slice none 0 0) := (cell_of_heap HZ2.out 5).trans rfl
            have z6 : V2.cell? ⟨V1.heap.size, 6, none⟩ = some (.slice none 0 0) := (cell_of_heap HZ2.out 6).trans rfl
            have y0 : V2.frozen? ⟨V1.heap.size, 0, none⟩ = false := frz_raw HZ2.out 0
            have y1 : V2.frozen? ⟨V1.heap.size, 1, none⟩ = false := frz_raw HZ2.out 1
            have y2 : V2.frozen? ⟨V1.heap.size, 2, none⟩ = false := frz_raw HZ2.out 2
            have y3 : V2.frozen? ⟨V1.heap.size, 3, none⟩ = false := frz_raw HZ2.out 3
            have y4 : V2.frozen? ⟨V1.heap.size, 4, none⟩ = false := frz_raw HZ2.out 4
            have y5 : V2.frozen? ⟨V1.heap.size, 5, none⟩ = false := frz_raw HZ2.out 5
            have y6 : V2.frozen? ⟨V1.heap.size, 6, none⟩ = false := frz_raw HZ2.out 6
            refine Until.one (i := 9) (by kernel_rfl) rfl (fun K hK => ?_)
            have HK := Lib.hid hK
            clear hK
            go_simp
            refine HK.out.out _ _ (fun h => absurd (h.symm.trans (by kernel_rfl : _ = true)) Bool.false_ne_true) (fun _ => ?_)
            clear HK K
            try go_frame
            refine Until.done (by kernel_rfl) ?_ _
            clear z0 z1 z2 z3 z4 z5 z6 y0 y1 y2 y3 y4 y5 y6
            have HOKF : Hid (Ok V1 (((((((V2.setCell ⟨V1.heap.size, 0, none⟩ (.int .i64 x.bi)).setCell ⟨V1.heap.size, 1, none⟩ (.int .i64 x.bt)).setCell ⟨V1.heap.size, 2, none⟩ (.slice s'.A0 s'.n0 s'.c0)).setCell ⟨V1.heap.size, 3, none⟩ (.slice s'.A1 s'.n1 s'.c1)).setCell ⟨V1.heap.size, 4, none⟩ (.slice s'.A2 s'.n2 s'.c2)).setCell ⟨V1.heap.size, 5, none⟩ (.slice s'.A3 s'.n3 s'.c3)).setCell ⟨V1.heap.size, 6, none⟩ (.slice A2 n2 c2))) := Lib.hid (Below.setCell (p := ⟨V1.heap.size, 6, none⟩) (Below.setCell (p := ⟨V1.heap.size, 5, none⟩) (Below.setCell (p := ⟨V1.heap.size, 4, none⟩) (Below.setCell (p := ⟨V1.heap.size, 3, none⟩) (Below.setCell (p := ⟨V1.heap.size, 2, none⟩) (Below.setCell (p := ⟨V1.heap.size, 1, none⟩) (Below.setCell (p := ⟨V1.heap.size, 0, none⟩) (HDA.out) (Nat.le_refl _) (.int .i64 x.bi)) (Nat.le_refl _) (.int .i64 x.bt)) (Nat.le_refl _) (.slice s'.A0 s'.n0 s'.c0)) (Nat.le_refl _) (.slice s'.A1 s'.n1 s'.c1)) (Nat.le_refl _) (.slice s'.A2 s'.n2 s'.c2)) (Nat.le_refl _) (.slice s'.A3 s'.n3 s'.c3)) (Nat.le_refl _) (.slice A2 n2 c2))
            have HHB : Hid ((((((((V2.setCell ⟨V1.heap.size, 0, none⟩ (.int .i64 x.bi)).setCell ⟨V1.heap.size, 1, none⟩ (.int .i64 x.bt)).setCell ⟨V1.heap.size, 2, none⟩ (.slice s'.A0 s'.n0 s'.c0)).setCell ⟨V1.heap.size, 3, none⟩ (.slice s'.A1 s'.n1 s'.c1)).setCell ⟨V1.heap.size, 4, none⟩ (.slice s'.A2 s'.n2 s'.c2)).setCell ⟨V1.heap.size, 5, none⟩ (.slice s'.A3 s'.n3 s'.c3)).setCell ⟨V1.heap.size, 6, none⟩ (.slice A2 n2 c2)).heap[V1.heap.size]? = some (.cells #[.int .i64 x.bi, .int .i64 x.bt, .slice s'.A0 s'.n0 s'.c0, .slice s'.A1 s'.n1 s'.c1, .slice s'.A2 s'.n2 s'.c2, .slice s'.A3 s'.n3 s'.c3, .slice A2 n2 c2] 97 (0, 0))) := Lib.hid (set_blk (set_blk (set_blk (set_blk (set_blk (set_blk (set_blk (HZ2.out) 0 (.int .i64 x.bi)) 1 (.int .i64 x.bt)) 2 (.slice s'.A0 s'.n0 s'.c0)) 3 (.slice s'.A1 s'.n1 s'.c1)) 4 (.slice s'.A2 s'.n2 s'.c2)) 5 (.slice s'.A3 s'.n3 s'.c3)) 6 (.slice A2 n2 c2))
            refine HKK.out _ _ ?_
            go_meet
            exact ⟨V1.heap.size, s', rfl, HHB.out, (HCN.out.hi (Hi.ok HOKF.out)).mono (ok_le' HD.out), (HD.out.trans HDC.out).trans HOKF.out, Nat.le_trans (ok_le' HD.out) (ok_le' HDC.out)⟩
          · have HK := Lib.hid hK
            clear hK
            go_simp
            have HZN : Hid ((V0.alloc (.cells #[.int .i64 0, .int .i64 0, .slice none 0 0, .slice none 0 0, .slice none 0 0, .slice none 0 0, .slice none 0 0] 97)).heap[V0.heap.size]? = some (.cells #[.int .i64 0, .int .i64 0, .slice none 0 0, .slice none 0 0, .slice none 0 0, .slice none 0 0, .slice none 0 0] 97 (0, 0))) := Lib.hid (heap_alloc_new V0 _)
            have ok : Ok V0 (V0.alloc (.cells #[.int .i64 0, .int .i64 0, .slice none 0 0, .slice none 0 0, .slice none 0 0, .slice none 0 0, .slice none 0 0] 97)) := (Ok.refl _).alloc _
            have HDA := Lib.hid ok
            have hS1 := (⟨blk_ok ok hS.1, ok.cell hS.2⟩ : _ ∧ _)
            clear ok
            generalize V0.alloc (.cells #[.int .i64 0, .int .i64 0, .slice none 0 0, .slice none 0 0, .slice none 0 0, .slice none 0 0, .slice none 0 0] 97) = V1 at *
            refine HK.out.out _ _ (fun _ => hS1) (fun _ => ?_)
            clear hS
            have hS := hS1
            clear HK K
            try go_frame
            refine Until.one (i := 2) (by kernel_rfl) rfl (fun K hK => ?_)
            have HK := Lib.hid hK
            clear hK
            go_simp
            refine (copyBase_v x.bi x.bt r.s cf V1 (HXX.out V1 (HF6.out.ok (HD.out.trans HDA.out))).1 HFI.out).mono ?_
            rintro _ V2 ⟨s', rfl, hcn, ok⟩
            have HCN := Lib.hid hcn
            have HDC := Lib.hid ok
            have hS2 := (⟨blk_ok ok hS.1, ok.cell hS.2⟩ : _ ∧ _)
            clear ok hcn
            refine HK.out.out _ _ (fun _ => hS2) (fun _ => ?_)
            clear hS
            have hS := hS2
            clear HK K
            try go_frame
            have HZ2 := Lib.hid (blk_ok HDC.out HZN.out)
            have z0 : V2.cell? ⟨V0.heap.size, 0, none⟩ = some (.int .i64 0) := (cell_of_heap HZ2.out 0).trans rfl
            have z1 : V2.cell? ⟨V0.heap.size, 1, none⟩ = some (.int .i64 0) := (cell_of_heap HZ2.out 1).trans rfl
            have z2 : V2.cell? ⟨V0.heap.size, 2, none⟩ = some (.slice none 0 0) := (cell_of_heap HZ2.out 2).trans rfl
            have z3 : V2.cell? ⟨V0.heap.size, 3, none⟩ = some (.slice none 0 0) := (cell_of_heap HZ2.out 3).trans rfl
            have z4 : V2.cell? ⟨V0.heap.size, 4, none⟩ = some (.slice none 0 0) := (cell_of_heap HZ2.out 4).trans rfl
            have z5 : V2.cell? ⟨V0.heap.size, 5, none⟩ = some (.slice none 0 0) := (cell_of_heap HZ2.out 5).trans rfl
            have z6 : V2.cell? ⟨V0.heap.size, 6, none⟩ = some (.slice none 0 0) := (cell_of_heap HZ2.out 6).trans rfl
            have y0 : V2.frozen? ⟨V0.heap.size, 0, none⟩ = false := frz_raw HZ2.out 0
            have y1 : V2.frozen? ⟨V0.heap.size, 1, none⟩ = false := frz_raw HZ2.out 1
            have y2 : V2.frozen? ⟨V0.heap.size, 2, none⟩ = false := frz_raw HZ2.out 2
            have y3 : V2.frozen? ⟨V0.heap.size, 3, none⟩ = false := frz_raw HZ2.out 3
            have y4 : V2.frozen? ⟨V0.heap.size, 4, none⟩ = false := frz_raw HZ2.out 4
            have y5 : V2.frozen? ⟨V0.heap.size, 5, none⟩ = false := frz_raw HZ2.out 5
            have y6 : V2.frozen? ⟨V0.heap.size, 6, none⟩ = false := frz_raw HZ2.out 6
            refine Until.take0 (i := 7) (v := ?vq7b8) rfl (by kernel_rfl) (by kernel_rfl) (by kernel_rfl) (by kernel_rfl) (fun _ _ _ h => h) (Or.inl ⟨by rfl, ?hyq7b8⟩) (fun _ => hS) ?restq7b8
            case hyq7b8 => ((intro w hSw); clear hSw; go_simp; (try with_reducible rfl))
            try go_frame
            refine Until.one (i := 9) (by kernel_rfl) rfl (fun K hK => ?_)
            have HK := Lib.hid hK
            clear hK
            go_simp
            refine HK.out.out _ _ (fun h => absurd (h.symm.trans (by kernel_rfl : _ = true)) Bool.false_ne_true) (fun _ => ?_)
            clear HK K
            try go_frame
            refine Until.done (by kernel_rfl) ?_ _
            clear z0 z1 z2 z3 z4 z5 z6 y0 y1 y2 y3 y4 y5 y6
            have HOKF : Hid (Ok V0 (((((((V2.setCell ⟨V0.heap.size, 0, none⟩ (.int .i64 x.bi)).setCell ⟨V0.heap.size, 1, none⟩ (.int .i64 x.bt)).setCell ⟨V0.heap.size, 2, none⟩ (.slice s'.A0 s'.n0 s'.c0)).setCell ⟨V0.heap.size, 3, none⟩ (.slice s'.A1 s'.n1 s'.c1)).setCell ⟨V0.heap.size, 4, none⟩ (.slice s'.A2 s'.n2 s'.c2)).setCell ⟨V0.heap.size, 5, none⟩ (.slice s'.A3 s'.n3 s'.c3)).setCell ⟨V0.heap.size, 6, none⟩ (.slice A2 n2 c2))) := Lib.hid (Below.setCell (p := ⟨V0.heap.size, 6, none⟩) (Below.setCell (p := ⟨V0.heap.size, 5, none⟩) (Below.setCell (p := ⟨V0.heap.size, 4, none⟩) (Below.setCell (p := ⟨V0.heap.size, 3, none⟩) (Below.setCell (p := ⟨V0.heap.size, 2, none⟩) (Below.setCell (p := ⟨V0.heap.size, 1, none⟩) (Below.setCell (p := ⟨V0.heap.size, 0, none⟩) ((HDA.out.trans HDC.out)) (Nat.le_refl _) (.int .i64 x.bi)) (Nat.le_refl _) (.int .i64 x.bt)) (Nat.le_refl _) (.slice s'.A0 s'.n0 s'.c0)) (Nat.le_refl _) (.slice s'.A1 s'.n1 s'.c1)) (Nat.le_refl _) (.slice s'.A2 s'.n2 s'.c2)) (Nat.le_refl _) (.slice s'.A3 s'.n3 s'.c3)) (Nat.le_refl _) (.slice A2 n2 c2))
            have HHF : Hid (Hi V1.heap.size V2 (((((((V2.setCell ⟨V0.heap.size, 0, none⟩ (.int .i64 x.bi)).setCell ⟨V0.heap.size, 1, none⟩ (.int .i64 x.bt)).setCell ⟨V0.heap.size, 2, none⟩ (.slice s'.A0 s'.n0 s'.c0)).setCell ⟨V0.heap.size, 3, none⟩ (.slice s'.A1 s'.n1 s'.c1)).setCell ⟨V0.heap.size, 4, none⟩ (.slice s'.A2 s'.n2 s'.c2)).setCell ⟨V0.heap.size, 5, none⟩ (.slice s'.A3 s'.n3 s'.c3)).setCell ⟨V0.heap.size, 6, none⟩ (.slice A2 n2 c2))) := Lib.hid (Hi.set' (Hi.set' (Hi.set' (Hi.set' (Hi.set' (Hi.set' (Hi.set' (Hi.refl V1.heap.size V2) (lt_raw HZN.out) 0 (.int .i64 x.bi)) (lt_raw HZN.out) 1 (.int .i64 x.bt)) (lt_raw HZN.out) 2 (.slice s'.A0 s'.n0 s'.c0)) (lt_raw HZN.out) 3 (.slice s'.A1 s'.n1 s'.c1)) (lt_raw HZN.out) 4 (.slice s'.A2 s'.n2 s'.c2)) (lt_raw HZN.out) 5 (.slice s'.A3 s'.n3 s'.c3)) (lt_raw HZN.out) 6 (.slice A2 n2 c2))
            have HHB : Hid ((((((((V2.setCell ⟨V0.heap.size, 0, none⟩ (.int .i64 x.bi)).setCell ⟨V0.heap.size, 1, none⟩ (.int .i64 x.bt)).setCell ⟨V0.heap.size, 2, none⟩ (.slice s'.A0 s'.n0 s'.c0)).setCell ⟨V0.heap.size, 3, none⟩ (.slice s'.A1 s'.n1 s'.c1)).setCell ⟨V0.heap.size, 4, none⟩ (.slice s'.A2 s'.n2 s'.c2)).setCell ⟨V0.heap.size, 5, none⟩ (.slice s'.A3 s'.n3 s'.c3)).setCell ⟨V0.heap.size, 6, none⟩ (.slice A2 n2 c2)).heap[V0.heap.size]? = some (.cells #[.int .i64 x.bi, .int .i64 x.bt, .slice s'.A0 s'.n0 s'.c0, .slice s'.A1 s'.n1 s'.c1, .slice s'.A2 s'.n2 s'.c2, .slice s'.A3 s'.n3 s'.c3, .slice A2 n2 c2] 97 (0, 0))) := Lib.hid (set_blk (set_blk (set_blk (set_blk (set_blk (set_blk (set_blk (HZ2.out) 0 (.int .i64 x.bi)) 1 (.int .i64 x.bt)) 2 (.slice s'.A0 s'.n0 s'.c0)) 3 (.slice s'.A1 s'.n1 s'.c1)) 4 (.slice s'.A2 s'.n2 s'.c2)) 5 (.slice s'.A3 s'.n3 s'.c3)) 6 (.slice A2 n2 c2))
            refine HKK.out _ _ ?_
            go_meet
            exact ⟨V0.heap.size, s', rfl, HHB.out, (HCN.out.hi HHF.out).mono (Nat.le_trans (ok_le' HD.out) (ok_le' HDA.out)), HD.out.trans HOKF.out, ok_le' HD.out⟩
        case rest =>
        obtain ⟨g8, s', rfl, h8, hcn, o7, hg8⟩ := hcut
        have HH8 := Lib.hid h8
        have HCN := Lib.hid hcn
        have HO7 := Lib.hid o7
        have HG8 := Lib.hid hg8
        have HRL7 := Lib.hid (HRL6.out.ok o7)
        have HX7 := Lib.hid (blk_ok o7 HX6.out)
        have HI7 := Lib.hid (blk_ok o7 HI6.out)
        have HF7 := Lib.hid (HF6.out.ok o7)
        have HL6 : Hid (w6.heap.size ≤ wc.heap.size) := Lib.hid (ok_le' o7)
        clear h8 hcn o7 hg8 HRL6 HX6 HI6 HF6
        go_upto_region 15 with fail
        go_wp2_with fail
        (with_reducible refine (rdrop_g p x.term x.bi x.bt (n2 : Int) true A2 n2 c2 zs wc HRL7.out.at_).mono ?_)
        rintro _ w8 ⟨rfl, hr8, hf8⟩
        have HR8 := Lib.hid hr8
        have HF8 := Lib.hid hf8
        have NN : ∀ q, (Value.slice none 0 0).ownBlock ≠ some q := fun q e => by cases e
        have HX8 : Hid (w8.heap[g]? = some (.cells #[.int .u8 x.kind, .int .i64 x.group, .int .i64 x.from_, .int .i64 x.to_, .int .i64 x.term, .int .i64 x.index, .int .i64 x.logterm, .int .i64 x.commit, .bool x.ok, .slice r.eA x.es.length r.ec, .int .i64 x.bi, .int .i64 x.bt, .slice r.s.A0 r.s.n0 r.s.c0, .slice r.s.A1 r.s.n1 r.s.c1, .slice r.s.A2 r.s.n2 r.s.c2, .slice r.s.A3 r.s.n3 r.s.c3, .int .i64 x.size, .int .i64 x.at_, .int .i64 x.tag, .slice r.bA r.bn r.bc] 95 (0, 0))) := Lib.hid ((hf8.block g (lt_raw HX7.out) (by have := HPL.out; omega) (NN _)).trans HX7.out)
        have HI8 : Hid (w8.heap[g + 1]? = some (.cells #[.int .i64 0, .int .i64 0, .slice none 0 0, .slice none 0 0, .slice none 0 0, .slice none 0 0, .slice none 0 0] 97 (0, 0))) := Lib.hid ((hf8.block (g + 1) (lt_raw HI7.out) (by have := HPL.out; omega) (NN _)).trans HI7.out)
        have HM8 : Hid (w8.heap[g8]? = some (.cells #[.int .i64 x.bi, .int .i64 x.bt, .slice s'.A0 s'.n0 s'.c0, .slice s'.A1 s'.n1 s'.c1, .slice s'.A2 s'.n2 s'.c2, .slice s'.A3 s'.n3 s'.c3, .slice A2 n2 c2] 97 (0, 0))) := Lib.hid ((hf8.block g8 (lt_raw HH8.out) (by have h1 := HG8.out; have h2 := HPL.out; have h3 := HF5.out.size; have h4 := HL65.out; have h6 := HG.out; omega) (NN _)).trans HH8.out)
        have HBY8 : Hid (BytesIn w8 (.slice A2 n2 c2) zs) := Lib.hid ((HRL7.out.at_.own.fr hf8 (by omega) (fun j e => by cases e)).bytes (by have := HLE.out; omega))
        have HCN8 : Hid (CfgN w8 w6.heap.size s' cf) := Lib.hid (HCN.out.hi ⟨hf8.size, fun b h1 h2 => hf8.block b h2 (by have h3 := HPL.out; have h4 := HF5.out.size; have h5 := HL65.out; have h6 := HG.out; omega) (NN _)⟩)
        have HF9 : Hid (Fr p A n c W w8) := Lib.hid (Fr.trans HF7.out hf8 (fun j _ e => by cases e))
        have HG6 : Hid (g + 1 < w6.heap.size) := Lib.hid HG16.out
        have HW6 : Hid (W.heap.size ≤ w6.heap.size) := Lib.hid (Nat.le_trans HF5.out.size HL65.out)
        clear hr8 hf8 HRL7 HX7 HI7 HF7 HH8 HCN HF8
        have a16 : w8.cell? ⟨g, 16, none⟩ = some (.int .i64 (n2 : Int)) := HSZX.out ▸ (cell_of_heap HX8.out 16).trans rfl
        have m0 : w8.cell? ⟨g8, 0, none⟩ = some (.int .i64 x.bi) := (cell_of_heap HM8.out 0).trans rfl
        have m1 : w8.cell? ⟨g8, 1, none⟩ = some (.int .i64 x.bt) := (cell_of_heap HM8.out 1).trans rfl
        have m2 : w8.cell? ⟨g8, 2, none⟩ = some (.slice s'.A0 s'.n0 s'.c0) := (cell_of_heap HM8.out 2).trans rfl
        have m3 : w8.cell? ⟨g8, 3, none⟩ = some (.slice s'.A1 s'.n1 s'.c1) := (cell_of_heap HM8.out 3).trans rfl
        have m4 : w8.cell? ⟨g8, 4, none⟩ = some (.slice s'.A2 s'.n2 s'.c2) := (cell_of_heap HM8.out 4).trans rfl
        have m5 : w8.cell? ⟨g8, 5, none⟩ = some (.slice s'.A3 s'.n3 s'.c3) := (cell_of_heap HM8.out 5).trans rfl
        have m6 : w8.cell? ⟨g8, 6, none⟩ = some (.slice A2 n2 c2) := (cell_of_heap HM8.out 6).trans rfl
        have z0 : w8.cell? ⟨g + 1, 0, none⟩ = some (.int .i64 0) := (cell_of_heap HI8.out 0).trans rfl
        have y0 : w8.frozen? ⟨g + 1, 0, none⟩ = false := frz_raw HI8.out 0
        have z1 : w8.cell? ⟨g + 1, 1, none⟩ = some (.int .i64 0) := (cell_of_heap HI8.out 1).trans rfl
        have y1 : w8.frozen? ⟨g + 1, 1, none⟩ = false := frz_raw HI8.out 1
        have z2 : w8.cell? ⟨g + 1, 2, none⟩ = some (.slice none 0 0) := (cell_of_heap HI8.out 2).trans rfl
        have y2 : w8.frozen? ⟨g + 1, 2, none⟩ = false := frz_raw HI8.out 2
        have z3 : w8.cell? ⟨g + 1, 3, none⟩ = some (.slice none 0 0) := (cell_of_heap HI8.out 3).trans rfl
        have y3 : w8.frozen? ⟨g + 1, 3, none⟩ = false := frz_raw HI8.out 3
        have z4 : w8.cell? ⟨g + 1, 4, none⟩ = some (.slice none 0 0) := (cell_of_heap HI8.out 4).trans rfl
        have y4 : w8.frozen? ⟨g + 1, 4, none⟩ = false := frz_raw HI8.out 4
        have z5 : w8.cell? ⟨g + 1, 5, none⟩ = some (.slice none 0 0) := (cell_of_heap HI8.out 5).trans rfl
        have y5 : w8.frozen? ⟨g + 1, 5, none⟩ = false := frz_raw HI8.out 5
        have z6 : w8.cell? ⟨g + 1, 6, none⟩ = some (.slice none 0 0) := (cell_of_heap HI8.out 6).trans rfl
        have y6 : w8.frozen? ⟨g + 1, 6, none⟩ = false := frz_raw HI8.out 6
        go_upto_region 16 with fail
        go_region
        go_wp2_with fail
        refine bodyPost_ret (v := .tuple #[.int .i64 (n2 : Int), .bool true, .agg #[.int .i64 x.bi, .int .i64 x.bt, .slice s'.A0 s'.n0 s'.c0, .slice s'.A1 s'.n1 s'.c1, .slice s'.A2 s'.n2 s'.c2, .slice s'.A3 s'.n3 s'.c3, .slice A2 n2 c2]]) (by simp [results, Try.results78, go_sem, z0, z1, z2, z3, z4, z5, z6]; try rfl) rfl ?_
        clear z0 z1 z2 z3 z4 z5 z6 y0 y1 y2 y3 y4 y5 y6 m0 m1 m2 m3 m4 m5 m6 a16
        have hn1p : g + 1 ≠ p := by have := HPL.out; omega
        rw [HZS.out]
        have hzl : zs.length = n2 := HN2.out.symm
        have NNZ : (Value.slice none 0 0).ownBlock ≠ some (g + 1) := fun e => by cases e
        have HWG1 : W.heap.size ≤ g + 1 := by have := HG.out; omega
        have HCW : Hid (CfgN (((((((w8.setCell ⟨g + 1, 0, none⟩ (.int .i64 x.bi)).setCell ⟨g + 1, 1, none⟩ (.int .i64 x.bt)).setCell ⟨g + 1, 2, none⟩ (.slice s'.A0 s'.n0 s'.c0)).setCell ⟨g + 1, 3, none⟩ (.slice s'.A1 s'.n1 s'.c1)).setCell ⟨g + 1, 4, none⟩ (.slice s'.A2 s'.n2 s'.c2)).setCell ⟨g + 1, 5, none⟩ (.slice s'.A3 s'.n3 s'.c3)).setCell ⟨g + 1, 6, none⟩ (.slice A2 n2 c2)) w6.heap.size s' cf) := Lib.hid (HCN8.out.hi (Hi.set' (Hi.set' (Hi.set' (Hi.set' (Hi.set' (Hi.set' (Hi.set' (Hi.refl w6.heap.size w8) HG6.out 0 (.int .i64 x.bi)) HG6.out 1 (.int .i64 x.bt)) HG6.out 2 (.slice s'.A0 s'.n0 s'.c0)) HG6.out 3 (.slice s'.A1 s'.n1 s'.c1)) HG6.out 4 (.slice s'.A2 s'.n2 s'.c2)) HG6.out 5 (.slice s'.A3 s'.n3 s'.c3)) HG6.out 6 (.slice A2 n2 c2)))
        have HBW : Hid (BytesIn (((((((w8.setCell ⟨g + 1, 0, none⟩ (.int .i64 x.bi)).setCell ⟨g + 1, 1, none⟩ (.int .i64 x.bt)).setCell ⟨g + 1, 2, none⟩ (.slice s'.A0 s'.n0 s'.c0)).setCell ⟨g + 1, 3, none⟩ (.slice s'.A1 s'.n1 s'.c1)).setCell ⟨g + 1, 4, none⟩ (.slice s'.A2 s'.n2 s'.c2)).setCell ⟨g + 1, 5, none⟩ (.slice s'.A3 s'.n3 s'.c3)).setCell ⟨g + 1, 6, none⟩ (.slice A2 n2 c2)) (.slice A2 n2 c2) zs) := Lib.hid (bytes_far (bytes_far (bytes_far (bytes_far (bytes_far (bytes_far (bytes_far (HBY8.out) (g + 1) 0 (.int .i64 x.bi) HG1.out) (g + 1) 1 (.int .i64 x.bt) HG1.out) (g + 1) 2 (.slice s'.A0 s'.n0 s'.c0) HG1.out) (g + 1) 3 (.slice s'.A1 s'.n1 s'.c1) HG1.out) (g + 1) 4 (.slice s'.A2 s'.n2 s'.c2) HG1.out) (g + 1) 5 (.slice s'.A3 s'.n3 s'.c3) HG1.out) (g + 1) 6 (.slice A2 n2 c2) HG1.out)
        have HRW : Hid (RAt p 0 0 0 0 false none 0 0 [] (((((((w8.setCell ⟨g + 1, 0, none⟩ (.int .i64 x.bi)).setCell ⟨g + 1, 1, none⟩ (.int .i64 x.bt)).setCell ⟨g + 1, 2, none⟩ (.slice s'.A0 s'.n0 s'.c0)).setCell ⟨g + 1, 3, none⟩ (.slice s'.A1 s'.n1 s'.c1)).setCell ⟨g + 1, 4, none⟩ (.slice s'.A2 s'.n2 s'.c2)).setCell ⟨g + 1, 5, none⟩ (.slice s'.A3 s'.n3 s'.c3)).setCell ⟨g + 1, 6, none⟩ (.slice A2 n2 c2))) := Lib.hid (RAt.far (RAt.far (RAt.far (RAt.far (RAt.far (RAt.far (RAt.far (HR8.out) (g + 1) 0 (.int .i64 x.bi) hn1p NNZ) (g + 1) 1 (.int .i64 x.bt) hn1p NNZ) (g + 1) 2 (.slice s'.A0 s'.n0 s'.c0) hn1p NNZ) (g + 1) 3 (.slice s'.A1 s'.n1 s'.c1) hn1p NNZ) (g + 1) 4 (.slice s'.A2 s'.n2 s'.c2) hn1p NNZ) (g + 1) 5 (.slice s'.A3 s'.n3 s'.c3) hn1p NNZ) (g + 1) 6 (.slice A2 n2 c2) hn1p NNZ)
        have HFW : Hid (Fr p A n c W (((((((w8.setCell ⟨g + 1, 0, none⟩ (.int .i64 x.bi)).setCell ⟨g + 1, 1, none⟩ (.int .i64 x.bt)).setCell ⟨g + 1, 2, none⟩ (.slice s'.A0 s'.n0 s'.c0)).setCell ⟨g + 1, 3, none⟩ (.slice s'.A1 s'.n1 s'.c1)).setCell ⟨g + 1, 4, none⟩ (.slice s'.A2 s'.n2 s'.c2)).setCell ⟨g + 1, 5, none⟩ (.slice s'.A3 s'.n3 s'.c3)).setCell ⟨g + 1, 6, none⟩ (.slice A2 n2 c2))) := Lib.hid (Fr.far (Fr.far (Fr.far (Fr.far (Fr.far (Fr.far (Fr.far (HF9.out) (q := g + 1) HWG1 0 (.int .i64 x.bi)) (q := g + 1) HWG1 1 (.int .i64 x.bt)) (q := g + 1) HWG1 2 (.slice s'.A0 s'.n0 s'.c0)) (q := g + 1) HWG1 3 (.slice s'.A1 s'.n1 s'.c1)) (q := g + 1) HWG1 4 (.slice s'.A2 s'.n2 s'.c2)) (q := g + 1) HWG1 5 (.slice s'.A3 s'.n3 s'.c3)) (q := g + 1) HWG1 6 (.slice A2 n2 c2))
        generalize (((((((w8.setCell ⟨g + 1, 0, none⟩ (.int .i64 x.bi)).setCell ⟨g + 1, 1, none⟩ (.int .i64 x.bt)).setCell ⟨g + 1, 2, none⟩ (.slice s'.A0 s'.n0 s'.c0)).setCell ⟨g + 1, 3, none⟩ (.slice s'.A1 s'.n1 s'.c1)).setCell ⟨g + 1, 4, none⟩ (.slice s'.A2 s'.n2 s'.c2)).setCell ⟨g + 1, 5, none⟩ (.slice s'.A3 s'.n3 s'.c3)).setCell ⟨g + 1, 6, none⟩ (.slice A2 n2 c2)) = w9 at *
        have HOD9 : Hid (Ok w9 w9.drew) := Lib.hid (Ok.refl w9).drew
        refine .inr ⟨hzl, ⟨s', A2, c2, by rw [hzl], (HCW.out.hi (Hi.ok HOD9.out)).mono HW6.out, by rw [hzl]; exact HOD9.out.bytes HBW.out⟩, HRW.out.ok HOD9.out, HFW.out.ok HOD9.out⟩
end Go.Proofs.Ytolfdncmlfnbdaa
