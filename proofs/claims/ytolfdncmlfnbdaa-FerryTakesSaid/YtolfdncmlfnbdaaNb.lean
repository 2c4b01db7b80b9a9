/- Proved: the law FerryTakes of layer 13 returns true of any letters and any number, and leaves what was there as it was (no condition). -/
import Derived.Test.YtolfdncmlfnbdaaNa
import Derived.Test.YtolfdncmlfnbdaaKl
import Derived.Test.YtolfdncmlfnbdaaKr
import Derived.Test.YtolfdncmlfnbdaaK
namespace Go.Proofs.Ytolfdncmlfnbdaa
open Go.RowKit
theorem box7_new (w : World) (z : Array Value) (hz : z.size = 7) (q : IR) (m : Im) : (w.alloc (.cells z 97)).there w.heap.size 0 (q.cells m).toArray.size ∧ Ok w ((w.alloc (.cells z 97)).setCells w.heap.size 0 (q.cells m)) ∧ ((w.alloc (.cells z 97)).setCells w.heap.size 0 (q.cells m)).rangeAt w.heap.size 0 (q.cells m) := by
  have h : (w.alloc (.cells z 97)).there w.heap.size 0 7 := there_raw (heap_alloc_new w _) (by omega)
  exact ⟨h, setCells_ok w.heap.size w (Nat.le_refl _) _ 0 _ ((Ok.refl w).alloc _), World.rangeAt_setCells_same _ w.heap.size 0 (q.cells m) h⟩
def TakeG (p : Nat) (f2 : FState) (at1 : Nat) (dn : Bool) (im : Im) (A : Option Addr) (n c : Nat) (W : World) (e : Ending) (w' : World) : Prop :=
  ∃ (q : IR) (A' : Option Addr) (n' c' : Nat), e = .returned (.tuple #[.int .i64 (at1 : Int), .bool dn, .agg (q.cells im).toArray]) ∧
    FatF p f2 A' n' c' w' ∧ (∀ j, j < W.heap.size → (Value.slice A' n' c').ownBlock = some j → (Value.slice A n c).ownBlock = some j) ∧ Fr p A n c W w' ∧ ImN w' W.heap.size q im A' n' c'
def RTakeG (p : Nat) (f2 : FState) (at1 : Nat) (dn : Bool) (im : Im) (A : Option Addr) (n c : Nat) (W : World) (e : Ending) (w' : World) : Prop :=
  ∃ (q : IR) (A' : Option Addr) (n' c' : Nat), e = .returned (.tuple #[.int .i64 (at1 : Int), .bool dn, .agg (q.cells im).toArray]) ∧
    RatF p f2 A' n' c' w' ∧ (∀ j, j < W.heap.size → (Value.slice A' n' c').ownBlock = some j → (Value.slice A n c).ownBlock = some j) ∧ Fr p A n c W w' ∧ ImAt w' q im
theorem takeG_of {p : Nat} {f f2 : FState} {at1 : Nat} {dn : Bool} {im : Im} {A : Option Addr} {n c : Nat} {x : Lt} {m : Nat} {W : World} {e : Ending} {w' : World} (hx : f.next x m = (f2, at1, dn, im)) (h : TakeR p f A n c x m W e w') : TakeG p f2 at1 dn im A n c W e w' := by
  unfold TakeR at h
  rw [hx] at h
  exact h
theorem rtakeG_of {p : Nat} {f f2 : FState} {at1 : Nat} {dn : Bool} {im : Im} {A : Option Addr} {n c : Nat} {x : Lt} {m : Nat} {W : World} {e : Ending} {w' : World} (hx : f.next x m = (f2, at1, dn, im)) (h : RTakeR p f A n c x m W e w') : RTakeG p f2 at1 dn im A n c W e w' := by
  unfold RTakeR at h
  rw [hx] at h
  exact h
theorem sameI_v (r q : IR) (x : Im) (W : World) (h : ImAt W r x) (h2 : ImAt W q x) : Calls Try.prog 79 #[.agg (r.cells x).toArray, .agg (q.cells x).toArray] W (Ret W (.bool true)) := sameImage_w r q x W h h2
theorem wanted_if {c : Bool} {p q : Prop} (h : c = true) (hp : p) : if c = true then p else q := by rw [if_pos h]; exact hp
theorem imAt_own {w : World} {B : Nat} {q : IR} {m : Im} (h : CfgOwn w B q.s m.cfg) (hb : OwnN w B (.slice q.A q.n q.c) m.bytes) (hf : Fine m.cfg) (hl : m.bytes.length ≤ 131072) : ImAt w q m :=
  ⟨⟨_, _, _, _, rfl, h.h0.ints (by have := hf.1; omega), h.h1.ints (by have := hf.2.1; omega), h.h2.ints (by have := hf.2.2.1; omega), h.h3.ints (by have := hf.2.2.2; omega)⟩, hb.bytes (by omega)⟩
theorem ImN.rng {w : World} {B : Nat} {q : IR} {m : Im} {A : Option Addr} {n c : Nat} (h : ImN w B q m A n c) : ∀ b, (CBlk q.s b ∨ Blk (.slice q.A q.n q.c) b) → B ≤ b ∧ b < w.heap.size := fun b e => by
  rcases e with (e | e | e | e) | e
  · exact World.ownsRow.lt h.cfg.h0 b e
  · exact World.ownsRow.lt h.cfg.h1 b e
  · exact World.ownsRow.lt h.cfg.h2 b e
  · exact World.ownsRow.lt h.cfg.h3 b e
  · exact World.ownsRow.lt h.bytes b e
theorem next_fine {f : FState} {x : Lt} {m : Nat} (h : Fine x.cfg) : Fine (f.next x m).2.2.2.cfg := by
  unfold FState.next
  cases Outc f.tm f.i f.t f.sz f.u f.xs x m with
  | none => exact ⟨Nat.zero_le _, Nat.zero_le _, Nat.zero_le _, Nat.zero_le _⟩
  | some zs =>
    simp only
    split
    · exact h
    · exact ⟨Nat.zero_le _, Nat.zero_le _, Nat.zero_le _, Nat.zero_le _⟩
theorem ovI_v (q : IR) (m : Im) (W : World) (h : CfgW W q.s) (hb : RowW W (.slice q.A q.n q.c)) : Calls Try.prog 80 #[.agg (q.cells m).toArray] W (OvP (fun b => CBlk q.s b ∨ Blk (.slice q.A q.n q.c) b) W) := ovImage_w m.bi m.bt q.s q.A q.n q.c W h hb
theorem own_len {w : World} {B e sz m : Nat} {A : Option Addr} {n c : Nat} {xs : List Value} (h : w.ownsRow B e sz (.slice A n c) m xs) : n = m := by
  rcases h.2 with ⟨e, h0⟩ | ⟨b, cap, cur, e, -⟩
  · simp only [Value.slice.injEq] at e; omega
  · simp only [Value.slice.injEq] at e; exact e.2.1
theorem ownW_of {w : World} {B e : Nat} {A : Option Addr} {n c m : Nat} {xs : List Value} (h : w.ownsRow B e 1 (.slice A n c) m xs) (hm : m ≤ 1000000) : RowW w (.slice A n c) := by
  obtain rfl := own_len h
  exact own_W h hm
theorem tch_below {P : Nat → Prop} {W w w' : World} (k : Ok W w) (t : Tch P w w') (h : ∀ b, P b → W.heap.size ≤ b) : Ok W w' :=
  Below.trans k ⟨t.os, t.tape, t.output, t.size, fun j hj => t.same j (Nat.lt_of_lt_of_le hj (ok_le k)) (fun q => by have := h j q; omega)⟩
theorem range_tch {P : Nat → Prop} {w w' : World} {b o : Nat} {cs : List Value} (h : w.rangeAt b o cs) (hb : b < w.heap.size) (t : Tch P w w') (hp : ¬ P b) : w'.rangeAt b o cs := range_block h (t.same b hb hp)
theorem ovL_v (r : LR) (x : Lt) (B : Nat) (W0 W : World) (h : LtL W0 B r x) (k : Hi B W0 W) : Calls Try.prog 70 #[.agg (r.cells x).toArray] W (OvP (fun b => B ≤ b ∧ b < W0.heap.size) W) := ovLetter_w r x B W0 W h k
theorem lent_v (r : LR) (x : Lt) (W : World) (h : LtAt W r x) (hs : LtLe x) : Calls Try.prog 65 #[.agg (r.cells x).toArray] W fun e w' => ∃ r' : LR, e = .returned (.agg (r'.cells x).toArray) ∧ LtL w' W.heap.size r' x ∧ Ok W w' := lentLetter_w r x W h hs
theorem Fr.hi {p : Nat} {A : Option Addr} {n c B : Nat} {w w' : World} (k : Fr p A n c w w') (hp : p < B) (ho : ∀ b, (Value.slice A n c).ownBlock = some b → b < B) : Hi B w w' :=
  ⟨k.size, fun b h1 h2 => k.block b h2 (by omega) (fun e => by have := ho b e; omega)⟩
theorem ftake_five (v : Value) (W : World) (hn : ∀ V, Ok W V → Calls Try.prog 134 #[v] V fun e w' => e = .returned (.bool true) ∧ Ok V w') : Calls Try.prog 77 #[v, .agg #[.int .u8 5, .int .i64 0, .int .i64 0, .int .i64 0, .int .i64 0, .int .i64 0, .int .i64 0, .int .i64 0, .bool false, .slice none 0 0, .int .i64 0, .int .i64 0, .slice none 0 0, .slice none 0 0, .slice none 0 0, .slice none 0 0, .int .i64 0, .int .i64 0, .int .i64 0, .slice none 0 0]] W fun e w' => e = .returned (.tuple #[.int .i64 0, .bool false, .agg (q0.cells im0).toArray]) ∧ Ok W w' :=
  ftake_none v ⟨none, 0, ⟨none, 0, 0, none, 0, 0, none, 0, 0, none, 0, 0⟩, none, 0, 0⟩ ⟨5, 0, 0, 0, 0, 0, 0, 0, false, [], 0, 0, ⟨[], [], [], []⟩, 0, 0, 0, []⟩ W hn
theorem im0_at (w : World) : ImAt w q0 im0 := imAt_own (cfgOwn0 w 0) (OwnN.nil w 0) (by simp [Fine, im0]) (by simp [im0])
theorem sameZ (W : World) : Calls Try.prog 79 #[.agg #[.int .i64 0, .int .i64 0, .slice none 0 0, .slice none 0 0, .slice none 0 0, .slice none 0 0, .slice none 0 0], .agg #[.int .i64 0, .int .i64 0, .slice none 0 0, .slice none 0 0, .slice none 0 0, .slice none 0 0, .slice none 0 0]] W (Ret W (.bool true)) := sameI_v q0 q0 im0 W (im0_at W) (im0_at W)
set_option maxRecDepth 100000 in
set_option maxHeartbeats 8000000 in
theorem ferryTakes_w (A0 : Option Addr) (n c : Nat) (l : List Lt) (dz : Int) (W : World) (hn : l.length = n) (hn6 : n ≤ 17592186044416) (h : LtsIn W A0 l) : Calls Try.prog 9 #[.slice A0 n c, .int .i64 dz] W (Ret W (.bool true)) := by
  have HL := Lib.hid h
  have HN := Lib.hid hn
  have HN6 := Lib.hid hn6
  clear h hn hn6
  go_enter Try.func9, Try.ntmps9
  go_wp2_with fail
  (with_reducible refine (awake_f W).mono ?_)
  rintro _ w1 ⟨rfl, o1⟩
  have HO1 := Lib.hid o1
  clear o1
  have HGR := Lib.hid (great_w A0 n c l HN.out HN6.out w1 (HL.out.ok HO1.out))
  go_wp2_with fail
  (with_reducible refine HGR.out.mono ?_)
  rintro _ w2 ⟨big, rfl, o2, hbig⟩
  have HO2 := Lib.hid (HO1.out.trans o2)
  clear o2 HGR HO1
  cases big with
  | true =>
    go_wp2_with fail
    go_ret
    exact ⟨rfl, HO2.out⟩
  | false =>
  have HBIG := Lib.hid (hbig rfl)
  clear hbig
  go_wp2_with fail
  (with_reducible refine (fnew_f w2).mono ?_)
  rintro _ w3 ⟨rfl, hf, o3, hsz⟩
  obtain ⟨p, hp⟩ : ∃ p, w2.heap.size = p := ⟨_, rfl⟩
  rw [hp] at hf hsz ⊢
  have HF3 := Lib.hid hf
  have HO3 := Lib.hid (HO2.out.trans o3)
  have HPW : Hid (W.heap.size ≤ p ∧ w3.heap.size = p + 1) := Lib.hid ⟨by rw [← hp]; exact ok_le HO2.out, hsz⟩
  clear hf o3 hsz hp HO2
  go_wp2_with fail
  (with_reducible refine (rnew_f w3).mono ?_)
  rintro _ w4 ⟨rfl, hr, o4⟩
  obtain ⟨q, hq⟩ : ∃ q, w3.heap.size = q := ⟨_, rfl⟩
  rw [hq] at hr ⊢
  have HO4 := Lib.hid (HO3.out.trans o4)
  have HTW : Hid (Two p q fs0 none 0 0 none 0 0 w4) := Lib.hid ⟨HF3.out.ok o4, hr, (fun e => by cases e), (by have := HPW.out.2; omega), (fun e => by cases e), fun b e => by cases e⟩
  have HPQ : Hid (W.heap.size ≤ p ∧ p < q) := Lib.hid ⟨HPW.out.1, by have := HPW.out.2; omega⟩
  clear hr o4 hq HO3 HF3 HPW
  go_upto_region 7 with fail
  go_loopw [7] (fun i wr => ∃ (k : Nat) (f : FState) (A : Option Addr) (na ca : Nat) (B : Option Addr) (nb cb : Nat), k ≤ n ∧ i = .int .i64 (k : Int) ∧ Two p q f A na ca B nb cb wr ∧ Ok W wr) (fun i _ => n - (intOf i).toNat)
  case atStart => exact ⟨0, fs0, none, 0, 0, none, 0, 0, Nat.zero_le _, rfl, HTW.out, HO4.out⟩
  case round =>
    clear HTW HO4
    obtain ⟨k, f, A, na, ca, B, nb, cb, hk, rfl, htw, okr⟩ := hrel
    have HTR := Lib.hid htw
    have HOR := Lib.hid okr
    clear htw okr
    by_cases hlt : k < n
    · have d1 : decide (k < n) = true := decide_eq_true hlt
      have hj0 : (0 : Int) ≤ (k : Int) := Int.natCast_nonneg _
      have hj1 : (k : Int) < (n : Int) := by omega
      have hk5 : k ≤ 100 := by have := HBIG.out.1; have := HN.out; omega
      have HMS : Hid (n - (k + 1) < n - k) := Lib.hid (by omega)
      have HLK : Hid (k + 1 ≤ n) := Lib.hid hlt
      obtain ⟨b, off, r, rfl, hx, hrg⟩ := HL.out k (by rw [HN.out]; exact hlt)
      have HX := Lib.hid hx
      have HRG := Lib.hid hrg
      have HLS := Lib.hid (HBIG.out.2 k (by rw [HN.out]; exact hlt))
      have HLE := Lib.hid HLS.out.le
      have HIN := Lib.hid (info95' r (ltA l k))
      clear hx hrg hlt hk
      generalize ltA l k = x at *
      obtain ⟨de, hde⟩ : ∃ de : Bool, ((k : Int) == dz) = de := ⟨_, rfl⟩
      go_upto_if 36 with fail
      go_cut [37] from 37 to 40 (fun _ wx => ∃ (f : FState) (A : Option Addr) (na ca : Nat) (B : Option Addr) (nb cb : Nat), Two p q f A na ca B nb cb wx ∧ Ok W wx)
      case first =>
        cases de with
        | true =>
          have HDR := Lib.hid (drop_f p f.tm f.i f.t f.sz f.u A na ca f.xs wr HTR.out.fa)
          go_wp2_with fail
          (with_reducible refine HDR.out.mono ?_)
          rintro _ w5 ⟨rfl, hf5, hfr5⟩
          have HR5 : Hid (RatF q f B nb cb w5) := Lib.hid (HTR.out.dropA hfr5)
          have HF5 := Lib.hid hf5
          have HO5 : Hid (Ok W w5) := Lib.hid (Below.trans HOR.out (hfr5.below HTR.out.fa HPQ.out.1))
          clear hf5 hfr5
          have HDS := Lib.hid (rdrop_g q f.tm f.i f.t f.sz f.u B nb cb f.xs w5 HR5.out)
          go_wp2_with fail
          (with_reducible refine HDS.out.mono ?_)
          rintro _ w6 ⟨rfl, hr6, hfr6⟩
          have HF6 : Hid (FatF p fs0 none 0 0 w6) := Lib.hid (FatF.fr (f := fs0) HF5.out hfr6 (by have := HPQ.out.2; omega) (fun e => by cases e) (fun e => by cases e) (fun b e => by cases e))
          have HO6 : Hid (Ok W w6) := Lib.hid (Below.trans HO5.out ⟨hfr6.os, hfr6.tape, hfr6.output, hfr6.size, fun j hj => hfr6.block j (by have := ok_le HO5.out; omega) (by have := HPQ.out; omega) (fun e => by cases e)⟩)
          have HR6 := Lib.hid hr6
          clear hr6 hfr6
          go_wp2_with fail
          go_meet
          exact ⟨fs0, none, 0, 0, none, 0, 0, ⟨HF6.out, HR6.out, (fun e => by cases e), HPQ.out.2, (fun e => by cases e), fun b e => by cases e⟩, HO6.out⟩
        | false =>
          go_wp2_with fail
          go_meet
          exact ⟨f, A, na, ca, B, nb, cb, HTR.out, HOR.out⟩
      case rest =>
      clear HTR HOR d1 hde
      obtain ⟨f, A, na, ca, B, nb, cb, htw, okc⟩ := hcut
      have HTC := Lib.hid htw
      have HOC := Lib.hid okc
      clear htw okc
      have HRC := Lib.hid (range_ok HRG.out HOC.out)
      go_upto_region 12 with fail
      go_wp2_with ((with_reducible show wpList _ _ _ (⟨_, .load 95 (.tmp 43), _, _, _, _⟩ :: _) _ _); refine wpList_load_mid rfl 95 (.tmp 43) rfl b (off + k * 20) rfl (r.cells x) _ HRC.out Try.underlying95 rfl HIN.out ?_)
      (with_reducible refine (lent_v r x wc (HX.out.ok HOC.out) HLE.out).mono ?_)
      rintro _ w5 ⟨ra, rfl, hlt5, o5⟩
      have HLT5 := Lib.hid hlt5
      have HD5 := Lib.hid o5
      clear hlt5 o5
      have HBX := Lib.hid (box_new w5 #[.int .u8 0, .int .i64 0, .int .i64 0, .int .i64 0, .int .i64 0, .int .i64 0, .int .i64 0, .int .i64 0, .bool false, .slice none 0 0, .int .i64 0, .int .i64 0, .slice none 0 0, .slice none 0 0, .slice none 0 0, .slice none 0 0, .int .i64 0, .int .i64 0, .int .i64 0, .slice none 0 0] rfl ra x)
      have HTZ := Lib.hid HBX.out.1
      have HD56 := Lib.hid HBX.out.2.1
      have HRI := Lib.hid HBX.out.2.2
      clear HBX
      go_upto_region 13 with ((with_reducible show wpList _ _ _ (⟨none, .store 95 (.tmp 8) (.tmp 45), _, _, _, _⟩ :: _) _ _); refine wpList_store_mid rfl 95 (.tmp 8) (.tmp 45) rfl w5.heap.size 0 (ra.cells x).toArray rfl rfl HTZ.out (info95a ra x) (cells_one ra x) ?_; rw [List.toList_toArray])
      obtain ⟨w6, hw6⟩ : ∃ w6, (w5.alloc (.cells #[.int .u8 0, .int .i64 0, .int .i64 0, .int .i64 0, .int .i64 0, .int .i64 0, .int .i64 0, .int .i64 0, .bool false, .slice none 0 0, .int .i64 0, .int .i64 0, .slice none 0 0, .slice none 0 0, .slice none 0 0, .slice none 0 0, .int .i64 0, .int .i64 0, .int .i64 0, .slice none 0 0] 95)).setCells w5.heap.size 0 (ra.cells x) = w6 := ⟨_, rfl⟩
      rw [hw6] at HD56 HRI ⊢
      obtain ⟨gi, hgi⟩ : ∃ gi, w5.heap.size = gi := ⟨_, rfl⟩
      rw [hgi] at HRI ⊢
      have HGI : Hid (wc.heap.size ≤ gi ∧ gi < w6.heap.size) := Lib.hid ⟨by rw [← hgi]; exact ok_le HD5.out, World.block_lt_of_cell? _ _ (HRI.out 0 _ rfl)⟩
      have HG5 : Hid (w5.heap.size = gi) := Lib.hid hgi
      clear hw6 hgi HTZ
      have HDC6 := Lib.hid (HD5.out.trans HD56.out)
      have HTW6 := Lib.hid (HTC.out.ok HDC6.out)
      have HOW6 := Lib.hid (HOC.out.trans HDC6.out)
      have HLT6 := Lib.hid (HLT5.out.hi (Hi.ok HD56.out))
      have HIA := Lib.hid (info95' ra x)
      have HOWN : Hid (p < wc.heap.size ∧ q < wc.heap.size ∧ (∀ b, (Value.slice A na ca).ownBlock = some b → b < wc.heap.size) ∧ (∀ b, (Value.slice B nb cb).ownBlock = some b → b < wc.heap.size)) := Lib.hid ⟨FAt.lt HTC.out.fa, RAt.lt HTC.out.ra, fun b e => (FAt.ownGe HTC.out.fa b e).2, fun b e => (RAt.ownGe HTC.out.ra b e).2⟩
      have HBN : Hid (ra.bn = r.bn) := Lib.hid (((BytesIn.len' HLT6.out.at.bytes).1).symm.trans (BytesIn.len' HX.out.bytes).1)
      have HXL : Hid (x.bytes.length = r.bn) := Lib.hid (BytesIn.len' HX.out.bytes).1
      have HINV2 := Lib.hid (FState.next_inv HTW6.out.inv HXL.out)
      have HLEN2 := Lib.hid (FState.next_len HTW6.out.inv HXL.out)
      have HFIN2 := Lib.hid (next_fine (f := f) (m := r.bn) HLE.out.cfg)
      obtain ⟨f2, at1, dn, im, hnx⟩ : ∃ f2 at1 dn im, f.next x r.bn = (f2, at1, dn, im) := ⟨_, _, _, _, rfl⟩
      rw [hnx] at HINV2 HLEN2 HFIN2
      have HNX := Lib.hid hnx
      clear hnx
      have HTK : Hid (Calls Try.prog 77 #[.pointer (some ⟨p, 0, none⟩), .agg (ra.cells x).toArray] w6 (TakeG p f2 at1 dn im A na ca w6)) := Lib.hid ((take_r ra x p f A na ca w6 HTW6.out.fa HTW6.out.inv (fun w' k => (HLT6.out.hi (k.hi HOWN.out.1 HOWN.out.2.2.1)).at) HLE.out.cfg).mono (fun e w' k => takeG_of (by rw [HBN.out]; exact HNX.out) k))
      go_wp2_with ((with_reducible show wpList _ _ _ (⟨_, .load 95 (.tmp 8), _, _, _, _⟩ :: _) _ _); refine wpList_load_mid rfl 95 (.tmp 8) rfl gi 0 rfl (ra.cells x) _ HRI.out Try.underlying95 rfl HIA.out ?_)
      (with_reducible refine HTK.out.mono ?_)
      rintro _ w7 ⟨q1, A1, n1, c1, rfl, hfa7, hown7, hfr7, him7⟩
      have HFA7 := Lib.hid hfa7
      have HOW7 := Lib.hid hown7
      have HFR7 := Lib.hid hfr7
      have HIM7 := Lib.hid him7
      have HSEC := Lib.hid (HTW6.out.first hown7 hfr7)
      have HOA1 : Hid (∀ b, (Value.slice A1 n1 c1).ownBlock = some b → b < wc.heap.size ∨ w6.heap.size ≤ b) := Lib.hid (fun b e => by
        by_cases hb : b < w6.heap.size
        · exact .inl (HOWN.out.2.2.1 b (hown7 b hb e))
        · exact .inr (by omega))
      have HHI7 : Hid (Hi wc.heap.size w6 w7) := Lib.hid (hfr7.hi HOWN.out.1 HOWN.out.2.2.1)
      have HOK7 : Hid (Ok W w7) := Lib.hid (Below.trans HOW6.out (hfr7.below HTW6.out.fa HPQ.out.1))
      have HLT7 : Hid (LtL w7 wc.heap.size ra x) := Lib.hid (HLT6.out.hi (hfr7.hi HOWN.out.1 HOWN.out.2.2.1))
      have HRI7 : Hid (w7.rangeAt gi 0 (ra.cells x)) := Lib.hid (range_block HRI.out (hfr7.block gi HGI.out.2 (by have h1 := HGI.out; have h2 := HOWN.out; omega) (fun e => by have h1 := HOWN.out.2.2.1 _ e; have h2 := HGI.out; omega)))
      have HS67 : Hid (w6.heap.size ≤ w7.heap.size) := Lib.hid hfr7.size
      clear hfa7 hown7 hfr7 him7 HTK
      have HBX := Lib.hid (box7_new w7 #[.int .i64 0, .int .i64 0, .slice none 0 0, .slice none 0 0, .slice none 0 0, .slice none 0 0, .slice none 0 0] rfl q1 im)
      have HTZ := Lib.hid HBX.out.1
      have HD78 := Lib.hid HBX.out.2.1
      have HRM := Lib.hid HBX.out.2.2
      clear HBX
      go_upto_region 14 with ((with_reducible show wpList _ _ _ (⟨none, .store 97 (.tmp 11) (.tmp 52), _, _, _, _⟩ :: _) _ _); refine wpList_store_mid rfl 97 (.tmp 11) (.tmp 52) rfl w7.heap.size 0 (q1.cells im).toArray rfl rfl HTZ.out (info97a q1 im) (cells_one7 q1 im) ?_; rw [List.toList_toArray])
      obtain ⟨w8, hw8⟩ : ∃ w8, (w7.alloc (.cells #[.int .i64 0, .int .i64 0, .slice none 0 0, .slice none 0 0, .slice none 0 0, .slice none 0 0, .slice none 0 0] 97)).setCells w7.heap.size 0 (q1.cells im) = w8 := ⟨_, rfl⟩
      rw [hw8] at HD78 HRM ⊢
      obtain ⟨gm, hgm⟩ : ∃ gm, w7.heap.size = gm := ⟨_, rfl⟩
      rw [hgm] at HRM ⊢
      have HG7 : Hid (w7.heap.size = gm) := Lib.hid hgm
      clear hw8 hgm HTZ
      have HFA8 := Lib.hid (FAt.ok HFA7.out HD78.out)
      have HRA8 := Lib.hid (RAt.ok HSEC.out.1 HD78.out)
      have HOK8 := Lib.hid (HOK7.out.trans HD78.out)
      have HRC8 := Lib.hid (range_ok HRG.out HOK8.out)
      have HRK : Hid (Calls Try.prog 78 #[.pointer (some ⟨q, 0, none⟩), .agg (r.cells x).toArray] w8 (RTakeG q f2 at1 dn im B nb cb w8)) := Lib.hid ((rtake_r r x q f B nb cb w8 HRA8.out HTW6.out.inv (fun w' k => HX.out.ok (Below.trans HOK8.out ⟨k.os, k.tape, k.output, k.size, fun j hj => k.block j (by have h1 := ok_le HOK8.out; omega) (by have := HPQ.out; omega) (fun e => by have h1 := (RAt.ownGe HRA8.out _ e).1; have h2 := HPQ.out; omega)⟩)) HLE.out.cfg (fun b' o s e h0 => by
        have h1 : b' < W.heap.size := by
          rcases HX.out.bytes with ⟨e1, -⟩ | ⟨b2, o2, c2, e2, -, -, e3⟩
          · have := HXL.out; rw [e1] at this; simp at this; omega
          · simp only [Value.slice.injEq] at e2
            rw [e2.1] at e
            cases e
            exact World.block_lt_of_cell? _ _ (e3 0 (by have := HXL.out; omega))
        intro e4
        have h2 := (RAt.ownGe HRA8.out _ e4).1
        have h3 := HPQ.out
        omega)).mono (fun e w' k => rtakeG_of HNX.out k))
      go_wp2_with ((with_reducible show wpList _ _ _ (⟨_, .load 95 (.tmp 57), _, _, _, _⟩ :: _) _ _); refine wpList_load_mid rfl 95 (.tmp 57) rfl b (off + k * 20) rfl (r.cells x) _ HRC8.out Try.underlying95 rfl HIN.out ?_)
      (with_reducible refine HRK.out.mono ?_)
      rintro _ w9 ⟨q2, B2, n2, c2, rfl, hra9, hown9, hfr9, him9⟩
      have HTW9 : Hid (Two p q f2 A1 n1 c1 B2 n2 c2 w9) := Lib.hid (Two.second HPQ.out.2 HINV2.out HFA8.out HRA8.out HSEC.out.2.1 HSEC.out.2.2 hra9 hown9 hfr9)
      have HIA9 := Lib.hid him9
      have HOWB : Hid (q < wc.heap.size ∧ ∀ b, (Value.slice B nb cb).ownBlock = some b → b < wc.heap.size) := Lib.hid ⟨HOWN.out.2.1, HOWN.out.2.2.2⟩
      have HLT9 : Hid (LtL w9 wc.heap.size ra x) := Lib.hid ((HLT7.out.hi (Hi.ok HD78.out)).hi (hfr9.hi HOWB.out.1 HOWB.out.2))
      have HRI9 : Hid (w9.rangeAt gi 0 (ra.cells x)) := Lib.hid (range_block (range_ok HRI7.out HD78.out) (hfr9.block gi (by have h1 := HGI.out.2; have h2 := HS67.out; have h3 := ok_le HD78.out; omega) (by have h1 := HGI.out; have h2 := HOWN.out; omega) (fun e => by have h1 := HOWB.out.2 _ e; have h2 := HGI.out; omega)))
      have HRM9 : Hid (w9.rangeAt gm 0 (q1.cells im)) := Lib.hid (range_block HRM.out (hfr9.block gm (World.block_lt_of_cell? _ _ (HRM.out 0 _ rfl)) (by have h1 := HGI.out; have h2 := HOWN.out; have h3 := HS67.out; have h4 := HG7.out; omega) (fun e => by have h1 := HOWB.out.2 _ e; have h2 := HGI.out; have h3 := HS67.out; have h4 := HG7.out; omega)))
      have HOK9 : Hid (Ok W w9) := Lib.hid (Below.trans HOK8.out ⟨hfr9.os, hfr9.tape, hfr9.output, hfr9.size, fun j hj => hfr9.block j (by have h1 := ok_le HOK8.out; omega) (by have := HPQ.out; omega) (fun e => by have h1 := (RAt.ownGe HRA8.out _ e).1; have h2 := HPQ.out; omega)⟩)
      have HB69 : Hid (w6.heap.size ≤ w9.heap.size ∧ wc.heap.size ≤ w6.heap.size ∧ w8.heap.size ≤ w9.heap.size) := Lib.hid ⟨by have h2 := HS67.out; have h3 := ok_le HD78.out; have h4 := hfr9.size; omega, ok_le HDC6.out, hfr9.size⟩
      have HIM9 : Hid (CfgOwn w9 w6.heap.size q1.s im.cfg ∧ OwnN w9 w6.heap.size (.slice q1.A q1.n q1.c) im.bytes) := Lib.hid ⟨(HIM7.out.cfg.ok HD78.out).fr hfr9 (by have h1 := HOWB.out.1; have h2 := HB69.out; omega) (fun j e => by have h1 := HOWB.out.2 _ e; have h2 := HB69.out; omega), (HIM7.out.bytes.okk HD78.out).fr hfr9 (by have h1 := HOWB.out.1; have h2 := HB69.out; omega) (fun j e => by have h1 := HOWB.out.2 _ e; have h2 := HB69.out; omega)⟩
      have HHI9 : Hid (Hi wc.heap.size w6 w9) := Lib.hid ((HHI7.out.trans (Hi.ok HD78.out)).trans (hfr9.hi HOWB.out.1 HOWB.out.2))
      have HOB2 : Hid (∀ b, (Value.slice B2 n2 c2).ownBlock = some b → b < wc.heap.size ∨ w8.heap.size ≤ b) := Lib.hid (fun b e => by
        by_cases hb : b < w8.heap.size
        · exact .inl (HOWB.out.2 b (hown9 b hb e))
        · exact .inr (by omega))
      have HRNG := Lib.hid HIM7.out.rng
      have HAPT := Lib.hid HIM7.out.apart
      have HS78 : Hid (w7.heap.size ≤ w8.heap.size) := Lib.hid (ok_le HD78.out)
      clear hra9 hown9 hfr9 him9 HRK HSEC HFA7 HOW7 HFR7 HIM7 HOK7 HLT7 HRI7 HFA8 HRA8 HOK8 HRC8 HLT5 HD5 HD56 HTW6 HOW6 HRI HRM
      have HBX := Lib.hid (box7_new w9 #[.int .i64 0, .int .i64 0, .slice none 0 0, .slice none 0 0, .slice none 0 0, .slice none 0 0, .slice none 0 0] rfl q2 im)
      have HTZ := Lib.hid HBX.out.1
      have HD9 := Lib.hid HBX.out.2.1
      have HRN := Lib.hid HBX.out.2.2
      clear HBX
      go_upto_region 15 with ((with_reducible show wpList _ _ _ (⟨none, .store 97 (.tmp 14) (.tmp 62), _, _, _, _⟩ :: _) _ _); refine wpList_store_mid rfl 97 (.tmp 14) (.tmp 62) rfl w9.heap.size 0 (q2.cells im).toArray rfl rfl HTZ.out (info97a q2 im) (cells_one7 q2 im) ?_; rw [List.toList_toArray])
      obtain ⟨w10, hw10⟩ : ∃ w10, (w9.alloc (.cells #[.int .i64 0, .int .i64 0, .slice none 0 0, .slice none 0 0, .slice none 0 0, .slice none 0 0, .slice none 0 0] 97)).setCells w9.heap.size 0 (q2.cells im) = w10 := ⟨_, rfl⟩
      rw [hw10] at HD9 HRN ⊢
      obtain ⟨gn, hgn⟩ : ∃ gn, w9.heap.size = gn := ⟨_, rfl⟩
      rw [hgn] at HRN ⊢
      clear hw10 hgn HTZ
      have HTW10 := Lib.hid (HTW9.out.ok HD9.out)
      have HOK10 := Lib.hid (HOK9.out.trans HD9.out)
      have HRI10 := Lib.hid (range_ok HRI9.out HD9.out)
      have HRM10 := Lib.hid (range_ok HRM9.out HD9.out)
      have HRC10 := Lib.hid (range_ok HRG.out HOK10.out)
      have HI7q := Lib.hid (info97' q1 im)
      have HI7r := Lib.hid (info97' q2 im)
      have HLT10 := Lib.hid (HLT9.out.hi (Hi.ok HD9.out))
      have HIM10 : Hid (ImAt w10 q1 im ∧ ImAt w10 q2 im) := Lib.hid ⟨imAt_own (HIM9.out.1.ok HD9.out) (HIM9.out.2.okk HD9.out) HFIN2.out HLEN2.out, HIA9.out.ok HD9.out⟩
      try go_frame
      obtain ⟨wd, rfl⟩ : ∃ wd, wd = wc := ⟨_, rfl⟩
      go_cut [85] from 63 to 85 (fun v wx => v = .bool false ∧ Ok w10 wx)
      case first =>
        rename_i K0 Q0 hK0
        have HKK := Lib.hid hK0
        clear hK0
        have dz1 : ((at1 : Int) != (at1 : Int)) = false := by simp
        have dz2 : (dn != dn) = false := by cases dn <;> rfl
        refine Until.begin (S := fun w => w.rangeAt gi 0 (ra.cells x) ∧ w.rangeAt b (off + k * 20) (r.cells x)) (j := 20) (by kernel_rfl) ?_ ?_
        · exact ⟨range_ok HRI10.out (Ok.refl w10).drew, range_ok HRC10.out (Ok.refl w10).drew⟩
        intro hS
        have HD : Hid (Ok w10 w10.drew) := Lib.hid ((Ok.refl w10).drew)
        generalize w10.drew = V0 at *
        refine Until.take0 (i := 0) (oi := ⟨some 63, .move (.tmp 9), _, _, _, _⟩) (v := ?v0q5) rfl (by kernel_rfl) (by kernel_rfl) (by kernel_rfl) (by kernel_rfl) (fun _ _ _ h => h) (Or.inl ⟨by rfl, ?hy0q5⟩) (fun _ => hS) ?rest0q5
        case hy0q5 => ((intro w hSw); clear hSw; go_simp; (try with_reducible rfl))
        try go_frame
        refine Until.take0 (i := 1) (oi := ⟨some 64, .move (.tmp 12), _, _, _, _⟩) (v := ?v1q8) rfl (by kernel_rfl) (by kernel_rfl) (by kernel_rfl) (by kernel_rfl) (fun _ _ _ h => h) (Or.inl ⟨by rfl, ?hy1q8⟩) (fun _ => hS) ?rest1q8
        case hy1q8 => ((intro w hSw); clear hSw; go_simp; (try with_reducible rfl))
        try go_frame
        refine Until.take0 (i := 2) (oi := ⟨some 65, .binOp .neq 3 (.tmp 63) (.tmp 64) 3, _, _, _, _⟩) (v := ?v2q11) rfl (by kernel_rfl) (by kernel_rfl) (by kernel_rfl) (by kernel_rfl) (fun _ _ _ h => h) (Or.inl ⟨by rfl, ?hy2q11⟩) (fun _ => hS) ?rest2q11
        case hy2q11 => ((intro w hSw); clear hSw; go_simp; (try with_reducible rfl))
        try go_frame
        refine Until.take0 (i := 3) (oi := ⟨some 66, .move (.tmp 65), _, _, _, _⟩) (v := ?v3q14) rfl (by kernel_rfl) (by kernel_rfl) (by kernel_rfl) (by kernel_rfl) (fun _ _ _ h => h) (Or.inl ⟨by rfl, ?hy3q14⟩) (fun _ => hS) ?rest3q14
        case hy3q14 => ((intro w hSw); clear hSw; go_simp; (try with_reducible rfl))
        try go_frame
        refine Until.take0 (i := 4) (oi := ⟨some 67, .move (.tmp 10), _, _, _, _⟩) (v := ?v4q17) rfl (by kernel_rfl) (by kernel_rfl) (by kernel_rfl) (by kernel_rfl) (fun _ _ _ h => h) (Or.inl ⟨by rfl, ?hy4q17⟩) (fun _ => hS) ?rest4q17
        case hy4q17 => ((intro w hSw); clear hSw; go_simp; (try with_reducible rfl))
        try go_frame
        refine Until.take0 (i := 5) (oi := ⟨some 68, .move (.tmp 13), _, _, _, _⟩) (v := ?v5q20) rfl (by kernel_rfl) (by kernel_rfl) (by kernel_rfl) (by kernel_rfl) (fun _ _ _ h => h) (Or.inl ⟨by rfl, ?hy5q20⟩) (fun _ => hS) ?rest5q20
        case hy5q20 => ((intro w hSw); clear hSw; go_simp; (try with_reducible rfl))
        try go_frame
        refine Until.take0 (i := 6) (oi := ⟨some 69, .binOp .neq 4 (.tmp 67) (.tmp 68) 4, _, _, _, _⟩) (v := ?v6q23) rfl (by kernel_rfl) (by kernel_rfl) (by kernel_rfl) (by kernel_rfl) (fun _ _ _ h => h) (Or.inl ⟨by rfl, ?hy6q23⟩) (fun _ => hS) ?rest6q23
        case hy6q23 => ((intro w hSw); clear hSw; go_simp; (try with_reducible rfl))
        try go_frame
        refine Until.take0 (i := 7) (oi := ⟨some 70, .pick (.tmp 66) (.const (.bool true)) (.tmp 69), _, _, _, _⟩) (v := ?v7q26) rfl (by kernel_rfl) (by kernel_rfl) (by kernel_rfl) (by kernel_rfl) (fun _ _ _ h => h) (Or.inl ⟨by rfl, ?hy7q26⟩) (fun _ => hS) ?rest7q26
        case hy7q26 => ((intro w hSw); clear hSw; go_simp; (try with_reducible rfl))
        try go_frame
        refine Until.take0 (i := 8) (oi := ⟨some 71, .move (.tmp 70), _, _, _, _⟩) (v := ?v8q29) rfl (by kernel_rfl) (by kernel_rfl) (by kernel_rfl) (by kernel_rfl) (fun _ _ _ h => h) (Or.inl ⟨by rfl, ?hy8q29⟩) (fun _ => hS) ?rest8q29
        case hy8q29 => ((intro w hSw); clear hSw; go_simp; (try with_reducible rfl))
        try go_frame
        refine Until.two (i := 9) (k := 10) (oi := ⟨some 72, .load 97 (.tmp 11), _, _, _, _⟩) (ok := ⟨some 73, .load 97 (.tmp 14), _, _, _, _⟩) (by kernel_rfl) rfl rfl (fun K hK => ?_) (fun K hK => ?_)
        · have HK := Lib.hid hK
          clear hK
          refine wanted_if (by rfl) ?_
          refine wp_load_mid 97 (.tmp 11) rfl gm 0 rfl (q1.cells im) _ (range_ok HRM10.out HD.out) Try.underlying97 rfl HI7q.out ?_
          refine HK.out.out _ _ (fun _ => hS) (fun _ => ?_)
          clear HK K
          try go_frame
          refine Until.one (i := 10) (o := ⟨some 73, .load 97 (.tmp 14), _, _, _, _⟩) (by kernel_rfl) rfl (fun K hK => ?_)
          have HK := Lib.hid hK
          clear hK
          refine wanted_if (by rfl) ?_
          refine wp_load_mid 97 (.tmp 14) rfl gn 0 rfl (q2.cells im) _ (range_ok HRN.out HD.out) Try.underlying97 rfl HI7r.out ?_
          refine HK.out.out _ _ (fun _ => hS) (fun _ => ?_)
          clear HK K
          try go_frame
          refine Until.one (i := 11) (by kernel_rfl) rfl (fun K hK => ?_)
          have HK := Lib.hid hK
          clear hK
          go_simp
          refine (sameI_v q1 q2 im V0 (HIM10.out.1.ok HD.out) (HIM10.out.2.ok HD.out)).mono ?_
          rintro _ V1 ⟨rfl, ok⟩
          have HD1 := Lib.hid ok
          have hS1 := (⟨range_ok hS.1 ok, range_ok hS.2 ok⟩ : _ ∧ _)
          clear ok
          refine HK.out.out _ _ (fun _ => hS1) (fun _ => ?_)
          clear hS
          have hS := hS1
          clear HK K hS1
          try go_frame
          refine Until.take0 (i := 12) (oi := ⟨some 75, .unOp .not 4 (.tmp 74), _, _, _, _⟩) (v := ?v12q62) rfl (by kernel_rfl) (by kernel_rfl) (by kernel_rfl) (by kernel_rfl) (fun _ _ _ h => h) (Or.inl ⟨by rfl, ?hy12q62⟩) (fun _ => hS) ?rest12q62
          case hy12q62 => ((intro w hSw); clear hSw; go_simp; (try with_reducible rfl))
          try go_frame
          refine Until.take0 (i := 13) (oi := ⟨some 76, .pick (.tmp 71) (.const (.bool true)) (.tmp 75), _, _, _, _⟩) (v := ?v13q65) rfl (by kernel_rfl) (by kernel_rfl) (by kernel_rfl) (by kernel_rfl) (fun _ _ _ h => h) (Or.inl ⟨by rfl, ?hy13q65⟩) (fun _ => hS) ?rest13q65
          case hy13q65 => ((intro w hSw); clear hSw; go_simp; (try with_reducible rfl))
          try go_frame
          refine Until.take0 (i := 14) (oi := ⟨some 77, .move (.tmp 76), _, _, _, _⟩) (v := ?v14q68) rfl (by kernel_rfl) (by kernel_rfl) (by kernel_rfl) (by kernel_rfl) (fun _ _ _ h => h) (Or.inl ⟨by rfl, ?hy14q68⟩) (fun _ => hS) ?rest14q68
          case hy14q68 => ((intro w hSw); clear hSw; go_simp; (try with_reducible rfl))
          try go_frame
          refine Until.take0 (i := 16) (oi := ⟨some 79, .move (.tmp 0), _, _, _, _⟩) (v := ?v16q71) rfl (by kernel_rfl) (by kernel_rfl) (by kernel_rfl) (by kernel_rfl) (fun _ _ _ h => h) (Or.inl ⟨by rfl, ?hy16q71⟩) (fun _ => hS) ?rest16q71
          case hy16q71 => ((intro w hSw); clear hSw; go_simp; (try with_reducible rfl))
          try go_frame
          refine Until.take0 (i := 17) (oi := ⟨some 80, .move (.tmp 7), _, _, _, _⟩) (v := ?v17q74) rfl (by kernel_rfl) (by kernel_rfl) (by kernel_rfl) (by kernel_rfl) (fun _ _ _ h => h) (Or.inl ⟨by rfl, ?hy17q74⟩) (fun _ => hS) ?rest17q74
          case hy17q74 => ((intro w hSw); clear hSw; go_simp; (try with_reducible rfl))
          try go_frame
          refine Until.take (i := 15) (oi := ⟨some 78, .load 95 (.tmp 8), _, _, _, _⟩) (v := .agg (ra.cells x).toArray) rfl (by kernel_rfl) (by kernel_rfl) (by kernel_rfl) (by kernel_rfl) (fun _ _ _ h => h) (yieldsIf_load_mid (by rfl) 95 (.tmp 8) rfl gi 0 rfl (ra.cells x) _ (fun _ h => h.1) Try.underlying95 rfl HIA.out) hS ?_
          try go_frame
          refine Until.take0 (i := 18) (oi := ⟨some 81, .indexAddr 99 (.tmp 79) (.tmp 80), _, _, _, _⟩) (v := ?v18q79) rfl (by kernel_rfl) (by kernel_rfl) (by kernel_rfl) (by kernel_rfl) (fun _ _ _ h => h) (Or.inl ⟨by rfl, ?hy18q79⟩) (fun _ => hS) ?rest18q79
          case hy18q79 => ((intro w hSw); clear hSw; go_simp; (try with_reducible rfl))
          try go_frame
          refine Until.take (i := 19) (oi := ⟨some 82, .load 95 (.tmp 81), _, _, _, _⟩) (v := .agg (r.cells x).toArray) rfl (by kernel_rfl) (by kernel_rfl) (by kernel_rfl) (by kernel_rfl) (fun _ _ _ h => h) (yieldsIf_load_mid (by rfl) 95 (.tmp 81) rfl b (off + k * 20) rfl (r.cells x) _ (fun _ h => h.2) Try.underlying95 rfl HIN.out) hS ?_
          try go_frame
          refine Until.one (i := 20) (by kernel_rfl) rfl (fun K hK => ?_)
          have HK := Lib.hid hK
          clear hK
          go_simp
          refine (kept_v wd.heap.size ra r x V1 (HLT10.out.hi (Hi.ok (HD.out.trans HD1.out))) (HX.out.ok (HOK10.out.trans (HD.out.trans HD1.out)))).mono ?_
          rintro _ V2 ⟨rfl, ok⟩
          have HD2 := Lib.hid ok
          clear ok
          refine HK.out.out _ _ (fun h => absurd (h.symm.trans (by kernel_rfl : _ = true)) Bool.false_ne_true) (fun _ => ?_)
          clear HK K
          try go_frame
          refine Until.take0 (i := 21) (oi := ⟨some 84, .unOp .not 4 (.tmp 83), _, _, _, _⟩) (v := ?v21q95) rfl (by kernel_rfl) (by kernel_rfl) (by kernel_rfl) (by kernel_rfl) (fun _ _ _ h => h) (Or.inl ⟨by rfl, ?hy21q95⟩) (fun h => absurd (h.symm.trans (by kernel_rfl : _ = true)) Bool.false_ne_true) ?rest21q95
          case hy21q95 => ((intro w hSw); clear hSw; go_simp; (try with_reducible rfl))
          try go_frame
          refine Until.take0 (i := 22) (oi := ⟨some 85, .pick (.tmp 77) (.const (.bool true)) (.tmp 84), _, _, _, _⟩) (v := ?v22q98) rfl (by kernel_rfl) (by kernel_rfl) (by kernel_rfl) (by kernel_rfl) (fun _ _ _ h => h) (Or.inl ⟨by rfl, ?hy22q98⟩) (fun h => absurd (h.symm.trans (by kernel_rfl : _ = true)) Bool.false_ne_true) ?rest22q98
          case hy22q98 => ((intro w hSw); clear hSw; go_simp; (try with_reducible rfl))
          try go_frame
          refine Until.done (by kernel_rfl) ?_ _
          refine HKK.out _ _ ?_
          go_wp2_with fail
          go_meet
          exact ⟨rfl, HD.out.trans (HD1.out.trans HD2.out)⟩
        · have HK := Lib.hid hK
          clear hK
          refine wanted_if (by rfl) ?_
          refine wp_load_mid 97 (.tmp 14) rfl gn 0 rfl (q2.cells im) _ (range_ok HRN.out HD.out) Try.underlying97 rfl HI7r.out ?_
          refine HK.out.out _ _ (fun _ => hS) (fun _ => ?_)
          clear HK K
          try go_frame
          refine Until.one (i := 9) (o := ⟨some 72, .load 97 (.tmp 11), _, _, _, _⟩) (by kernel_rfl) rfl (fun K hK => ?_)
          have HK := Lib.hid hK
          clear hK
          refine wanted_if (by rfl) ?_
          refine wp_load_mid 97 (.tmp 11) rfl gm 0 rfl (q1.cells im) _ (range_ok HRM10.out HD.out) Try.underlying97 rfl HI7q.out ?_
          refine HK.out.out _ _ (fun _ => hS) (fun _ => ?_)
          clear HK K
          try go_frame
          refine Until.one (i := 11) (by kernel_rfl) rfl (fun K hK => ?_)
          have HK := Lib.hid hK
          clear hK
          go_simp
          refine (sameI_v q1 q2 im V0 (HIM10.out.1.ok HD.out) (HIM10.out.2.ok HD.out)).mono ?_
          rintro _ V1 ⟨rfl, ok⟩
          have HD1 := Lib.hid ok
          have hS1 := (⟨range_ok hS.1 ok, range_ok hS.2 ok⟩ : _ ∧ _)
          clear ok
          refine HK.out.out _ _ (fun _ => hS1) (fun _ => ?_)
          clear hS
          have hS := hS1
          clear HK K hS1
          try go_frame
          refine Until.take0 (i := 12) (oi := ⟨some 75, .unOp .not 4 (.tmp 74), _, _, _, _⟩) (v := ?v12q135) rfl (by kernel_rfl) (by kernel_rfl) (by kernel_rfl) (by kernel_rfl) (fun _ _ _ h => h) (Or.inl ⟨by rfl, ?hy12q135⟩) (fun _ => hS) ?rest12q135
          case hy12q135 => ((intro w hSw); clear hSw; go_simp; (try with_reducible rfl))
          try go_frame
          refine Until.take0 (i := 13) (oi := ⟨some 76, .pick (.tmp 71) (.const (.bool true)) (.tmp 75), _, _, _, _⟩) (v := ?v13q138) rfl (by kernel_rfl) (by kernel_rfl) (by kernel_rfl) (by kernel_rfl) (fun _ _ _ h => h) (Or.inl ⟨by rfl, ?hy13q138⟩) (fun _ => hS) ?rest13q138
          case hy13q138 => ((intro w hSw); clear hSw; go_simp; (try with_reducible rfl))
          try go_frame
          refine Until.take0 (i := 14) (oi := ⟨some 77, .move (.tmp 76), _, _, _, _⟩) (v := ?v14q141) rfl (by kernel_rfl) (by kernel_rfl) (by kernel_rfl) (by kernel_rfl) (fun _ _ _ h => h) (Or.inl ⟨by rfl, ?hy14q141⟩) (fun _ => hS) ?rest14q141
          case hy14q141 => ((intro w hSw); clear hSw; go_simp; (try with_reducible rfl))
          try go_frame
          refine Until.take0 (i := 16) (oi := ⟨some 79, .move (.tmp 0), _, _, _, _⟩) (v := ?v16q144) rfl (by kernel_rfl) (by kernel_rfl) (by kernel_rfl) (by kernel_rfl) (fun _ _ _ h => h) (Or.inl ⟨by rfl, ?hy16q144⟩) (fun _ => hS) ?rest16q144
          case hy16q144 => ((intro w hSw); clear hSw; go_simp; (try with_reducible rfl))
          try go_frame
          refine Until.take0 (i := 17) (oi := ⟨some 80, .move (.tmp 7), _, _, _, _⟩) (v := ?v17q147) rfl (by kernel_rfl) (by kernel_rfl) (by kernel_rfl) (by kernel_rfl) (fun _ _ _ h => h) (Or.inl ⟨by rfl, ?hy17q147⟩) (fun _ => hS) ?rest17q147
          case hy17q147 => ((intro w hSw); clear hSw; go_simp; (try with_reducible rfl))
          try go_frame
          refine Until.take (i := 15) (oi := ⟨some 78, .load 95 (.tmp 8), _, _, _, _⟩) (v := .agg (ra.cells x).toArray) rfl (by kernel_rfl) (by kernel_rfl) (by kernel_rfl) (by kernel_rfl) (fun _ _ _ h => h) (yieldsIf_load_mid (by rfl) 95 (.tmp 8) rfl gi 0 rfl (ra.cells x) _ (fun _ h => h.1) Try.underlying95 rfl HIA.out) hS ?_
          try go_frame
          refine Until.take0 (i := 18) (oi := ⟨some 81, .indexAddr 99 (.tmp 79) (.tmp 80), _, _, _, _⟩) (v := ?v18q152) rfl (by kernel_rfl) (by kernel_rfl) (by kernel_rfl) (by kernel_rfl) (fun _ _ _ h => h) (Or.inl ⟨by rfl, ?hy18q152⟩) (fun _ => hS) ?rest18q152
          case hy18q152 => ((intro w hSw); clear hSw; go_simp; (try with_reducible rfl))
          try go_frame
          refine Until.take (i := 19) (oi := ⟨some 82, .load 95 (.tmp 81), _, _, _, _⟩) (v := .agg (r.cells x).toArray) rfl (by kernel_rfl) (by kernel_rfl) (by kernel_rfl) (by kernel_rfl) (fun _ _ _ h => h) (yieldsIf_load_mid (by rfl) 95 (.tmp 81) rfl b (off + k * 20) rfl (r.cells x) _ (fun _ h => h.2) Try.underlying95 rfl HIN.out) hS ?_
          try go_frame
          refine Until.one (i := 20) (by kernel_rfl) rfl (fun K hK => ?_)
          have HK := Lib.hid hK
          clear hK
          go_simp
          refine (kept_v wd.heap.size ra r x V1 (HLT10.out.hi (Hi.ok (HD.out.trans HD1.out))) (HX.out.ok (HOK10.out.trans (HD.out.trans HD1.out)))).mono ?_
          rintro _ V2 ⟨rfl, ok⟩
          have HD2 := Lib.hid ok
          clear ok
          refine HK.out.out _ _ (fun h => absurd (h.symm.trans (by kernel_rfl : _ = true)) Bool.false_ne_true) (fun _ => ?_)
          clear HK K
          try go_frame
          refine Until.take0 (i := 21) (oi := ⟨some 84, .unOp .not 4 (.tmp 83), _, _, _, _⟩) (v := ?v21q168) rfl (by kernel_rfl) (by kernel_rfl) (by kernel_rfl) (by kernel_rfl) (fun _ _ _ h => h) (Or.inl ⟨by rfl, ?hy21q168⟩) (fun h => absurd (h.symm.trans (by kernel_rfl : _ = true)) Bool.false_ne_true) ?rest21q168
          case hy21q168 => ((intro w hSw); clear hSw; go_simp; (try with_reducible rfl))
          try go_frame
          refine Until.take0 (i := 22) (oi := ⟨some 85, .pick (.tmp 77) (.const (.bool true)) (.tmp 84), _, _, _, _⟩) (v := ?v22q171) rfl (by kernel_rfl) (by kernel_rfl) (by kernel_rfl) (by kernel_rfl) (fun _ _ _ h => h) (Or.inl ⟨by rfl, ?hy22q171⟩) (fun h => absurd (h.symm.trans (by kernel_rfl : _ = true)) Bool.false_ne_true) ?rest22q171
          case hy22q171 => ((intro w hSw); clear hSw; go_simp; (try with_reducible rfl))
          try go_frame
          refine Until.done (by kernel_rfl) ?_ _
          refine HKK.out _ _ ?_
          go_wp2_with fail
          go_meet
          exact ⟨rfl, HD.out.trans (HD1.out.trans HD2.out)⟩
      case rest =>
      obtain ⟨rfl, hok11⟩ := hcut
      obtain ⟨w11, rfl⟩ : ∃ w11, w11 = wc := ⟨_, rfl⟩
      have HD11 := Lib.hid hok11
      clear hok11
      have HTW11 := Lib.hid (HTW10.out.ok HD11.out)
      have HOK11 := Lib.hid (HOK10.out.trans HD11.out)
      have HRI11 := Lib.hid (range_ok HRI10.out HD11.out)
      have HRM11 := Lib.hid (range_ok HRM10.out HD11.out)
      have HHI11 : Hid (Hi wd.heap.size w6 w11) := Lib.hid ((HHI9.out.trans (Hi.ok HD9.out)).trans (Hi.ok HD11.out))
      have HIM11 : Hid (CfgOwn w11 w6.heap.size q1.s im.cfg ∧ OwnN w11 w6.heap.size (.slice q1.A q1.n q1.c) im.bytes) := Lib.hid ⟨(HIM9.out.1.ok HD9.out).ok HD11.out, (HIM9.out.2.okk HD9.out).okk HD11.out⟩
      have HCW11 : Hid (CfgW w11 q1.s ∧ RowW w11 (.slice q1.A q1.n q1.c)) := Lib.hid ⟨⟨ownW_of HIM11.out.1.h0 (by have h1 := HFIN2.out.1; omega), ownW_of HIM11.out.1.h1 (by have h1 := HFIN2.out.2.1; omega), ownW_of HIM11.out.1.h2 (by have h1 := HFIN2.out.2.2.1; omega), ownW_of HIM11.out.1.h3 (by have h1 := HFIN2.out.2.2.2; omega)⟩, ownW_of HIM11.out.2 (by have := HLEN2.out; omega)⟩
      have HGD : Hid (W.heap.size ≤ wd.heap.size) := Lib.hid (ok_le HOC.out)
      clear HTW9 HIA9 HLT9 HRI9 HRM9 HOK9 HIM9 HHI9 HD9 HRN HTW10 HOK10 HRI10 HRM10 HRC10 HI7q HI7r HLT10 HIM10 HIM11 HD11
      try go_frame
      go_wp2_with ((with_reducible show wpList _ _ _ (⟨_, .load 95 (.tmp 8), _, _, _, _⟩ :: _) _ _); refine wpList_load_mid rfl 95 (.tmp 8) rfl gi 0 rfl (ra.cells x) _ HRI11.out Try.underlying95 rfl HIA.out ?_)
      (with_reducible refine (ovL_v ra x wd.heap.size w6 w11 HLT6.out HHI11.out).mono ?_)
      rintro _ w12 ⟨rfl, ht⟩
      have HT12 := Lib.hid ht
      clear ht
      have HTW12 : Hid (Two p q f2 A1 n1 c1 B2 n2 c2 w12) := Lib.hid (HTW11.out.tch HT12.out (by have h1 := HPQ.out; have h2 := HOWB.out.1; omega) (by have h2 := HOWB.out.1; omega) (fun b e => by have h1 := HOA1.out b e; omega) (fun b e => by have h1 := HOB2.out b e; have h2 := HS78.out; have h3 := HS67.out; omega))
      have HOK12 : Hid (Ok W w12) := Lib.hid (tch_below HOK11.out HT12.out (fun b h => Nat.le_trans HGD.out h.1))
      have HRM12 : Hid (w12.rangeAt gm 0 (q1.cells im)) := Lib.hid (range_tch HRM11.out (World.block_lt_of_cell? _ _ (HRM11.out 0 _ rfl)) HT12.out (by have h1 := HG7.out; have h2 := HS67.out; omega))
      have HCW12 : Hid (CfgW w12 q1.s ∧ RowW w12 (.slice q1.A q1.n q1.c)) := Lib.hid ⟨HCW11.out.1.tch HT12.out, HCW11.out.2.tch HT12.out⟩
      clear HTW11 HOK11 HRM11 HCW11 HT12 HHI11 HRI11
      go_wp2_with ((with_reducible show wpList _ _ _ (⟨_, .load 97 (.tmp 11), _, _, _, _⟩ :: _) _ _); refine wpList_load_mid rfl 97 (.tmp 11) rfl gm 0 rfl (q1.cells im) _ HRM12.out Try.underlying97 rfl (info97' q1 im) ?_)
      (with_reducible refine (ovI_v q1 im w12 HCW12.out.1 HCW12.out.2).mono ?_)
      rintro _ w13 ⟨rfl, ht⟩
      have HT13 := Lib.hid ht
      clear ht
      have HTW13 : Hid (Two p q f2 A1 n1 c1 B2 n2 c2 w13) := Lib.hid (HTW12.out.tch HT13.out (fun e => by have h0 := HRNG.out _ e; have h1 := HPQ.out; have h2 := HOWB.out.1; have h3 := HB69.out; omega) (fun e => by have h0 := HRNG.out _ e; have h2 := HOWB.out.1; have h3 := HB69.out; omega) (fun b e h => HAPT.out b h e) (fun b e h => by have h0 := HRNG.out _ h; have h1 := HOB2.out b e; have h2 := HS78.out; have h3 := HB69.out; omega))
      have HOK13 : Hid (Ok W w13) := Lib.hid (tch_below HOK12.out HT13.out (fun b h => by have h0 := HRNG.out _ h; have h1 := HGD.out; have h3 := HB69.out; omega))
      clear HTW12 HOK12 HRM12 HCW12 HT13
      go_wp2_with fail
      exact ⟨⟨k + 1, f2, A1, n1, c1, B2, n2, c2, HLK.out, by go_num, HTW13.out, HOK13.out⟩, HMS.out⟩
    · have d1 : decide (k < n) = false := decide_eq_false hlt
      clear hlt hk HTR
      go_wp2_with fail
      (with_reducible refine (fdrop_nil wr).mono ?_)
      rintro _ x1 ⟨rfl, o1⟩
      have HX1 := Lib.hid (HOR.out.trans o1)
      clear o1 HOR d1
      go_wp2_with fail
      (with_reducible refine (ftake_five (.pointer none) x1 (fun V _ => fnone_nil V)).mono ?_)
      rintro _ x2 ⟨rfl, o1⟩
      have HX2 := Lib.hid (HX1.out.trans o1)
      clear o1 HX1
      have HBX := Lib.hid (box7_new x2 #[.int .i64 0, .int .i64 0, .slice none 0 0, .slice none 0 0, .slice none 0 0, .slice none 0 0, .slice none 0 0] rfl q0 im0)
      have HTZ := Lib.hid HBX.out.1
      have HD9 := Lib.hid HBX.out.2.1
      have HRN := Lib.hid HBX.out.2.2
      clear HBX
      go_upto_region 22 with ((with_reducible show wpList _ _ _ (⟨none, .store 97 (.tmp 18) (.tmp 98), _, _, _, _⟩ :: _) _ _); refine wpList_store_mid rfl 97 (.tmp 18) (.tmp 98) rfl x2.heap.size 0 (q0.cells im0).toArray rfl rfl HTZ.out (info97a q0 im0) (cells_one7 q0 im0) ?_; rw [List.toList_toArray])
      obtain ⟨x3, hx3⟩ : ∃ x3, (x2.alloc (.cells #[.int .i64 0, .int .i64 0, .slice none 0 0, .slice none 0 0, .slice none 0 0, .slice none 0 0, .slice none 0 0] 97)).setCells x2.heap.size 0 (q0.cells im0) = x3 := ⟨_, rfl⟩
      rw [hx3] at HD9 HRN ⊢
      obtain ⟨g1, hg1⟩ : ∃ g1, x2.heap.size = g1 := ⟨_, rfl⟩
      rw [hg1] at HRN ⊢
      clear hx3 hg1 HTZ
      have HX3 := Lib.hid (HX2.out.trans HD9.out)
      clear HX2 HD9
      go_wp2_with fail
      have HA3 : Hid (Ok x3 (x3.alloc (.cells #[.int .i64 0, .int .i64 0, .int .i64 0, .int .i64 0, .bool false, .slice none 0 0, .bool false] 119)) ∧ (x3.alloc (.cells #[.int .i64 0, .int .i64 0, .int .i64 0, .int .i64 0, .bool false, .slice none 0 0, .bool false] 119)).cell? ⟨x3.heap.size, 6, none⟩ = some (.bool false)) := Lib.hid ⟨(Ok.refl x3).alloc _, (cell_of_heap (heap_alloc_new x3 _) 6).trans rfl⟩
      generalize x3.alloc (.cells #[.int .i64 0, .int .i64 0, .int .i64 0, .int .i64 0, .bool false, .slice none 0 0, .bool false] 119) = x4 at *
      (with_reducible refine (ftake_five (.pointer (some ⟨x3.heap.size, 0, none⟩)) x4 (fun V k => fnone_odd _ V (k.cell HA3.out.2))).mono ?_)
      rintro _ x5 ⟨rfl, o1⟩
      have HX5 := Lib.hid ((HX3.out.trans HA3.out.1).trans o1)
      have HRN5 := Lib.hid (range_ok (range_ok HRN.out HA3.out.1) o1)
      clear o1 HX3 HRN HA3
      generalize x3.heap.size = g3 at *
      have HBX := Lib.hid (box7_new x5 #[.int .i64 0, .int .i64 0, .slice none 0 0, .slice none 0 0, .slice none 0 0, .slice none 0 0, .slice none 0 0] rfl q0 im0)
      have HTZ := Lib.hid HBX.out.1
      have HD9 := Lib.hid HBX.out.2.1
      have HRN := Lib.hid HBX.out.2.2
      clear HBX
      go_upto_region 23 with ((with_reducible show wpList _ _ _ (⟨none, .store 97 (.tmp 21) (.tmp 106), _, _, _, _⟩ :: _) _ _); refine wpList_store_mid rfl 97 (.tmp 21) (.tmp 106) rfl x5.heap.size 0 (q0.cells im0).toArray rfl rfl HTZ.out (info97a q0 im0) (cells_one7 q0 im0) ?_; rw [List.toList_toArray])
      obtain ⟨x6, hx6⟩ : ∃ x6, (x5.alloc (.cells #[.int .i64 0, .int .i64 0, .slice none 0 0, .slice none 0 0, .slice none 0 0, .slice none 0 0, .slice none 0 0] 97)).setCells x5.heap.size 0 (q0.cells im0) = x6 := ⟨_, rfl⟩
      rw [hx6] at HD9 HRN ⊢
      obtain ⟨g2, hg2⟩ : ∃ g2, x5.heap.size = g2 := ⟨_, rfl⟩
      rw [hg2] at HRN ⊢
      clear hx6 hg2 HTZ
      have HX6 := Lib.hid (HX5.out.trans HD9.out)
      have HRN6 := Lib.hid (range_ok HRN5.out HD9.out)
      clear HX5 HD9 HRN5
      have z0 : x6.cell? ⟨g1, 0, none⟩ = some (.int .i64 0) := HRN6.out 0 _ rfl
      have z1 : x6.cell? ⟨g1, 1, none⟩ = some (.int .i64 0) := HRN6.out 1 _ rfl
      have z2 : x6.cell? ⟨g1, 2, none⟩ = some (.slice none 0 0) := HRN6.out 2 _ rfl
      have z3 : x6.cell? ⟨g1, 3, none⟩ = some (.slice none 0 0) := HRN6.out 3 _ rfl
      have z4 : x6.cell? ⟨g1, 4, none⟩ = some (.slice none 0 0) := HRN6.out 4 _ rfl
      have z5 : x6.cell? ⟨g1, 5, none⟩ = some (.slice none 0 0) := HRN6.out 5 _ rfl
      have z6 : x6.cell? ⟨g1, 6, none⟩ = some (.slice none 0 0) := HRN6.out 6 _ rfl
      go_wp2_with fail
      (with_reducible refine (sameZ x6).mono ?_)
      rintro _ x7 ⟨rfl, o1⟩
      have HX7 := Lib.hid (HX6.out.trans o1)
      have HRN7 := Lib.hid (range_ok HRN.out o1)
      clear o1 HX6 HRN HRN6 z0 z1 z2 z3 z4 z5 z6
      have z0 : x7.cell? ⟨g2, 0, none⟩ = some (.int .i64 0) := HRN7.out 0 _ rfl
      have z1 : x7.cell? ⟨g2, 1, none⟩ = some (.int .i64 0) := HRN7.out 1 _ rfl
      have z2 : x7.cell? ⟨g2, 2, none⟩ = some (.slice none 0 0) := HRN7.out 2 _ rfl
      have z3 : x7.cell? ⟨g2, 3, none⟩ = some (.slice none 0 0) := HRN7.out 3 _ rfl
      have z4 : x7.cell? ⟨g2, 4, none⟩ = some (.slice none 0 0) := HRN7.out 4 _ rfl
      have z5 : x7.cell? ⟨g2, 5, none⟩ = some (.slice none 0 0) := HRN7.out 5 _ rfl
      have z6 : x7.cell? ⟨g2, 6, none⟩ = some (.slice none 0 0) := HRN7.out 6 _ rfl
      go_wp2_with fail
      (with_reducible refine (sameZ x7).mono ?_)
      rintro _ x8 ⟨rfl, o1⟩
      have HX8 := Lib.hid (HX7.out.trans o1)
      clear o1 HX7 HRN7 z0 z1 z2 z3 z4 z5 z6
      go_wp2_with fail
      go_ret
      exact ⟨rfl, HX8.out⟩
end Go.Proofs.Ytolfdncmlfnbdaa
namespace Go.Proofs.Ytolfdncmlfnbdaa
open Go.ChangeShapes Go.WideShapes Go.ChangeAt Go.RowKit
theorem readable9 : ∀ t ∈ Try.f9.params.toList, Try.prog.readableRec t = true ∧ t < Try.prog.types.size := by
  rw [Try.params9]
  intro t ht
  have hall : ([99, 3].all fun t => Try.prog.readableRec t && decide (t < Try.prog.types.size)) = true := by kernel_rfl
  simpa using List.all_eq_true.1 hall t (by simpa using ht)
set_option maxRecDepth 100000 in
theorem ferryTakes_lifted (os : Os) (started : os.Started) (H : Type) (enc : TypeId × Value → H) :
    ReturnsInHanded {} Try.checked os 9 .any (Rows.ferryTakesSpec.pre6 enc Try.prog Try.f9 Rows.ferryTakesRow.domain false) (Rows.ferryTakesSpec.post enc Try.prog Try.f9 false true false false) := by
  refine returnsInHanded_of_change_sized (C := Try.checked) own started (by kernel_rfl) Try.func9
    (ChangeSpec.witness6 (enc := enc) (C := Try.checked) false ⟨#[], #[.slice none 0 0, .int .i64 0], []⟩ 8 (by kernel_rfl) (by kernel_rfl) (by kernel_rfl) (by kernel_rfl)) ?_
  intro W base args ds gs before hval0 hW _ hsz0 _
  have hsz : (DataW.weightsEach Try.prog (Try.f9.params.toList ++ Rows.ferryTakesSpec.plain.varTypes Try.prog) (ds ++ gs)).all (· ≤ reachBytes) = true := hsz0
  clear hsz0
  have hval : ∀ (j : Nat) t v, Try.f9.params[j]? = some t → args[j]? = some v → Value.okWide Try.prog W .any base t v := hval0
  have hW' := hW
  obtain ⟨p, q, hA0, hV, rfl, hfz, hnd⟩ := hW
  have hA : DataW.TrodAll enc Try.prog W 0 (fun _ => true) true Try.f9.params.toList args.toList ds p := hA0
  have hlt : ∀ x ∈ p, x.block < W.heap.size := fun x hx => by simpa using hW'.lt x (by simp [hx])
  have hAs := fun (W' : World) (hb : Below W.heap.size W W') => trodAll_below laidOut hb _ _ _ _ readable9 hlt hA
  rw [Try.params9] at hA hval hsz
  obtain ⟨v0, v1, d0, d1, p0, p1, rfl, rfl, rfl, h0, h1⟩ := trodAll_two hA
  obtain ⟨rfl, rfl⟩ := trodVars_none hV
  have vl := hval 0 99 _ rfl rfl
  obtain ⟨A, c, l, rfl, -, -, hl6, hl⟩ := letters_open h0 vl hsz 0 rfl rfl
  obtain ⟨g, rfl⟩ := okWide_int Try.underlying3 (hval 1 3 v1 rfl rfl)
  clear hA0 hval0
  refine (ferryTakes_w A l.length c l g W rfl hl6 hl).mono fun e W' ⟨he, hbe⟩ => ?_
  subst he
  exact ⟨_, rfl, _, _, _, [], _, [], hW', trodAll_mk1 (shut_bool Try.underlying4 _), hAs W' hbe, rfl, hbe.frame _, fun h => by cases h⟩
theorem ferryTakes_proved : Rows.FerryTakesSaid :=
  OpenClaim.holds_of_wide 9 Try.f9 rfl rfl rfl rfl rfl rfl rfl ⟨rfl, rfl, rfl, rfl, rfl⟩ rfl rfl rfl rfl rfl (by kernel_rfl) Try.func9 (by kernel_rfl)
    (of_decide_eq_true (by kernel_rfl)) (by unfold Func.isWrapper; first | (rw [if_pos (by decide +kernel)]; kernel_rfl) | (rw [if_neg (by decide +kernel)]; exact ⟨rfl, rfl⟩))
    (fun os started H enc _ => ferryTakes_lifted os started H enc)
end Go.Proofs.Ytolfdncmlfnbdaa
