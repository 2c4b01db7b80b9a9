/- The document's bytes of a handoff. -/
import Derived.Test.YtebhcadolnjplaaGreatXh
import Derived.Laws.Bits128
import Derived.Lib.ConvBytes
namespace Go.Proofs.YtebhcadolnjplaaGreat
open Go.RowKit

/-- Bytes of the call's own, told. -/
def NumP (w : World) (xs : List B8) (e : Ending) (w' : World) : Prop := ∃ A c, e = .returned (.tuple #[.slice A xs.length c, .bool true]) ∧ OwnN w' w.heap.size (.slice A xs.length c) xs ∧ Ok w w'
theorem OwnN.alloc {w : World} {B : Nat} {v : Value} {xs : List B8} (h : OwnN w B v xs) (o : Obj) : OwnN (w.alloc o) B v xs := World.ownsRow.alloc h o
theorem OwnN.posn {w : World} {B : Nat} {A : Option Addr} {n c : Nat} {xs : List B8} (h : OwnN w B (.slice A n c) xs) (hp : 0 < xs.length) : ∃ g, A = some ⟨g, 0, none⟩ ∧ n = xs.length ∧ B ≤ g ∧ g < w.heap.size := by
  have hlt := World.ownsRow.lt h
  rcases h.2 with ⟨e, h5⟩ | ⟨g, cap, cur, e, r1, _⟩
  · omega
  · simp only [Value.slice.injEq] at e
    obtain ⟨rfl, rfl, rfl⟩ := e
    exact ⟨g, rfl, rfl, r1, (hlt g rfl).2⟩
theorem set_last (pre : List B8) (b b' : B8) : ((pre ++ [b]).map bv).set pre.length (bv b') = (pre ++ [b']).map bv := by
  induction pre with
  | nil => rfl
  | cons x xs ih => simp only [List.cons_append, List.map_cons, List.length_cons, List.set_cons_succ, ih]
theorem OwnN.last {w : World} {B g n c : Nat} {pre : List B8} {b : B8} (h : OwnN w B (.slice (some ⟨g, 0, none⟩) n c) (pre ++ [b])) (hn : n = pre.length + 1) : w.cell? ⟨g, pre.length, none⟩ = some (.int .u8 (ub b)) ∧ w.frozen? ⟨g, pre.length, none⟩ = false := by
  subst hn
  have hl : (pre ++ [b]).length = pre.length + 1 := by simp
  unfold OwnN at h
  rw [hl] at h
  refine ⟨?_, World.ownsRow.frozenAt h _⟩
  rw [World.ownsRow.cellAt h _ (by omega)]
  simp [bv]
theorem OwnN.put {w : World} {B g n c : Nat} {pre : List B8} {b : B8} (h : OwnN w B (.slice (some ⟨g, 0, none⟩) n c) (pre ++ [b])) (hn : n = pre.length + 1) (b' : B8) : OwnN (w.setCell ⟨g, pre.length, none⟩ (.int .u8 (ub b'))) B (.slice (some ⟨g, 0, none⟩) n c) (pre ++ [b']) := by
  subst hn
  have hl : ∀ b, (pre ++ [b]).length = pre.length + 1 := fun b => by simp
  unfold OwnN at h ⊢
  rw [hl] at h ⊢
  have := (World.ownsRow.stored h pre.length (bv b')).1
  rwa [set_last] at this
theorem Ok.own {w w' : World} (k : Ok w w') {g : Nat} (hg : w.heap.size ≤ g) (o : Nat) (v : Value) : Ok w (w'.setCell ⟨g, o, none⟩ v) := Below.setCell k hg _
theorem own_one (w : World) (b : B8) : OwnN (w.alloc (.cells #[.int .u8 (ub b)] 5)) w.heap.size (.slice (some ⟨w.heap.size, 0, none⟩) 1 1) [b] :=
  ⟨rfl, .inr ⟨w.heap.size, 1, #[.int .u8 (ub b)], rfl, Nat.le_refl _, heap_alloc_new w _, Nat.le_refl _, by unfold maxLen; omega, rfl, rfl⟩⟩
theorem u8_low (m : Nat) : ub (BitVec.ofNat 8 (m % 128)) = (m : Int) % 128 := by rw [ub, BitVec.toNat_ofNat]; omega
theorem u8_up (m : Nat) : bits .or .u8 (ub (BitVec.ofNat 8 (m % 128))) 128 = ub (BitVec.ofNat 8 (m % 128 + 128)) := by
  rw [u8_low, u8_or128_right _ (by omega) (by omega), ub, BitVec.toNat_ofNat]; omega

set_option maxRecDepth 100000 in
set_option maxHeartbeats 2000000 in
theorem rnumber_w (n : Nat) (hn : n ≤ 4611686018427387903) (W : World) :
    Calls Tryz.prog 95 #[.int .i64 (n : Int)] W (NumP W (enc n)) := by
  have HE : Hid (enc n = [] ++ encF 9 n) := Lib.hid rfl
  have HNN : Hid (n < 128 ^ 10) := Lib.hid (by omega)
  have hn0 : decide ((n : Int) < 0) = false := decide_eq_false (by omega)
  have hn1 : decide ((4611686018427387903 : Int) < (n : Int)) = false := decide_eq_false (by omega)
  have h1 := and127 n hn
  go_enter Tryz.func95, Tryz.ntmps95
  go_wp2_with fail
  have HO1 : Hid (OwnN (W.alloc (.cells #[.int .u8 ((n : Int) % 128)] 5)) W.heap.size (.slice (some ⟨W.heap.size, 0, none⟩) 1 1) ([] ++ [BitVec.ofNat 8 (n % 128)])) := Lib.hid (by have := own_one W (BitVec.ofNat 8 (n % 128)); rwa [u8_low] at this)
  have HK1 : Hid (Ok W (W.alloc (.cells #[.int .u8 ((n : Int) % 128)] 5))) := Lib.hid (Ok.alloc (Ok.refl W) _)
  clear h1 hn0 hn1
  go_loopw [0, 4] (fun i o wr => ∃ (m f : Nat) (pre : List B8) (A : Option Addr) (L c : Nat), i = .int .i64 ((m / 128 : Nat) : Int) ∧ m ≤ 4611686018427387903 ∧ m < 128 ^ (f + 1) ∧ enc n = pre ++ encF f m ∧ L = pre.length + 1 ∧ o = .slice A L c ∧ OwnN wr W.heap.size (.slice A L c) (pre ++ [BitVec.ofNat 8 (m % 128)]) ∧ Ok W wr) (fun i _ _ => (intOf i).toNat)
  case atStart => exact ⟨n, 9, [], _, _, _, by go_num, hn, HNN.out, HE.out, rfl, rfl, HO1.out, HK1.out⟩
  case round =>
    obtain ⟨m, f, pre, A, L, c, rfl, hm, hmf, hpre, hL, rfl, hown, hok⟩ := hrel
    obtain ⟨g, rfl, -, hBg, hgs⟩ := hown.posn (by simp)
    have HOK := Lib.hid hok
    have HPRE := Lib.hid hpre
    have HLL := Lib.hid hL
    have HPL : Hid (pre.length ≤ 10) := Lib.hid (by
      have h1 := congrArg List.length hpre
      have h2 := enc_len n
      rw [List.length_append] at h1; omega)
    clear hok hpre HO1 HK1 HE HNN
    by_cases hlt : 0 < m / 128
    · have hlt2 : 127 < m := by omega
      have hf : ∃ f', f = f' + 1 := by
        cases f with
        | zero => simp at hmf; omega
        | succ f' => exact ⟨f', rfl⟩
      obtain ⟨f', rfl⟩ := hf
      have HEN := Lib.hid (encF_more f' m hlt2)
      have HMF : Hid (m / 128 < 128 ^ (f' + 1)) := Lib.hid (by
        rw [Nat.pow_succ] at hmf
        exact Nat.div_lt_of_lt_mul (by rw [Nat.mul_comm]; exact hmf))
      clear hmf
      obtain ⟨q, hq⟩ : ∃ q, m / 128 = q := ⟨_, rfl⟩
      rw [hq] at HEN HMF hlt ⊢
      have hqn : q ≤ 4611686018427387903 := by omega
      have hd1 : decide ((0 : Int) < (q : Int)) = true := decide_eq_true (by omega)
      have h1 := and127 q hqn
      obtain ⟨C0, F0⟩ := hown.last hL
      have h3 := u8_up m
      have HOP := Lib.hid (hown.put hL (BitVec.ofNat 8 (m % 128 + 128)))
      have HOK2 := Lib.hid (Ok.own HOK.out hBg pre.length (.int .u8 (ub (BitVec.ofNat 8 (m % 128 + 128)))))
      generalize BitVec.ofNat 8 (m % 128 + 128) = y2 at *
      generalize BitVec.ofNat 8 (m % 128) = y1 at *
      clear hown
      obtain ⟨P, hP⟩ : ∃ P, pre.length = P := ⟨_, rfl⟩
      rw [hP] at C0 F0 HOP HOK2 HLL HPL
      rw [hP] at hL
      subst hL
      have s1 : wrap64 (P : Int) = (P : Int) := by have := HPL.out; simp only [wrap64]; omega
      have s2 : (0 : Int) ≤ (P : Int) := Int.natCast_nonneg _
      have s3 : (P : Int) < (P : Int) + 1 := by omega
      have HPP := Lib.hid hP
      have HLEN : Hid ((pre ++ [y2]).length = P + 1) := Lib.hid (by simp [hP])
      have HPL2 : Hid (P ≤ 10) := Lib.hid HPL.out
      clear hP HPL
      generalize hW2 : wr.setCell ⟨g, P, none⟩ (.int .u8 (ub y2)) = w2 at *
      have HNEW : Hid (BytesIn (w2.alloc (.cells #[.int .u8 ((q : Int) % 128)] 5)) (.slice (some ⟨w2.heap.size, 0, none⟩) 1 1) [BitVec.ofNat 8 (q % 128)]) := Lib.hid (bytes_new w2 _ _ 5 _ _ _ 1 rfl rfl (by decide) (by simp) (by simp [u8_low]))
      have HOWA : Hid (OwnN (w2.alloc (.cells #[.int .u8 ((q : Int) % 128)] 5)) W.heap.size (.slice (some ⟨g, 0, none⟩) (P + 1) c) (pre ++ [y2])) := Lib.hid (HOP.out.alloc _)
      have HOKA : Hid (Ok W (w2.alloc (.cells #[.int .u8 ((q : Int) % 128)] 5))) := Lib.hid (Ok.alloc HOK2.out _)
      obtain ⟨y3, hy3⟩ : ∃ y, BitVec.ofNat 8 (q % 128) = y := ⟨_, rfl⟩
      rw [hy3] at HNEW
      have HY3 := Lib.hid hy3
      clear hy3
      go_wp2_with (first
        | (at_builtin; go_must (refine wpList_app rfl (.tmp 27) (.tmp 31) rfl W.heap.size (.slice (some ⟨g, 0, none⟩) (P + 1) c) (pre ++ [y2]) [y3] (.slice (some ⟨w2.heap.size, 0, none⟩) 1 1) rfl rfl HOWA.out HNEW.out (by have := HPL2.out; rw [HLEN.out]; simp; omega) HOKA.out.size ?_; intro A' c' w3 hown3 hbel3; have HOWN3 := Lib.hid hown3; have HOK3 : Hid (Ok W w3) := Lib.hid (Below.trans HOKA.out hbel3); clear hown3 hbel3; rw [HLEN.out])))
      refine ⟨⟨q, f', pre ++ [y2], A', _, c', by go_num, hqn, HMF.out, by rw [HPRE.out, HEN.out]; simp, by rw [HLEN.out], rfl, by have h := HOWN3.out; rw [HLEN.out] at h; rw [HY3.out]; exact h, HOK3.out⟩, ?_⟩
      simp [intOf]; omega
    · have hd1 : decide ((0 : Int) < ((m / 128 : Nat) : Int)) = false := decide_eq_false (by omega)
      have hle : ¬ 127 < m := by omega
      have HFI : Hid (enc n = pre ++ [BitVec.ofNat 8 (m % 128)]) := Lib.hid (by rw [HPRE.out, encF_last f m hle, Nat.mod_eq_of_lt (by omega)])
      have HLE : Hid ((enc n).length = L) := Lib.hid (by rw [HFI.out, HLL.out]; simp)
      have HFIN : Hid (∀ e, e = .returned (.tuple #[.slice (some ⟨g, 0, none⟩) L c, .bool true]) → NumP W (enc n) e wr) := Lib.hid fun e he => ⟨some ⟨g, 0, none⟩, c, by rw [HLE.out]; exact he, by rw [HLE.out, HFI.out]; exact hown, HOK.out⟩
      clear hown hmf HPRE HLL HPL hL HLE HFI
      obtain ⟨q, hq⟩ : ∃ q, m / 128 = q := ⟨_, rfl⟩
      rw [hq] at hd1 ⊢
      obtain rfl : q = 0 := by omega
      clear hq hlt hd1
      go_wp2_with fail
      go_ret2
      exact HFIN.out _ rfl
end Go.Proofs.YtebhcadolnjplaaGreat
namespace Go.Proofs.YtebhcadolnjplaaGreat
open Go.RowKit
theorem OwnN.ok {w w' : World} {B : Nat} {v : Value} {xs : List B8} (h : OwnN w B v xs) (k : Ok w w') : OwnN w' B v xs := by
  refine World.ownsRow.kept (row := none) h ⟨k.os, k.tape, k.output, k.size, fun i hi _ => k.block i hi⟩ ?_
  cases Value.ownBlock v with
  | none => exact .inl rfl
  | some b => exact .inr (fun e => by cases e)
theorem OwnN.nil (w : World) (base : Nat) : OwnN w base (.slice none 0 0) [] := World.ownsRow_nil _ _ _ _

set_option maxHeartbeats 400000 in
theorem rnumber_bad (n : Int) (W : World) (hn : n < 0 ∨ 4611686018427387903 < n) :
    Calls Tryz.prog 95 #[.int .i64 n] W fun e w' => e = .returned (.tuple #[.slice none 0 0, .bool false]) ∧ W = w' := by
  rcases hn with hn | hn
  · have hd : decide (n < 0) = true := decide_eq_true hn
    go_enter Tryz.func95, Tryz.ntmps95
    go_wp2_with fail
    go_ret2
    exact ⟨rfl, rfl⟩
  · have hd : decide (n < 0) = false := decide_eq_false (by omega)
    have hd1 : decide ((4611686018427387903 : Int) < n) = true := decide_eq_true hn
    go_enter Tryz.func95, Tryz.ntmps95
    go_wp2_with fail
    go_ret2
    exact ⟨rfl, rfl⟩
/-- Bytes of the call's own, told alone. -/
def RowP (w : World) (xs : List B8) (e : Ending) (w' : World) : Prop := ∃ A c, e = .returned (.slice A xs.length c) ∧ OwnN w' w.heap.size (.slice A xs.length c) xs ∧ Ok w w'
set_option maxRecDepth 100000 in
set_option maxHeartbeats 1000000 in
theorem rRow_w (v : Value) (xs : List B8) (W : World) (h : BytesIn W v xs) (hx : xs.length ≤ 1000000000) :
    Calls Tryz.prog 97 #[v] W (RowP W (enc xs.length ++ xs)) := by
  obtain ⟨A, c, rfl, -⟩ := h.form
  have HB := Lib.hid h
  clear h
  obtain ⟨n, hn⟩ : ∃ n, xs.length = n := ⟨_, rfl⟩
  have HN := Lib.hid hn
  rw [hn] at hx ⊢
  rw [hn] at HB
  clear hn
  have HW := Lib.hid (rnumber_w n (by omega) W)
  have HEL := Lib.hid (enc_len n)
  go_enter Tryz.func97, Tryz.ntmps97
  go_wp2_with fail
  refine HW.out.mono ?_
  rintro _ w1 ⟨A1, c1, rfl, hown1, hok1⟩
  have HO1 := Lib.hid hown1
  have HK1 := Lib.hid hok1
  have HB1 := Lib.hid (hok1.bytes HB.out)
  clear hown1 hok1 HW
  generalize enc n = ys at *
  obtain ⟨M, hM⟩ : ∃ M, ys.length = M := ⟨_, rfl⟩
  rw [hM] at HO1 HEL ⊢
  have HM := Lib.hid hM
  clear hM
  go_wp2_with (at_builtin; go_must (refine wpList_app rfl (.tmp 11) (.tmp 12) rfl W.heap.size (.slice A1 M c1) ys xs (.slice A n c) rfl rfl HO1.out HB1.out (by have := HM.out; have := HN.out; have := HEL.out; omega) HK1.out.size ?_; intro A' c' w3 hown3 hbel3; have HOWN3 := Lib.hid hown3; have HOK3 : Hid (Ok W w3) := Lib.hid (Below.trans HK1.out hbel3); clear hown3 hbel3; rw [HM.out, HN.out]))
  go_ret
  refine ⟨A', c', ?_, ?_, HOK3.out⟩
  · rw [List.length_append, HM.out, HN.out]
    rfl
  · exact List.length_append ▸ HOWN3.out
theorem grownCap_ge5 (w : World) (s : ByteArray) : s.size ≤ grownCap w s.size 0 5 := grownCap_ge w s.size 0 5
theorem ofStr_get (s : ByteArray) (i : Nat) (h : i < s.size) : (ofStr s).getD i 0#8 = BitVec.ofNat 8 (s.data.toList.getD i 0).toNat := by
  have h2 : i < s.data.toList.length := by rw [Array.length_toList]; exact h
  unfold ofStr
  simp only [List.getD_eq_getElem?_getD, List.getElem?_map, List.getElem?_eq_getElem h2, Option.map_some, Option.getD_some]
theorem ub_byte (b : UInt8) : ub (BitVec.ofNat 8 b.toNat) = (b.toNat : Int) := by
  have := b.toNat_lt
  rw [ub, BitVec.toNat_ofNat, Nat.mod_eq_of_lt (by simpa using this)]
theorem bytesWorld_ok (w : World) (s : ByteArray) : Ok w (Lib.bytesWorld w 5 s) := by
  have h1 : Ok w (w.drew.alloc (.cells (Lib.bytesCells w 5 s) 5)) := Ok.alloc (Ok.drew (Ok.refl w)) _
  exact ⟨h1.os, h1.tape, h1.output, by rw [Lib.bytesWorld_size]; exact Nat.le_succ _, fun k hk => Lib.bytesWorld_at_old w 5 s k hk⟩
theorem bytesWorld_bytes (w : World) (s : ByteArray) (h : s.size ≤ 1000000000) : BytesIn (Lib.bytesWorld w 5 s) (.slice (some ⟨w.heap.size, 0, none⟩) s.size (grownCap w s.size 0 5)) (ofStr s) := by
  refine .inr ⟨w.heap.size, 0, grownCap w s.size 0 5, by rw [ofStr_len], by rw [ofStr_len]; exact grownCap_ge5 w s, by rw [ofStr_len]; omega, fun i hi => ?_⟩
  rw [ofStr_len] at hi
  rw [Nat.zero_add, Lib.bytesWorld_cell w 5 s i hi, ofStr_get s i hi, ub_byte]
end Go.Proofs.YtebhcadolnjplaaGreat
namespace Go.Proofs.YtebhcadolnjplaaGreat
open Go.RowKit
/-- Bytes of the call's own, told with no error. -/
def WriteP (w : World) (xs : List B8) (e : Ending) (w' : World) : Prop := ∃ A c, e = .returned (.tuple #[.slice A xs.length c, .int .i64 0]) ∧ OwnN w' w.heap.size (.slice A xs.length c) xs ∧ Ok w w'
/-- No bytes, and the error. -/
def WriteN (w : World) (e : Ending) (w' : World) : Prop := e = .returned (.tuple #[.slice none 0 0, .int .i64 2]) ∧ Ok w w'
theorem encsI_take_len (l : List Int) (k : Nat) (h : k ≤ l.length) : (encsI (l.take k)).length ≤ 10 * k := by
  have := encsI_len (l.take k)
  rw [List.length_take] at this
  omega
theorem any_at {l : List Int} {k : Nat} (hk : k < l.length) (h : badN (l.getD k 0) = true) : l.any badN = true := by
  rw [List.any_eq_true]
  refine ⟨l[k], List.getElem_mem hk, ?_⟩
  simpa [hk] using h
/-- Bytes, or none. -/
def WriteQ (w : World) (b : Bool) (xs : List B8) (e : Ending) (w' : World) : Prop := (b = true ∧ WriteN w e w') ∨ (b = false ∧ WriteP w xs e w')
set_option maxRecDepth 100000 in
set_option maxHeartbeats 2000000 in
theorem rWriteI_w (l : List Int) (A : Option Addr) (n c : Nat) (hn : l.length = n) (hnm : n ≤ 1000) (W : World)
    (hcell : ∀ k, k < n → ∃ b o, A = some ⟨b, o, none⟩ ∧ W.cell? ⟨b, o + k, none⟩ = some (.int .i64 (l.getD k 0))) :
    Calls Tryz.prog 51 #[.slice A n c, .slice none 0 0, .slice none 0 0, .slice none 0 0] W (WriteQ W (l.any badN) (encsI l)) := by
  have HC := Lib.hid hcell
  have HN := Lib.hid hn
  clear hcell hn
  go_enter Tryz.func51, Tryz.ntmps51
  go_wp2_with fail
  go_loopw [10, 11, 12, 13] (fun o i _ _ wr => ∃ (k : Nat) (B : Option Addr) (L d : Nat), k ≤ n ∧ i = .int .i64 k ∧ o = .slice B L d ∧ L = (encsI (l.take k)).length ∧ OwnN wr W.heap.size (.slice B L d) (encsI (l.take k)) ∧ Ok W wr ∧ (l.take k).any badN = false) (fun _ i _ _ _ => n - (intOf i).toNat)
  case atStart => exact ⟨0, none, 0, 0, Nat.zero_le _, rfl, rfl, by simp [encsI], by simpa [encsI] using OwnN.nil W _, Ok.refl _, rfl⟩
  case round =>
    obtain ⟨k, B, L, d, hk, rfl, rfl, hL, hown, hok, hbd⟩ := hrel
    have HL := Lib.hid hL
    have HOWN := Lib.hid hown
    have HOK := Lib.hid hok
    have HBD := Lib.hid hbd
    clear hL hown hok hbd
    by_cases hlt : k < n
    · have d1 : decide ((k : Int) < (n : Int)) = true := decide_eq_true (by omega)
      obtain ⟨b, off, rfl, C0⟩ := HC.out k hlt
      have C0 := Ok.cell HOK.out C0
      have HE := Lib.hid (encsI_take l k (by rw [HN.out]; exact hlt))
      have HBT := Lib.hid (bad_take l k (by rw [HN.out]; exact hlt))
      have HLN := Lib.hid (encsI_take_len l k (by rw [HN.out]; omega))
      have HAT := Lib.hid (any_at (l := l) (k := k) (by rw [HN.out]; exact hlt))
      have hi0 : (0 : Int) ≤ (k : Int) := Int.natCast_nonneg _
      have hi1 : (k : Int) < (n : Int) := by omega
      generalize l.getD k 0 = m at *
      by_cases hb : badN m = true
      · have h2 : m < 0 ∨ 4611686018427387903 < m := by unfold badN at hb; simpa using hb
        have HW := Lib.hid (rnumber_bad m wr h2)
        have HQ := Lib.hid (HAT.out hb)
        clear h2 hb HAT HBT HE
        generalize encsI (l.take k) = xs at *
        go_wp2_with fail
        refine HW.out.mono ?_
        rintro _ w2 ⟨rfl, rfl⟩
        clear HW
        go_wp2_with fail
        go_ret2
        exact .inl ⟨HQ.out, rfl, HOK.out⟩
      · have h1 : badN m = false := by simpa using hb
        have h2 : ¬ m < 0 ∧ ¬ 4611686018427387903 < m := by unfold badN at h1; simpa using h1
        obtain ⟨m, rfl⟩ : ∃ x : Nat, m = x := ⟨m.toNat, by omega⟩
        have HW := Lib.hid (rnumber_w m (by omega) wr)
        have HEL := Lib.hid (enc_len m)
        have HE2 : Hid (encsI (l.take (k + 1)) = encsI (l.take k) ++ enc m) := Lib.hid (by rw [HE.out, encI, if_neg hb]; rfl)
        have HBT2 : Hid ((l.take (k + 1)).any badN = false) := Lib.hid (by rw [HBT.out, HBD.out, h1]; rfl)
        clear h2 h1 hb HAT HE HBT
        generalize enc m = ys at *
        generalize encsI (l.take k) = xs at *
        go_wp2_with fail
        refine HW.out.mono ?_
        rintro _ w2 ⟨A2, c2, rfl, hown2, hok2⟩
        have HB2 : Hid (BytesIn w2 (.slice A2 ys.length c2) ys) := Lib.hid (hown2.bytes (by have := HEL.out; omega))
        have HOW2 := Lib.hid (HOWN.out.ok hok2)
        have HOK2 := Lib.hid (Ok.trans HOK.out hok2)
        clear hown2 hok2
        obtain ⟨M, hM⟩ : ∃ M, ys.length = M := ⟨_, rfl⟩
        rw [hM] at HB2 HEL ⊢
        have HM := Lib.hid hM
        clear hM
        go_wp2_with (at_builtin; go_must (refine wpList_app rfl (.tmp 33) (.tmp 34) rfl W.heap.size (.slice B L d) xs ys (.slice A2 M c2) rfl rfl HOW2.out HB2.out (by have := HLN.out; have := HEL.out; have := HM.out; omega) HOK2.out.size ?_; intro A' c' w3 hown3 hbel3; have HOWN3 := Lib.hid hown3; have HOK3 : Hid (Ok W w3) := Lib.hid (Below.trans HOK2.out hbel3); clear hown3 hbel3; rw [← HL.out, HM.out]))
        refine ⟨⟨k + 1, A', L + M, c', hlt, by go_num, rfl, by rw [HE2.out, List.length_append, HL.out, HM.out], by have h := HOWN3.out; rw [← HL.out, HM.out] at h; rw [HE2.out]; exact h, HOK3.out, HBT2.out⟩, ?_⟩
        simp [intOf]; omega
    · have d1 : decide ((k : Int) < (n : Int)) = false := decide_eq_false (by omega)
      have HFI : Hid (l.take k = l) := Lib.hid (List.take_of_length_le (by rw [HN.out]; omega))
      rw [HFI.out] at HL HOWN HBD
      have HFIN : Hid (∀ e, e = .returned (.tuple #[.slice B L d, .int .i64 0]) → WriteQ W (l.any badN) (encsI l) e wr) := Lib.hid fun e he => .inr ⟨HBD.out, B, d, by rw [← HL.out]; exact he, by rw [← HL.out]; exact HOWN.out, HOK.out⟩
      clear HFI HOWN HL HBD
      go_wp2_with fail
      go_loopw [10, 14] (fun o i wq => o = .slice B L d ∧ i = .int .i64 0 ∧ wq = wr) (fun _ _ _ => 0)
      case atStart => exact ⟨rfl, rfl, rfl⟩
      case round =>
        obtain ⟨rfl, rfl, rfl⟩ := hrel
        go_wp2_with fail
        go_loopw [10, 15] (fun o i wq => o = .slice B L d ∧ i = .int .i64 0 ∧ wq = wr) (fun _ _ _ => 0)
        case atStart => exact ⟨rfl, rfl, rfl⟩
        case round =>
          obtain ⟨rfl, rfl, rfl⟩ := hrel
          go_wp2_with fail
          go_loopw [10, 16] (fun o i wq => o = .slice B L d ∧ i = .int .i64 0 ∧ wq = wr) (fun _ _ _ => 0)
          case atStart => exact ⟨rfl, rfl, rfl⟩
          case round =>
            obtain ⟨rfl, rfl, rfl⟩ := hrel
            go_wp2_with fail
            go_ret2
            exact HFIN.out _ rfl

set_option maxRecDepth 100000 in
set_option maxHeartbeats 2000000 in
theorem rWriteT_w (l : List ByteArray) (A : Option Addr) (n c : Nat) (hn : l.length = n) (hnm : n ≤ 10) (W : World) (hsz : ∀ s ∈ l, s.size ≤ 1000000000)
    (hcell : ∀ k, k < n → ∃ b o, A = some ⟨b, o, none⟩ ∧ W.cell? ⟨b, o + k, none⟩ = some (.string (l.getD k ⟨#[]⟩))) :
    Calls Tryz.prog 51 #[.slice none 0 0, .slice none 0 0, .slice A n c, .slice none 0 0] W (WriteP W (encsT l)) := by
  have HC := Lib.hid hcell
  have HN := Lib.hid hn
  have HSZ := Lib.hid hsz
  clear hcell hn hsz
  go_enter Tryz.func51, Tryz.ntmps51
  go_wp2_with fail
  go_loopw [10, 11] (fun o i wq => o = .slice none 0 0 ∧ i = .int .i64 0 ∧ W = wq) (fun _ _ _ => 0)
  case atStart => exact ⟨rfl, rfl, rfl⟩
  case round =>
  obtain ⟨rfl, rfl, rfl⟩ := hrel
  go_wp2_with fail
  go_loopw [10, 14] (fun o i wq => o = .slice none 0 0 ∧ i = .int .i64 0 ∧ W = wq) (fun _ _ _ => 0)
  case atStart => exact ⟨rfl, rfl, rfl⟩
  case round =>
  obtain ⟨rfl, rfl, rfl⟩ := hrel
  go_wp2_with fail
  go_loopw [10, 15] (fun o i wr => ∃ (k : Nat) (B : Option Addr) (L d : Nat), k ≤ n ∧ i = .int .i64 k ∧ o = .slice B L d ∧ L = (encsT (l.take k)).length ∧ OwnN wr W.heap.size (.slice B L d) (encsT (l.take k)) ∧ Ok W wr) (fun _ i _ => n - (intOf i).toNat)
  case atStart => exact ⟨0, none, 0, 0, Nat.zero_le _, rfl, rfl, by simp [encsT], by simpa [encsT] using OwnN.nil W _, Ok.refl _⟩
  case round =>
    obtain ⟨k, B, L, d, hk, rfl, rfl, hL, hown, hok⟩ := hrel
    have HL := Lib.hid hL
    have HOWN := Lib.hid hown
    have HOK := Lib.hid hok
    clear hL hown hok
    by_cases hlt : k < n
    · have d1 : decide ((k : Int) < (n : Int)) = true := decide_eq_true (by omega)
      obtain ⟨b, off, rfl, C0⟩ := HC.out k hlt
      have C0 := Ok.cell HOK.out C0
      have HE := Lib.hid (encsT_take l k (by rw [HN.out]; exact hlt))
      have HLN : Hid ((encsT (l.take k)).length ≤ 10000000100) := Lib.hid (by
        have h1 := encsT_len (l.take k) 1000000000 (fun s hs => HSZ.out s (List.mem_of_mem_take hs))
        rw [List.length_take] at h1
        have h2 : min k l.length ≤ 10 := by omega
        have h3 := Nat.mul_le_mul_left (10 + 1000000000) h2
        omega)
      have HM0 : Hid ((l.getD k ⟨#[]⟩).size ≤ 1000000000) := Lib.hid (HSZ.out _ (by
        have h1 : k < l.length := by rw [HN.out]; exact hlt
        simp [h1]))
      have hi0 : (0 : Int) ≤ (k : Int) := Int.natCast_nonneg _
      have hi1 : (k : Int) < (n : Int) := by omega
      generalize l.getD k ⟨#[]⟩ = s at *
      have hcv := Lib.run_convert_string_bytes (P := Tryz.prog) wr 9 50 5 s Tryz.underlying9 Tryz.underlying50 Tryz.underlying5
      have HBW := Lib.hid (bytesWorld_bytes wr s HM0.out)
      have HKW : Hid (Ok wr (Lib.bytesWorld wr 5 s)) := Lib.hid (bytesWorld_ok _ _)
      have HEL := Lib.hid (encT_len s)
      have HET : Hid (encT s = enc (ofStr s).length ++ ofStr s) := Lib.hid (by rw [ofStr_len]; rfl)
      obtain ⟨cap, hcap⟩ : ∃ cap, grownCap wr s.size 0 5 = cap := ⟨_, rfl⟩
      rw [hcap] at hcv HBW
      clear hcap
      generalize Lib.bytesWorld wr 5 s = w1 at *
      have HW := Lib.hid (rRow_w _ (ofStr s) w1 HBW.out (by rw [ofStr_len]; exact HM0.out))
      rw [← HET.out] at HW
      clear HET
      generalize encT s = ys at *
      generalize encsT (l.take k) = xs at *
      go_wp2_with fail
      clear hcv
      refine HW.out.mono ?_
      rintro _ w2 ⟨A2, c2, rfl, hown2, hok2⟩
      have HB2 : Hid (BytesIn w2 (.slice A2 ys.length c2) ys) := Lib.hid (hown2.bytes (by have := HEL.out; have := HM0.out; omega))
      have HOW2 := Lib.hid (HOWN.out.ok (Ok.trans HKW.out hok2))
      have HOK2 := Lib.hid (Ok.trans (Ok.trans HOK.out HKW.out) hok2)
      clear hown2 hok2
      obtain ⟨M, hM⟩ : ∃ M, ys.length = M := ⟨_, rfl⟩
      rw [hM] at HB2 HEL ⊢
      have HM := Lib.hid hM
      clear hM
      go_wp2_with (at_builtin; go_must (refine wpList_app rfl (.tmp 55) (.tmp 61) rfl W.heap.size (.slice B L d) xs ys (.slice A2 M c2) rfl rfl HOW2.out HB2.out (by have := HLN.out; have := HEL.out; have := HM.out; have := HM0.out; omega) HOK2.out.size ?_; intro A' c' w3 hown3 hbel3; have HOWN3 := Lib.hid hown3; have HOK3 : Hid (Ok W w3) := Lib.hid (Below.trans HOK2.out hbel3); clear hown3 hbel3; rw [← HL.out, HM.out]))
      refine ⟨⟨k + 1, A', L + M, c', hlt, by go_num, rfl, by rw [HE.out, List.length_append, HL.out, HM.out], by have h := HOWN3.out; rw [← HL.out, HM.out] at h; rw [HE.out]; exact h, HOK3.out⟩, ?_⟩
      simp [intOf]; omega
    · have d1 : decide ((k : Int) < (n : Int)) = false := decide_eq_false (by omega)
      have HFI : Hid (l.take k = l) := Lib.hid (List.take_of_length_le (by rw [HN.out]; omega))
      rw [HFI.out] at HL HOWN
      have HFIN : Hid (∀ e, e = .returned (.tuple #[.slice B L d, .int .i64 0]) → WriteP W (encsT l) e wr) := Lib.hid fun e he => ⟨B, d, by rw [← HL.out]; exact he, by rw [← HL.out]; exact HOWN.out, HOK.out⟩
      clear HFI HOWN HL
      go_wp2_with fail
      go_loopw [10, 16] (fun o i wq => o = .slice B L d ∧ i = .int .i64 0 ∧ wq = wr) (fun _ _ _ => 0)
      case atStart => exact ⟨rfl, rfl, rfl⟩
      case round =>
        obtain ⟨rfl, rfl, rfl⟩ := hrel
        go_wp2_with fail
        go_ret2
        exact HFIN.out _ rfl
end Go.Proofs.YtebhcadolnjplaaGreat
namespace Go.Proofs.YtebhcadolnjplaaGreat
open Go.RowKit
/-- Bytes of the call's own, told with an error that says whether they are these. -/
def WriteA (w : World) (b : Bool) (xs : List B8) (e : Ending) (w' : World) : Prop := ∃ (A : Option Addr) (c n : Nat) (ys : List B8) (k : Int), e = .returned (.tuple #[.slice A n c, .int .i64 k]) ∧ n = ys.length ∧ OwnN w' w.heap.size (.slice A n c) ys ∧ Ok w w' ∧ (k == 0) = !b ∧ (b = false → ys = xs) ∧ ys.length ≤ 10000
theorem WriteQ.all {w w' : World} {b : Bool} {xs : List B8} {e : Ending} (h : WriteQ w b xs e w') (hx : xs.length ≤ 10000) : WriteA w b xs e w' := by
  rcases h with ⟨rfl, rfl, h1⟩ | ⟨rfl, A, c, rfl, h1, h2⟩
  · exact ⟨none, 0, 0, [], 2, rfl, rfl, OwnN.nil _ _, h1, rfl, (fun h => Bool.noConfusion h), Nat.zero_le _⟩
  · exact ⟨A, c, _, xs, 0, rfl, rfl, h1, h2, rfl, fun _ => rfl, hx⟩
theorem wi1_w (W : World) (b : Nat) (a0 : Int) (hh : W.heap[b]? = some (.cells #[.int .i64 a0] 3 (0, 0))) :
    Calls Tryz.prog 51 #[.slice (some ⟨b, 0, none⟩) 1 1, .slice none 0 0, .slice none 0 0, .slice none 0 0] W (WriteA W ([a0].any badN) (encsI [a0])) := by
  refine (rWriteI_w [a0] (some ⟨b, 0, none⟩) 1 1 rfl (by decide) W ?_).mono fun e w' h => h.all (by have := encsI_len [a0]; simp only [List.length_cons, List.length_nil] at this; omega)
  intro k hk
  refine ⟨b, 0, rfl, ?_⟩
  rw [cell_of_heap hh]
  match k, hk with
  | 0, _ => rfl
theorem wi5_w (W : World) (b : Nat) (a0 a1 a2 a3 a4 : Int) (hh : W.heap[b]? = some (.cells #[.int .i64 a0, .int .i64 a1, .int .i64 a2, .int .i64 a3, .int .i64 a4] 3 (0, 0))) :
    Calls Tryz.prog 51 #[.slice (some ⟨b, 0, none⟩) 5 5, .slice none 0 0, .slice none 0 0, .slice none 0 0] W (WriteA W ([a0, a1, a2, a3, a4].any badN) (encsI [a0, a1, a2, a3, a4])) := by
  refine (rWriteI_w [a0, a1, a2, a3, a4] (some ⟨b, 0, none⟩) 5 5 rfl (by decide) W ?_).mono fun e w' h => h.all (by have := encsI_len [a0, a1, a2, a3, a4]; simp only [List.length_cons, List.length_nil] at this; omega)
  intro k hk
  refine ⟨b, 0, rfl, ?_⟩
  rw [cell_of_heap hh]
  match k, hk with
  | 0, _ => rfl
  | 1, _ => rfl
  | 2, _ => rfl
  | 3, _ => rfl
  | 4, _ => rfl
def WriteT (w : World) (xs : List B8) (e : Ending) (w' : World) : Prop := ∃ (A : Option Addr) (c n : Nat), e = .returned (.tuple #[.slice A n c, .int .i64 0]) ∧ n = xs.length ∧ OwnN w' w.heap.size (.slice A n c) xs ∧ Ok w w'
theorem wt2_w (W : World) (b : Nat) (s0 s1 : ByteArray) (hh : W.heap[b]? = some (.cells #[.string s0, .string s1] 9 (0, 0))) (h0 : s0.size ≤ 1000000000) (h1 : s1.size ≤ 1000000000) :
    Calls Tryz.prog 51 #[.slice none 0 0, .slice none 0 0, .slice (some ⟨b, 0, none⟩) 2 2, .slice none 0 0] W (WriteT W (encsT [s0, s1])) := by
  refine (rWriteT_w [s0, s1] (some ⟨b, 0, none⟩) 2 2 rfl (by decide) W ?_ ?_).mono ?_
  · intro s hs
    simp only [List.mem_cons, List.not_mem_nil, or_false] at hs
    rcases hs with rfl | rfl <;> assumption
  · intro k hk
    refine ⟨b, 0, rfl, ?_⟩
    rw [cell_of_heap hh]
    match k, hk with
    | 0, _ => rfl
    | 1, _ => rfl
  · rintro e w' ⟨A, c, rfl, h1, h2⟩
    exact ⟨A, c, _, rfl, rfl, h1, h2⟩
theorem blk_ok {w w' : World} {n : Nat} {o : Obj} (k : Ok w w') (h : w.heap[n]? = some o) : w'.heap[n]? = some o := by
  rw [k.block n (Array.getElem?_eq_some_iff.1 h).1]; exact h
theorem OwnN.mono {w : World} {B B' : Nat} {v : Value} {xs : List B8} (h : OwnN w B v xs) (k : B' ≤ B) : OwnN w B' v xs := by
  unfold OwnN World.ownsRow at *
  rcases h with ⟨h1, h2 | ⟨g, cap, cur, e, r1, r2⟩⟩
  · exact ⟨h1, .inl h2⟩
  · exact ⟨h1, .inr ⟨g, cap, cur, e, Nat.le_trans k r1, r2⟩⟩
theorem BytesIn.same {w w' : World} {v : Value} {xs : List B8} (h : BytesIn w v xs) (k : ∀ b, v.ownBlock = some b → w'.heap[b]? = w.heap[b]?) : BytesIn w' v xs := by
  rcases h with h | ⟨b, o, c, rfl, hn, hm, hc⟩
  · exact .inl h
  · refine .inr ⟨b, o, c, rfl, hn, hm, fun i hi => ?_⟩
    rw [World.cell?_of_block (a := ⟨b, o + i, none⟩) (k b rfl)]
    exact hc i hi
/-- What stands behind c, when b was put behind a: c's block is another one. -/
theorem apart {w : World} {C : Nat} {va vc : Value} {yc : List B8} (ha : ∀ b, va.ownBlock = some b → b < C) (hc : OwnN w C vc yc) : ∀ b, vc.ownBlock = some b → b < w.heap.size ∧ va.ownBlock ≠ some b := fun b hb => by
  have h2 := World.ownsRow.lt hc b hb
  exact ⟨h2.2, fun e => by have := ha b e; omega⟩
end Go.Proofs.YtebhcadolnjplaaGreat
