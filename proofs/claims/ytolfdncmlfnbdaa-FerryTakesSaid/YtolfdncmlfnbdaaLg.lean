/- The ferry's example: what it takes where the piece lies before the ferry. -/
import Derived.Test.YtolfdncmlfnbdaaKf
import Derived.Test.YtolfdncmlfnbdaaKd
namespace Go.Proofs.Ytolfdncmlfnbdaa
open Go.RowKit

set_option maxRecDepth 100000 in
set_option maxHeartbeats 4000000 in
theorem asks_f (i t a : Int) (s : S4) (n c : Nat) (A : Option Addr) (W : World) :
    Calls Try.prog 82 #[.agg #[.int .i64 i, .int .i64 t, .slice s.A0 s.n0 s.c0, .slice s.A1 s.n1 s.c1, .slice s.A2 s.n2 s.c2, .slice s.A3 s.n3 s.c3, .slice A n c], .int .i64 a] W fun e w' => e = .returned (.agg #[.int .u8 5, .int .i64 0, .int .i64 1, .int .i64 2, .int .i64 4, .int .i64 0, .int .i64 0, .int .i64 0, .bool false, .slice none 0 0, .int .i64 i, .int .i64 t, .slice s.A0 s.n0 s.c0, .slice s.A1 s.n1 s.c1, .slice s.A2 s.n2 s.c2, .slice s.A3 s.n3 s.c3, .int .i64 0, .int .i64 a, .int .i64 0, .slice none 0 0]) ∧ Ok W w' := by
  have HT : Hid (World.there ((W.alloc (.cells #[.int .i64 i, .int .i64 t, .slice s.A0 s.n0 s.c0, .slice s.A1 s.n1 s.c1, .slice s.A2 s.n2 s.c2, .slice s.A3 s.n3 s.c3, .slice A n c] 97)).alloc (.cells #[.int .u8 0, .int .i64 0, .int .i64 0, .int .i64 0, .int .i64 0, .int .i64 0, .int .i64 0, .int .i64 0, .bool false, .slice none 0 0, .int .i64 0, .int .i64 0, .slice none 0 0, .slice none 0 0, .slice none 0 0, .slice none 0 0, .int .i64 0, .int .i64 0, .int .i64 0, .slice none 0 0] 95)) (W.heap.size + 1) 0 20) := Lib.hid (by have := there_new (W.alloc (.cells #[.int .i64 i, .int .i64 t, .slice s.A0 s.n0 s.c0, .slice s.A1 s.n1 s.c1, .slice s.A2 s.n2 s.c2, .slice s.A3 s.n3 s.c3, .slice A n c] 97)) #[.int .u8 0, .int .i64 0, .int .i64 0, .int .i64 0, .int .i64 0, .int .i64 0, .int .i64 0, .int .i64 0, .bool false, .slice none 0 0, .int .i64 0, .int .i64 0, .slice none 0 0, .slice none 0 0, .slice none 0 0, .slice none 0 0, .int .i64 0, .int .i64 0, .int .i64 0, .slice none 0 0] 95; rwa [World.size_alloc] at this)
  have HO : Hid (Ok W ((W.alloc (.cells #[.int .i64 i, .int .i64 t, .slice s.A0 s.n0 s.c0, .slice s.A1 s.n1 s.c1, .slice s.A2 s.n2 s.c2, .slice s.A3 s.n3 s.c3, .slice A n c] 97)).alloc (.cells #[.int .u8 0, .int .i64 0, .int .i64 0, .int .i64 0, .int .i64 0, .int .i64 0, .int .i64 0, .int .i64 0, .bool false, .slice none 0 0, .int .i64 0, .int .i64 0, .slice none 0 0, .slice none 0 0, .slice none 0 0, .slice none 0 0, .int .i64 0, .int .i64 0, .int .i64 0, .slice none 0 0] 95))) := Lib.hid (((Ok.refl W).alloc _).alloc _)
  go_enter Try.func82, Try.ntmps82
  go_upto_region 1 with fail
  rename_i K0 hK0
  have HK0 := Lib.hid hK0
  clear hK0
  refine wp_region_lit ?_
  refine wpList_plain rfl (fun K hK => ?_)
  go_simp
  refine hK _ _ ?_
  clear hK K
  try go_frame
  refine wpList_plain rfl (fun K hK => ?_)
  go_simp
  refine hK _ _ ?_
  clear hK K
  try go_frame
  refine wpList_plain rfl (fun K hK => ?_)
  go_simp
  refine hK _ _ ?_
  clear hK K
  try go_frame
  refine wpList_plain rfl (fun K hK => ?_)
  go_simp
  refine hK _ _ ?_
  clear hK K
  try go_frame
  refine wpList_store_mid rfl 95 (.tmp 4) (.tmp 8) rfl (W.heap.size + 1) 0 #[.int .u8 5, .int .i64 0, .int .i64 1, .int .i64 2, .int .i64 4, .int .i64 0, .int .i64 0, .int .i64 0, .bool false, .slice none 0 0, .int .i64 i, .int .i64 t, .slice s.A0 s.n0 s.c0, .slice s.A1 s.n1 s.c1, .slice s.A2 s.n2 s.c2, .slice s.A3 s.n3 s.c3, .int .i64 0, .int .i64 a, .int .i64 0, .slice none 0 0] rfl rfl HT.out info80 (by simp [Value.oneCell']) ?_
  refine wpList_nil ?_
  refine HK0.out _ _ ?_
  clear HK0
  have HR := Lib.hid (World.rangeAt_setCells_same _ (W.heap.size + 1) 0 [.int .u8 5, .int .i64 0, .int .i64 1, .int .i64 2, .int .i64 4, .int .i64 0, .int .i64 0, .int .i64 0, .bool false, .slice none 0 0, .int .i64 i, .int .i64 t, .slice s.A0 s.n0 s.c0, .slice s.A1 s.n1 s.c1, .slice s.A2 s.n2 s.c2, .slice s.A3 s.n3 s.c3, .int .i64 0, .int .i64 a, .int .i64 0, .slice none 0 0] HT.out)
  have HO2 := Lib.hid (Ok.sets (b := W.heap.size + 1) (by omega) [.int .u8 5, .int .i64 0, .int .i64 1, .int .i64 2, .int .i64 4, .int .i64 0, .int .i64 0, .int .i64 0, .bool false, .slice none 0 0, .int .i64 i, .int .i64 t, .slice s.A0 s.n0 s.c0, .slice s.A1 s.n1 s.c1, .slice s.A2 s.n2 s.c2, .slice s.A3 s.n3 s.c3, .int .i64 0, .int .i64 a, .int .i64 0, .slice none 0 0] 0 _ HO.out)
  generalize World.setCells _ _ _ _ = w5 at *
  clear HO HT
  go_wp2_with fail
  refine bodyPost_ret (v := .agg #[.int .u8 5, .int .i64 0, .int .i64 1, .int .i64 2, .int .i64 4, .int .i64 0, .int .i64 0, .int .i64 0, .bool false, .slice none 0 0, .int .i64 i, .int .i64 t, .slice s.A0 s.n0 s.c0, .slice s.A1 s.n1 s.c1, .slice s.A2 s.n2 s.c2, .slice s.A3 s.n3 s.c3, .int .i64 0, .int .i64 a, .int .i64 0, .slice none 0 0]) ?_ rfl ⟨rfl, HO2.out⟩
  rw [results_cell1 Try.results82]
  show ((loadVar 95 ⟨W.heap.size + 1, 0, none⟩).run Try.prog _) = _
  exact run_loadVar_mid _ _ _ 95 _ _ HR.out Try.underlying95 rfl info80
end Go.Proofs.Ytolfdncmlfnbdaa
namespace Go.Proofs.Ytolfdncmlfnbdaa
open Go.RowKit

/-- An image of base 3, 2, of so many bytes. -/
def PlainP (W : World) (n : Nat) (e : Ending) (w' : World) : Prop := ∃ A c xs, e = .returned (.agg #[.int .i64 3, .int .i64 2, .slice none 0 0, .slice none 0 0, .slice none 0 0, .slice none 0 0, .slice A n c]) ∧ BytesIn w' (.slice A n c) xs ∧ xs.length = n ∧ Ok W w'
/-- What stands while it is made. -/
def PL (W : World) (g k : Nat) (w : World) : Prop := ∃ A c xs, Seven (g + 1) (.int .i64 3) (.int .i64 2) (.slice none 0 0) (.slice none 0 0) (.slice none 0 0) (.slice none 0 0) (.slice A k c) w ∧ OwnN w (g + 2) (.slice A k c) xs ∧ xs.length = k ∧
  Seven g (.int .i64 0) (.int .i64 0) (.slice none 0 0) (.slice none 0 0) (.slice none 0 0) (.slice none 0 0) (.slice none 0 0) w ∧ Ok W w
theorem Seven.away {g : Nat} {v0 v1 v2 v3 v4 v5 v6 : Value} {w : World} (h : Seven g v0 v1 v2 v3 v4 v5 v6 w) (q o : Nat) (x : Value) (hq : q ≠ g) : Seven g v0 v1 v2 v3 v4 v5 v6 (w.setCell ⟨q, o, none⟩ x) := by
  have k : ∀ j u, w.cell? ⟨g, j, none⟩ = some u → (w.setCell ⟨q, o, none⟩ x).cell? ⟨g, j, none⟩ = some u := fun j u hc => by
    rw [World.cell?_setCell_other _ _ _ _ (fun e => hq (congrArg Addr.block e))]; exact hc
  exact ⟨k _ _ h.c0, k _ _ h.c1, k _ _ h.c2, k _ _ h.c3, k _ _ h.c4, k _ _ h.c5, k _ _ h.c6, fun j => by rw [World.frozen?_setCell]; exact h.f j⟩
theorem u8_range (n : Int) : 0 ≤ IntKind.u8.wrap n ∧ IntKind.u8.wrap n ≤ 255 := by
  rw [show IntKind.u8.wrap n = n % 256 from by simp only [IntKind.wrap_u8]]; omega
theorem one_byte (w : World) (v : Int) (h : 0 ≤ v ∧ v ≤ 255) : ∃ b : B8, BytesIn (w.alloc (.cells #[.int .u8 v] 5)) (.slice (some ⟨w.heap.size, 0, none⟩) 1 1) [b] :=
  ⟨BitVec.ofInt 8 v, bytes_new w [BitVec.ofInt 8 v] #[.int .u8 v] 5 _ _ _ _ rfl rfl (Nat.le_refl _) (by simp) (by simp [ub_of h])⟩
set_option maxRecDepth 100000 in
set_option maxHeartbeats 4000000 in
theorem plain_f (n : Nat) (W : World) (hn : n ≤ 100000) : Calls Try.prog 81 #[.int .i64 (n : Int)] W (PlainP W n) := by
  have HP : Hid (PL W W.heap.size 0 ((W.alloc (.cells #[.int .i64 0, .int .i64 0, .slice none 0 0, .slice none 0 0, .slice none 0 0, .slice none 0 0, .slice none 0 0] 97)).alloc (.cells #[.int .i64 3, .int .i64 2, .slice none 0 0, .slice none 0 0, .slice none 0 0, .slice none 0 0, .slice none 0 0] 97))) := Lib.hid (by
    refine ⟨none, 0, [], ?_, OwnN.nil _ _, rfl, (Seven.new _ _ _ _ _ _ _ _ _).ok ((Ok.refl _).alloc _), ((Ok.refl W).alloc _).alloc _⟩
    have := Seven.new (W.alloc (.cells #[.int .i64 0, .int .i64 0, .slice none 0 0, .slice none 0 0, .slice none 0 0, .slice none 0 0, .slice none 0 0] 97)) (.int .i64 3) (.int .i64 2) (.slice none 0 0) (.slice none 0 0) (.slice none 0 0) (.slice none 0 0) (.slice none 0 0) 97
    rwa [World.size_alloc] at this)
  go_enter Try.func81, Try.ntmps81
  go_wp2_with fail
  go_loopw [4] (fun i wr => ∃ k : Nat, k ≤ n ∧ i = .int .i64 k ∧ PL W W.heap.size k wr) (fun i _ => n - (intOf i).toNat)
  case atStart => exact ⟨0, Nat.zero_le _, rfl, HP.out⟩
  case round =>
    obtain ⟨k, hk, rfl, hpl⟩ := hrel
    obtain ⟨A, c, xs, h1, h2, h3, h4, h5⟩ := hpl
    have H1 := Lib.hid h1
    have H2 := Lib.hid h2
    have H3 := Lib.hid h3
    have H4 := Lib.hid h4
    have H5 := Lib.hid h5
    clear h1 h2 h3 h4 h5 HP
    obtain ⟨g, hg⟩ : ∃ g, W.heap.size = g := ⟨_, rfl⟩
    have HG := Lib.hid hg
    rw [hg] at H1 H2 H4 ⊢
    clear hg
    have hgs : g + 2 ≤ wr.heap.size := by have h1 : g + 1 < wr.heap.size := World.block_lt_of_cell? _ _ H1.out.c0; omega
    by_cases hlt : k < n
    · have d1 : decide (k < n) = true := decide_eq_true hlt
      have hc6 := H1.out.c6
      go_upto_region 5 with fail
      rename_i K0 hK0
      have HK0 := Lib.hid hK0
      clear hK0
      refine wp_region_lit ?_
      refine wpList_step (fun K hK => ?_)
      rw [if_pos (by rfl)]
      go_simp
      refine hK _ _ ?_
      clear hK K
      try go_frame
      refine wpList_step (fun K hK => ?_)
      rw [if_pos (by rfl)]
      go_simp
      refine hK _ _ ?_
      clear hK K
      try go_frame
      refine wpList_step (fun K hK => ?_)
      rw [if_pos (by rfl)]
      go_simp
      refine hK _ _ ?_
      clear hK K
      try go_frame
      refine wpList_step (fun K hK => ?_)
      rw [if_pos (by rfl)]
      go_simp
      refine hK _ _ ?_
      clear hK K
      try go_frame
      refine wpList_step (fun K hK => ?_)
      rw [if_pos (by rfl)]
      go_simp
      refine hK _ _ ?_
      clear hK K
      try go_frame
      refine wpList_step (fun K hK => ?_)
      rw [if_pos (by rfl)]
      go_simp
      refine hK _ _ ?_
      clear hK K
      try go_frame
      obtain ⟨b, hb⟩ := one_byte wr _ (u8_range (IntKind.i64.wrap ((k : Int) * 7)))
      have HB := Lib.hid hb
      have HOA : Hid (Ok wr (wr.alloc (.cells #[.int .u8 (IntKind.u8.wrap (IntKind.i64.wrap ((k : Int) * 7)))] 5))) := Lib.hid ((Ok.refl wr).alloc _)
      clear hb
      generalize wr.alloc (.cells #[.int .u8 (IntKind.u8.wrap (IntKind.i64.wrap ((k : Int) * 7)))] 5) = wz at *
      refine wpList_appN rfl (.tmp 13) (.tmp 17) rfl (g + 2) A k c xs [b] (some ⟨wr.heap.size, 0, none⟩) 1 1 rfl rfl (H2.out.okk HOA.out) HB.out (by rw [H3.out]; simp; omega) (by have := HOA.out.size; omega) ?_
      intro A' c' w2 hown hgrow hob
      have hge : ∀ j, (Value.slice A k c).ownBlock = some j → g + 2 ≤ j := fun j e => (World.ownsRow.lt H2.out j e).1
      have HX := Lib.hid hown
      have HS1 := Lib.hid (Seven.fr (H1.out.ok HOA.out) (Fr.grown (p := g) hgrow) (by omega) (fun e => by have := hge _ e; omega))
      have HS2 := Lib.hid (Seven.fr (H4.out.ok HOA.out) (Fr.grown (p := g + 1) hgrow) (by omega) (fun e => by have := hge _ e; omega))
      have HO2 : Hid (Ok W w2) := Lib.hid (Below.grown (Ok.trans H5.out HOA.out) hgrow (by have := HG.out; have := HOA.out.size; omega) (fun j e => by have := hge j e; have := HG.out; omega))
      clear hown hgrow hob hge hc6
      try go_frame
      have q6 := HS1.out.c6
      have f6 := HS1.out.f 6
      refine wpList_step (fun K hK => ?_)
      rw [if_pos (by rfl)]
      go_simp
      refine hK _ _ ?_
      clear hK K
      try go_frame
      refine wpList_step (fun K hK => ?_)
      rw [if_pos (by rfl)]
      go_simp
      refine hK _ _ ?_
      clear hK K
      try go_frame
      refine wpList_nil ?_
      refine HK0.out _ _ ?_
      clear HK0 q6 f6
      have HPL : Hid (PL W g (k + 1) (w2.setCell ⟨g + 1, 6, none⟩ (.slice A' (k + 1) c'))) := Lib.hid (by
        obtain ⟨e0, e1, e2, e3, e4, e5, e6, ef⟩ := HS1.out
        refine ⟨A', c', xs ++ [b], ⟨?_, ?_, ?_, ?_, ?_, ?_, ?_, fun j => ?_⟩, HX.out.set (g + 1) 6 _ (by omega), by rw [List.length_append, H3.out]; rfl, Seven.away HS2.out (g + 1) 6 _ (by omega), Below.setCell (p := ⟨g + 1, 6, none⟩) HO2.out (by have := HG.out; show W.heap.size ≤ g + 1; omega) _⟩
        · go_cell
        · go_cell
        · go_cell
        · go_cell
        · go_cell
        · go_cell
        · go_cell
        · rw [World.frozen?_setCell]; exact ef j)
      generalize w2.setCell ⟨g + 1, 6, none⟩ (.slice A' (k + 1) c') = w3 at *
      clear HS1 HS2 HO2 HX H1 H2 H3 H4 H5 HB HOA
      go_wp2_with fail
      refine ⟨⟨k + 1, hlt, by go_num, HPL.out⟩, ?_⟩
      show n - ((k : Int) + 1).toNat < n - (k : Int).toNat
      omega
    · have d1 : decide (k < n) = false := decide_eq_false hlt
      obtain rfl : k = n := by omega
      have z0 := H1.out.c0
      have z1 := H1.out.c1
      have z2 := H1.out.c2
      have z3 := H1.out.c3
      have z4 := H1.out.c4
      have z5 := H1.out.c5
      have z6 := H1.out.c6
      have q0 := H4.out.c0
      have q1 := H4.out.c1
      have q2 := H4.out.c2
      have q3 := H4.out.c3
      have q4 := H4.out.c4
      have q5 := H4.out.c5
      have q6 := H4.out.c6
      have y0 := H4.out.f 0
      have y1 := H4.out.f 1
      have y2 := H4.out.f 2
      have y3 := H4.out.f 3
      have y4 := H4.out.f 4
      have y5 := H4.out.f 5
      have y6 := H4.out.f 6
      go_wp2_with fail
      refine bodyPost_ret (v := .agg #[.int .i64 3, .int .i64 2, .slice none 0 0, .slice none 0 0, .slice none 0 0, .slice none 0 0, .slice A k c]) (by simp [results, Try.results81, go_sem, q0, q1, q2, q3, q4, q5, q6]; try rfl) rfl ?_
      refine ⟨A, c, xs, rfl, OwnN.bytes (base := g + 2) ?_ (by rw [H3.out]; omega), H3.out, ?_⟩
      · (repeat (refine OwnN.set ?_ g _ _ (by omega))); exact H2.out
      · show Below W.heap.size W _
        (repeat (refine Below.setCell ?_ (show W.heap.size ≤ g from Nat.le_of_eq HG.out) _)); exact H5.out
end Go.Proofs.Ytolfdncmlfnbdaa
namespace Go.Proofs.Ytolfdncmlfnbdaa
open Go.RowKit

/-- A piece: of the image's base, and these bytes of it. -/
def FillP0 (W : World) (i t : Int) (c : Cfg) (a : Nat) (bs : List B8) (e : Ending) (w' : World) : Prop :=
  ∃ (s : S4) (A : Option Addr) (cap : Nat), e = .returned (.tuple #[.agg #[.int .u8 5, .int .i64 0, .int .i64 1, .int .i64 2, .int .i64 4, .int .i64 0, .int .i64 0, .int .i64 0, .bool false, .slice none 0 0, .int .i64 i, .int .i64 t, .slice s.A0 s.n0 s.c0, .slice s.A1 s.n1 s.c1, .slice s.A2 s.n2 s.c2, .slice s.A3 s.n3 s.c3, .int .i64 (bs.length : Int), .int .i64 (a : Int), .int .i64 0, .slice A ((bs.drop a).take 600).length cap], .bool true]) ∧ CfgOwn w' W.heap.size s c ∧ OwnN w' W.heap.size (.slice A ((bs.drop a).take 600).length cap) ((bs.drop a).take 600) ∧ Ok W w'

/-- The example's letter. -/
def x0 : Lt := ⟨5, 0, 1, 2, 4, 0, 0, 0, false, [], 0, 0, ⟨[], [], [], []⟩, 0, 0, 0, []⟩
def r0 : LR := ⟨none, 0, ⟨none, 0, 0, none, 0, 0, none, 0, 0, none, 0, 0⟩, none, 0, 0⟩
theorem takeSame0 (p : Nat) (tm i t : Int) (s : S4) (cf : Cfg) (L a m d : Nat) (B : Option Addr) (A : Option Addr) (n c : Nat) (xs ys : List B8) (W : World) (h : FAt p tm i t (L : Int) true A n c xs W)
    (hm : m = ys.length) (h1 : L ≤ 100000) (h2 : a ≤ L) (h3 : m ≤ L - a) (ha : a ≤ n) (hnL : n ≤ L) (HX : ∀ w', Fr p A n c W w' → CfgAt w' s cf ∧ BytesIn w' (.slice B m d) ys)
    (l0 : cf.vs.length ≤ 100000) (l1 : cf.os.length ≤ 100000) (l2 : cf.ls.length ≤ 100000) (l3 : cf.ws.length ≤ 100000) :
    Calls Try.prog 77 #[.pointer (some ⟨p, 0, none⟩), .agg #[.int .u8 5, .int .i64 0, .int .i64 1, .int .i64 2, .int .i64 tm, .int .i64 0, .int .i64 0, .int .i64 0, .bool false, .slice none 0 0, .int .i64 i, .int .i64 t, .slice s.A0 s.n0 s.c0, .slice s.A1 s.n1 s.c1, .slice s.A2 s.n2 s.c2, .slice s.A3 s.n3 s.c3, .int .i64 (L : Int), .int .i64 (a : Int), .int .i64 0, .slice B m d]] W (TakeYes p tm i t L cf A n c W (laid xs ys a)) :=
  takeSame_f x0 r0 p tm i t s cf L a m d B A n c xs ys W h hm (by omega) h2 h3 ha hnL HX (by omega) (by omega) (by omega) (by omega)
theorem takeBegin0 (p : Nat) (tm i t : Int) (s : S4) (cf : Cfg) (L a m d : Nat) (B : Option Addr) (A : Option Addr) (n c : Nat) (xs ys : List B8) (W : World) (h : FAt p 0 0 0 0 false A n c xs W) (he : A = none ∧ n = 0 ∧ c = 0 ∧ xs = []) (ha0 : a = 0)
    (hm : m = ys.length) (h1 : L ≤ 100000) (h2 : a ≤ L) (h3 : m ≤ L - a) (_ha : a ≤ n) (_hnL : n ≤ L) (HX : ∀ w', Fr p A n c W w' → CfgAt w' s cf ∧ BytesIn w' (.slice B m d) ys)
    (l0 : cf.vs.length ≤ 100000) (l1 : cf.os.length ≤ 100000) (l2 : cf.ls.length ≤ 100000) (l3 : cf.ws.length ≤ 100000) :
    Calls Try.prog 77 #[.pointer (some ⟨p, 0, none⟩), .agg #[.int .u8 5, .int .i64 0, .int .i64 1, .int .i64 2, .int .i64 tm, .int .i64 0, .int .i64 0, .int .i64 0, .bool false, .slice none 0 0, .int .i64 i, .int .i64 t, .slice s.A0 s.n0 s.c0, .slice s.A1 s.n1 s.c1, .slice s.A2 s.n2 s.c2, .slice s.A3 s.n3 s.c3, .int .i64 (L : Int), .int .i64 (a : Int), .int .i64 0, .slice B m d]] W (TakeYes p tm i t L cf A n c W (laid xs ys a)) :=
  takeBegin_f x0 r0 p tm i t s cf L a m d B 0 0 0 0 false A n c xs A n c xs ys W h (by simp [crossB]) he ha0 hm (by omega) h2 h3 HX (by omega) (by omega) (by omega) (by omega)
set_option maxRecDepth 100000 in
theorem takeNo0 (p : Nat) (tm i t : Int) (s : S4) (L a m d : Nat) (B : Option Addr) (A : Option Addr) (n c : Nat) (xs : List B8) (W : World) (h : FAt p 4 i t (L : Int) true A n c xs W)
    (htm : tm = 9) (ha0 : 0 < a) (h1 : L ≤ 131072) (h2 : a ≤ L) (h3 : m ≤ L - a) :
    Calls Try.prog 77 #[.pointer (some ⟨p, 0, none⟩), .agg #[.int .u8 5, .int .i64 0, .int .i64 1, .int .i64 2, .int .i64 tm, .int .i64 0, .int .i64 0, .int .i64 0, .bool false, .slice none 0 0, .int .i64 i, .int .i64 t, .slice s.A0 s.n0 s.c0, .slice s.A1 s.n1 s.c1, .slice s.A2 s.n2 s.c2, .slice s.A3 s.n3 s.c3, .int .i64 (L : Int), .int .i64 (a : Int), .int .i64 0, .slice B m d]] W (TakeNo p 4 i t (L : Int) true A n c xs W) :=
  take_no x0 r0 p tm i t s L a m d B 4 i t (L : Int) true A n c xs W h (by subst htm; simp [crossB]) ha0 h1 h2 h3
set_option maxRecDepth 100000 in
theorem sameImage_f (i t : Int) (s r : S4) (c : Cfg) (A D : Option Addr) (n m ca cb : Nat) (xs : List B8) (W : World) (ha : CfgAt W s c) (hb : CfgAt W r c) (hx : BytesIn W (.slice A n ca) xs) (hy : BytesIn W (.slice D m cb) xs) : Calls Try.prog 79 #[.agg #[.int .i64 i, .int .i64 t, .slice s.A0 s.n0 s.c0, .slice s.A1 s.n1 s.c1, .slice s.A2 s.n2 s.c2, .slice s.A3 s.n3 s.c3, .slice A n ca], .agg #[.int .i64 i, .int .i64 t, .slice r.A0 r.n0 r.c0, .slice r.A1 r.n1 r.c1, .slice r.A2 r.n2 r.c2, .slice r.A3 r.n3 r.c3, .slice D m cb]] W fun e w' => e = .returned (.bool true) ∧ Ok W w' :=
  sameImage_w ⟨s, A, n, ca⟩ ⟨r, D, m, cb⟩ ⟨i, t, c, xs⟩ W ⟨⟨_, _, _, _, rfl, ha.h0, ha.h1, ha.h2, ha.h3⟩, hx⟩ ⟨⟨_, _, _, _, rfl, hb.h0, hb.h1, hb.h2, hb.h3⟩, hy⟩
theorem Ok.frz {w w' : World} {b k : Nat} (h : Ok w w') (hf : w.frozen? ⟨b, k, none⟩ = false) (hb : b < w.heap.size) : w'.frozen? ⟨b, k, none⟩ = false := by
  rw [Below.frozen h (p := ⟨b, k, none⟩) hb]; exact hf
set_option maxRecDepth 100000 in
theorem fill_z (i t z : Int) (s : S4) (cf : Cfg) (A : Option Addr) (n c a : Nat) (bs : List B8) (W : World) (hz : z = (a : Int)) (h : CfgAt W s cf) (hb : BytesIn W (.slice A n c) bs) (ha : a ≤ bs.length) (hl : bs.length ≤ 100000)
    (l0 : cf.vs.length ≤ 100000) (l1 : cf.os.length ≤ 100000) (l2 : cf.ls.length ≤ 100000) (l3 : cf.ws.length ≤ 100000) :
    Calls Try.prog 67 #[.agg #[.int .u8 5, .int .i64 0, .int .i64 1, .int .i64 2, .int .i64 4, .int .i64 0, .int .i64 0, .int .i64 0, .bool false, .slice none 0 0, .int .i64 i, .int .i64 t, .slice s.A0 s.n0 s.c0, .slice s.A1 s.n1 s.c1, .slice s.A2 s.n2 s.c2, .slice s.A3 s.n3 s.c3, .int .i64 0, .int .i64 z, .int .i64 0, .slice none 0 0], .agg #[.int .i64 i, .int .i64 t, .slice s.A0 s.n0 s.c0, .slice s.A1 s.n1 s.c1, .slice s.A2 s.n2 s.c2, .slice s.A3 s.n3 s.c3, .slice A n c]] W (FillP0 W i t cf a bs) := by
  subst hz
  have k := fill_f ⟨none, 0, s, none, 0, 0⟩ x0 i t s cf A n c a bs W h hb ha hl (by omega) (by omega) (by omega) (by omega)
  unfold FillP at k
  simp only [x0, List.length_nil] at k
  unfold FillP0
  exact k
/-- A piece that was filled, in its variable. -/
def PcR (W : World) (i t : Int) (cf : Cfg) (a L : Nat) (ps : List B8) (x ok : Value) (w : World) : Prop :=
  ∃ (bx : Nat) (s' : S4) (B' : Option Addr) (d' : Nat), x = .pointer (some ⟨bx, 0, none⟩) ∧ ok = .bool true ∧ w.rangeAt bx 0 [.int .u8 5, .int .i64 0, .int .i64 1, .int .i64 2, .int .i64 4, .int .i64 0, .int .i64 0, .int .i64 0, .bool false, .slice none 0 0, .int .i64 i, .int .i64 t, .slice s'.A0 s'.n0 s'.c0, .slice s'.A1 s'.n1 s'.c1, .slice s'.A2 s'.n2 s'.c2, .slice s'.A3 s'.n3 s'.c3, .int .i64 (L : Int), .int .i64 (a : Int), .int .i64 0, .slice B' ps.length d'] ∧ (∀ k, w.frozen? ⟨bx, k, none⟩ = false) ∧ CfgOwn w W.heap.size s' cf ∧ OwnN w W.heap.size (.slice B' ps.length d') ps ∧
    W.heap.size ≤ bx ∧ bx < w.heap.size ∧ Ok W w ∧ ∀ v, CfgOwn (w.setCell ⟨bx, 4, none⟩ v) W.heap.size s' cf ∧ OwnN (w.setCell ⟨bx, 4, none⟩ v) W.heap.size (.slice B' ps.length d') ps
theorem laid_take (bs : List B8) (k a : Nat) (ha : a ≤ k) (hk : k ≤ bs.length) : laid (bs.take k) ((bs.drop a).take 600) a = bs.take (max k (min (a + 600) bs.length)) := by
  have e1 : (bs.take k).length = k := by rw [List.length_take]; omega
  have e2 : ((bs.drop a).take 600).length = min 600 (bs.length - a) := by rw [List.length_take, List.length_drop]
  unfold laid
  rw [e1, e2]
  by_cases h : k - a < min 600 (bs.length - a)
  · rw [if_pos ⟨ha, h⟩, show max k (min (a + 600) bs.length) = k + (min (a + 600) bs.length - k) from by omega, List.take_add, List.drop_take, List.drop_drop, show a + (k - a) = k from by omega]
    congr 1
    rw [List.take_eq_take_iff, List.length_drop]
    omega
  · rw [if_neg (fun q => h q.2), show max k (min (a + 600) bs.length) = k from by omega]

/-- Four rows that are none. -/
theorem cfg_nil (w : World) : CfgAt w ⟨none, 0, 0, none, 0, 0, none, 0, 0, none, 0, 0⟩ ⟨[], [], [], []⟩ := ⟨InI.nil _, InI.nil _, InI.nil _, InI.nil _⟩
end Go.Proofs.Ytolfdncmlfnbdaa
namespace Go.Proofs.Ytolfdncmlfnbdaa
open Go.RowKit

/-- Where the ferry stands: it has no crossing, or so many bytes of this one. -/
def FS (p : Nat) (i t : Int) (L : Nat) (bs : List B8) (was : Nat) (w : World) : Prop :=
  (was = 0 ∧ FAt p 0 0 0 0 false none 0 0 [] w) ∨ (was < L ∧ ∃ A c, FAt p 4 i t (L : Int) true A was c (bs.take was) w)
/-- .. and its bytes lie in none of these blocks. -/
def FSo (p : Nat) (i t : Int) (L : Nat) (bs : List B8) (was lo hi : Nat) (w : World) : Prop :=
  (was = 0 ∧ FAt p 0 0 0 0 false none 0 0 [] w) ∨ (was < L ∧ ∃ A c, FAt p 4 i t (L : Int) true A was c (bs.take was) w ∧ ∀ j, lo ≤ j → j < hi → (Value.slice A was c).ownBlock ≠ some j)
theorem FSo.fs {p : Nat} {i t : Int} {L lo hi : Nat} {bs : List B8} {was : Nat} {w : World} (h : FSo p i t L bs was lo hi w) : FS p i t L bs was w := by
  rcases h with h | ⟨e, A, c, h, _⟩
  · exact .inl h
  · exact .inr ⟨e, A, c, h⟩
theorem FS.ok {p : Nat} {i t : Int} {L : Nat} {bs : List B8} {was : Nat} {w w' : World} (h : FS p i t L bs was w) (k : Ok w w') : FS p i t L bs was w' := by
  rcases h with ⟨e, h⟩ | ⟨e, A, c, h⟩
  · exact .inl ⟨e, h.ok k⟩
  · exact .inr ⟨e, A, c, h.ok k⟩
theorem FS.lt {p : Nat} {i t : Int} {L : Nat} {bs : List B8} {was : Nat} {w : World} (h : FS p i t L bs was w) : p < w.heap.size := by
  rcases h with ⟨_, h⟩ | ⟨_, A, c, h⟩
  · exact h.lt
  · exact h.lt
theorem FS.any {p : Nat} {i t : Int} {L : Nat} {bs : List B8} {was : Nat} {w : World} (h : FS p i t L bs was w) : ∃ tm0 i0 t0 z0 u0 A0 n0 c0 xs0, FAt p tm0 i0 t0 z0 u0 A0 n0 c0 xs0 w := by
  rcases h with ⟨_, h⟩ | ⟨_, A, c, h⟩
  · exact ⟨_, _, _, _, _, _, _, _, _, h⟩
  · exact ⟨_, _, _, _, _, _, _, _, _, h⟩
theorem FAt.fars {p : Nat} {tm i t sz : Int} {u : Bool} {A : Option Addr} {n c : Nat} {xs : List B8} {q : Nat} (hq : q ≠ p) (ho : (Value.slice A n c).ownBlock ≠ some q) : ∀ (vs : List Value) (o : Nat) (w : World), FAt p tm i t sz u A n c xs w → FAt p tm i t sz u A n c xs (w.setCells q o vs)
  | [], _, _, h => h
  | v :: r, o, _, h => FAt.fars hq ho r (o + 1) _ (h.far q o v hq ho)
theorem FSo.fars {p : Nat} {i t : Int} {L lo hi : Nat} {bs : List B8} {was : Nat} {w : World} (h : FSo p i t L bs was lo hi w) (q : Nat) (hq : q ≠ p) (h1 : lo ≤ q) (h2 : q < hi) (vs : List Value) : FS p i t L bs was (w.setCells q 0 vs) := by
  rcases h with ⟨e, h⟩ | ⟨e, A, c, h, ho⟩
  · exact .inl ⟨e, h.fars hq (fun e => by cases e) vs 0 _⟩
  · exact .inr ⟨e, A, c, h.fars hq (ho q h1 h2) vs 0 _⟩
/-- These blocks are as they were. -/
def Keep (lo : Nat) (w w' : World) : Prop := ∀ k, lo ≤ k → k < w.heap.size → w'.heap[k]? = w.heap[k]?
theorem Keep.range {lo b : Nat} {w w' : World} {cs : List Value} (h : Keep lo w w') (r : w.rangeAt b 0 cs) (hb : lo ≤ b) : w'.rangeAt b 0 cs := fun j v hv => by
  have hc := r j v hv
  rw [World.cell?_of_block (w := w) (h b hb (World.block_lt_of_cell? _ _ hc))]; exact hc
theorem Keep.there {lo b n : Nat} {w w' : World} (h : Keep lo w w') (r : w.there b 0 n) (hb : lo ≤ b) : w'.there b 0 n := fun j hj => by
  obtain ⟨h1, h2⟩ := r j hj
  obtain ⟨u, hu⟩ := Option.isSome_iff_exists.1 h1
  have hk := h b hb (World.block_lt_of_cell? _ _ hu)
  exact ⟨by rw [World.cell?_of_block (w := w) hk, hu]; rfl, by rw [World.frozen?_of_block (w := w) hk]; exact h2⟩
def TakenP (W1 wr : World) (p : Nat) (i t : Int) (L : Nat) (bs : List B8) (cf : Cfg) (tm : Int) (was a : Nat) (w : World) (e : Ending) (w' : World) : Prop :=
  ∃ (now : Nat) (wh : Bool) (i' t' : Int) (s' : S4) (A' : Option Addr) (n' c' nw : Nat),
    e = .returned (.tuple #[.int .i64 (now : Int), .bool wh, .agg #[.int .i64 i', .int .i64 t', .slice s'.A0 s'.n0 s'.c0, .slice s'.A1 s'.n1 s'.c1, .slice s'.A2 s'.n2 s'.c2, .slice s'.A3 s'.n3 s'.c3, .slice A' n' c']]) ∧
    (Ok W1 w' ∧ w.heap.size ≤ w'.heap.size ∧ Keep wr.heap.size w w') ∧ FSo p i t L bs nw wr.heap.size w.heap.size w' ∧
    ((wh = false ∧ now ≤ L ∧ nw ≤ L ∧ ((tm = 4 ∧ now = nw ∧ was ≤ nw ∧ nw = max was (min (a + 600) L) ∧ nw ≠ L) ∨ (tm = 9 ∧ nw = was))) ∨
     (wh = true ∧ now = L ∧ i' = i ∧ t' = t ∧ n' = L ∧ nw = 0 ∧ CfgOwn w' w.heap.size s' cf ∧ OwnN w' w.heap.size (.slice A' n' c') bs ∧ max was (min (a + 600) L) = L ∧ tm = 4))
theorem yes_taken (W1 wr w w' : World) (p : Nat) (hp : W1.heap.size = p) (i t : Int) (cf : Cfg) (L was a : Nat) (bs : List B8) (hL : L = bs.length) (hwL : was ≤ L)
    (hok : Ok W1 wr) (hox : Ok wr w) (tm0 i0 t0 z0 : Int) (u0 : Bool) (A : Option Addr) (n c : Nat) (xs : List B8) (hfr : FAt p tm0 i0 t0 z0 u0 A n c xs wr) (e : Ending) (h : TakeYes p 4 i t L cf A n c w (bs.take (max was (min (a + 600) L))) e w') :
    TakenP W1 wr p i t L bs cf 4 was a w e w' := by
  have hlen : (bs.take (max was (min (a + 600) L))).length = max was (min (a + 600) L) := by rw [List.length_take]; omega
  have hfw := hfr.ok hox
  have frame : ∀ (k : Fr p A n c w w'), Ok W1 w' ∧ w.heap.size ≤ w'.heap.size ∧ Keep wr.heap.size w w' := by
    intro k
    refine ⟨Below.trans (hok.trans hox) (k.below hfw (Nat.le_of_eq hp)), k.size, fun b hb hs => k.block b hs ?_ ?_⟩
    · have := hfr.lt; omega
    · intro e'; have := (hfr.ownGe b e').2; omega
  rcases h with ⟨hne, he, ⟨A', c', hf, hown⟩, hk⟩ | ⟨heq, ⟨s', A', c', he, hc, hb⟩, hf, hk⟩
  · rw [hlen] at he hne hf hown
    exact ⟨_, false, 0, 0, ⟨none, 0, 0, none, 0, 0, none, 0, 0, none, 0, 0⟩, none, 0, 0, _, he, frame hk, .inr ⟨by omega, A', c', hf, fun j h1 h2 e' => by have := (hfr.ownGe j (hown j h2 e')).2; omega⟩, .inl ⟨rfl, by omega, by omega, .inl ⟨rfl, rfl, by omega, rfl, hne⟩⟩⟩
  · have hfull : bs.take (max was (min (a + 600) L)) = bs := List.take_of_length_le (by rw [← hL]; rw [hlen] at heq; omega)
    rw [hfull, ← hL] at he hb
    exact ⟨_, true, i, t, s', A', L, c', 0, he, frame hk, .inl ⟨rfl, hf⟩, .inr ⟨rfl, rfl, rfl, rfl, rfl, rfl, hc, hb, by rw [hlen] at heq; exact heq, rfl⟩⟩
theorem take_any (W1 wr w : World) (p : Nat) (hp : W1.heap.size = p) (tm i t : Int) (s : S4) (cf : Cfg) (L was a m d : Nat) (B : Option Addr) (bs ps : List B8) (hL : L = bs.length) (hps : (bs.drop a).take 600 = ps) (hm : m = ps.length) (h1 : L ≤ 4000) (haw : a ≤ was) (hwL : was ≤ L)
    (htm : tm = 4 ∨ (tm = 9 ∧ 0 < a)) (hok : Ok W1 wr) (hfs : FS p i t L bs was wr) (hox : Ok wr w) (hc : CfgOwn w wr.heap.size s cf) (hn : OwnN w wr.heap.size (.slice B m d) ps)
    (l0 : cf.vs.length ≤ 100000) (l1 : cf.os.length ≤ 100000) (l2 : cf.ls.length ≤ 100000) (l3 : cf.ws.length ≤ 100000) :
    Calls Try.prog 77 #[.pointer (some ⟨p, 0, none⟩), .agg #[.int .u8 5, .int .i64 0, .int .i64 1, .int .i64 2, .int .i64 tm, .int .i64 0, .int .i64 0, .int .i64 0, .bool false, .slice none 0 0, .int .i64 i, .int .i64 t, .slice s.A0 s.n0 s.c0, .slice s.A1 s.n1 s.c1, .slice s.A2 s.n2 s.c2, .slice s.A3 s.n3 s.c3, .int .i64 (L : Int), .int .i64 (a : Int), .int .i64 0, .slice B m d]] w (TakenP W1 wr p i t L bs cf tm was a w) := by
  have e600 : ps.length = min 600 (L - a) := by rw [← hps, List.length_take, List.length_drop, hL]
  have h3 : m ≤ L - a := by omega
  have hz : ∀ (tm0 i0 t0 z0 : Int) (u0 : Bool) (A : Option Addr) (n c : Nat) (xs : List B8) (_ : FAt p tm0 i0 t0 z0 u0 A n c xs wr) (w' : World), Fr p A n c w w' → CfgAt w' s cf ∧ BytesIn w' (.slice B m d) ps :=
    fun _ _ _ _ _ _ _ _ _ hf w' k => ⟨(hc.fr k hf.lt (fun j e => (hf.ownGe j e).2)).at l0 l1 l2 l3, (hn.fr k hf.lt (fun j e => (hf.ownGe j e).2)).bytes (by omega)⟩
  rcases hfs with ⟨hw0, hf⟩ | ⟨hwl, A, c, hf⟩
  · have ha0 : a = 0 := by omega
    have htm4 : tm = 4 := by rcases htm with h | ⟨_, h⟩; exact h; omega
    subst htm4
    refine (takeBegin0 p 4 i t s cf L a m d B none 0 0 [] ps w (hf.ok hox) ⟨rfl, rfl, rfl, rfl⟩ ha0 hm (by omega) (by omega) h3 (by omega) (by omega) (hz _ _ _ _ _ _ _ _ _ hf) l0 l1 l2 l3).mono ?_
    intro e w' h
    have hl := laid_take bs 0 a (by omega) (by omega)
    rw [hps, List.take_zero, ← hL] at hl
    rw [hl, show 0 = was from hw0.symm] at h
    subst hw0
    exact yes_taken W1 wr w w' p hp i t cf L _ a bs hL hwL hok hox _ _ _ _ _ _ _ _ _ hf e h
  · rcases htm with rfl | ⟨rfl, ha⟩
    · refine (takeSame0 p 4 i t s cf L a m d B A was c (bs.take was) ps w (hf.ok hox) hm (by omega) (by omega) h3 haw hwL (hz _ _ _ _ _ _ _ _ _ hf) l0 l1 l2 l3).mono ?_
      intro e w' h
      have hl := laid_take bs was a haw (by omega)
      rw [hps, ← hL] at hl
      rw [hl] at h
      exact yes_taken W1 wr w w' p hp i t cf L was a bs hL hwL hok hox _ _ _ _ _ _ _ _ _ hf e h
    · refine (takeNo0 p 9 i t s L a m d B A was c (bs.take was) w (hf.ok hox) rfl ha (by omega) (by omega) h3).mono ?_
      rintro e w' ⟨he, hf', k⟩
      exact ⟨0, false, 0, 0, ⟨none, 0, 0, none, 0, 0, none, 0, 0, none, 0, 0⟩, none, 0, 0, was, he, ⟨(hok.trans hox).trans k, k.size, fun b _ hs => k.block b hs⟩, .inr ⟨hwl, A, c, hf', fun j h1 _ e' => by have := (hf.ownGe j e').2; omega⟩, .inl ⟨rfl, by omega, hwL, .inr ⟨rfl, rfl⟩⟩⟩
/-- What was taken, in its variables. -/
def TakR (W1 : World) (p : Nat) (i t : Int) (L : Nat) (bs : List B8) (cf : Cfg) (tm : Int) (was a bx : Nat) (xs : List Value) (v1 v2 v3 : Value) (w : World) : Prop :=
  ∃ (now : Nat) (wh : Bool) (bz : Nat) (i' t' : Int) (s' : S4) (A' : Option Addr) (n' c' nw : Nat), v1 = .int .i64 (now : Int) ∧ v2 = .bool wh ∧ v3 = .pointer (some ⟨bz, 0, none⟩) ∧
    Ok W1 w ∧ w.rangeAt bx 0 xs ∧ w.rangeAt bz 0 [.int .i64 i', .int .i64 t', .slice s'.A0 s'.n0 s'.c0, .slice s'.A1 s'.n1 s'.c1, .slice s'.A2 s'.n2 s'.c2, .slice s'.A3 s'.n3 s'.c3, .slice A' n' c'] ∧ FS p i t L bs nw w ∧
    ((wh = false ∧ now ≤ L ∧ nw ≤ L ∧ ((tm = 4 ∧ now = nw ∧ was ≤ nw ∧ nw = max was (min (a + 600) L) ∧ nw ≠ L) ∨ (tm = 9 ∧ nw = was))) ∨
     (wh = true ∧ now = L ∧ i' = i ∧ t' = t ∧ n' = L ∧ nw = 0 ∧ CfgAt w s' cf ∧ BytesIn w (.slice A' n' c') bs ∧ max was (min (a + 600) L) = L ∧ tm = 4))
theorem taken_r (W1 _wr w w' X : World) (p : Nat) (i t : Int) (L : Nat) (bs : List B8) (cf : Cfg) (tm : Int) (was a bx bz : Nat) (xs : List Value) (now : Nat) (wh : Bool) (i' t' : Int) (s' : S4) (A' : Option Addr) (n' c' nw : Nat) (hLb : bs.length ≤ 100000)
    (l0 : cf.vs.length ≤ 100000) (l1 : cf.os.length ≤ 100000) (l2 : cf.ls.length ≤ 100000) (l3 : cf.ws.length ≤ 100000)
    (h : (wh = false ∧ now ≤ L ∧ nw ≤ L ∧ ((tm = 4 ∧ now = nw ∧ was ≤ nw ∧ nw = max was (min (a + 600) L) ∧ nw ≠ L) ∨ (tm = 9 ∧ nw = was))) ∨
     (wh = true ∧ now = L ∧ i' = i ∧ t' = t ∧ n' = L ∧ nw = 0 ∧ CfgOwn w' w.heap.size s' cf ∧ OwnN w' w.heap.size (.slice A' n' c') bs ∧ max was (min (a + 600) L) = L ∧ tm = 4))
    (hX : Ok W1 X) (hx : X.rangeAt bx 0 xs) (hz : X.rangeAt bz 0 [.int .i64 i', .int .i64 t', .slice s'.A0 s'.n0 s'.c0, .slice s'.A1 s'.n1 s'.c1, .slice s'.A2 s'.n2 s'.c2, .slice s'.A3 s'.n3 s'.c3, .slice A' n' c']) (hf : FS p i t L bs nw X)
    (hc : CfgOwn w' w.heap.size s' cf → CfgOwn X w.heap.size s' cf) (hn : OwnN w' w.heap.size (.slice A' n' c') bs → OwnN X w.heap.size (.slice A' n' c') bs) :
    TakR W1 p i t L bs cf tm was a bx xs (.int .i64 (now : Int)) (.bool wh) (.pointer (some ⟨bz, 0, none⟩)) X :=
  ⟨now, wh, bz, i', t', s', A', n', c', nw, rfl, rfl, rfl, hX, hx, hz, hf, h.imp id (fun ⟨a1, a2, a3, a4, a5, a6, a7, a8, a9⟩ => ⟨a1, a2, a3, a4, a5, a6, (hc a7).at l0 l1 l2 l3, (hn a8).bytes (by omega), a9⟩)⟩
/-- The call first, then the variable. -/
theorem taken_new (W1 wr w w' : World) (p : Nat) (i t : Int) (L : Nat) (bs : List B8) (cf : Cfg) (tm : Int) (was a bx bz : Nat) (hbz : w'.heap.size = bz) (xs : List Value) (now : Nat) (wh : Bool) (i' t' : Int) (s' : S4) (A' : Option Addr) (n' c' nw : Nat) (hLb : bs.length ≤ 100000)
    (l0 : cf.vs.length ≤ 100000) (l1 : cf.os.length ≤ 100000) (l2 : cf.ls.length ≤ 100000) (l3 : cf.ws.length ≤ 100000) (hbx : wr.heap.size ≤ bx) (hxr : w.rangeAt bx 0 xs)
    (h0 : Ok W1 w' ∧ w.heap.size ≤ w'.heap.size ∧ Keep wr.heap.size w w') (hf : FSo p i t L bs nw wr.heap.size w.heap.size w')
    (h : (wh = false ∧ now ≤ L ∧ nw ≤ L ∧ ((tm = 4 ∧ now = nw ∧ was ≤ nw ∧ nw = max was (min (a + 600) L) ∧ nw ≠ L) ∨ (tm = 9 ∧ nw = was))) ∨
     (wh = true ∧ now = L ∧ i' = i ∧ t' = t ∧ n' = L ∧ nw = 0 ∧ CfgOwn w' w.heap.size s' cf ∧ OwnN w' w.heap.size (.slice A' n' c') bs ∧ max was (min (a + 600) L) = L ∧ tm = 4)) :
    TakR W1 p i t L bs cf tm was a bx xs (.int .i64 (now : Int)) (.bool wh) (.pointer (some ⟨bz, 0, none⟩)) ((w'.alloc (.cells #[.int .i64 0, .int .i64 0, .slice none 0 0, .slice none 0 0, .slice none 0 0, .slice none 0 0, .slice none 0 0] 97)).setCells bz 0 [.int .i64 i', .int .i64 t', .slice s'.A0 s'.n0 s'.c0, .slice s'.A1 s'.n1 s'.c1, .slice s'.A2 s'.n2 s'.c2, .slice s'.A3 s'.n3 s'.c3, .slice A' n' c']) := by
  subst hbz
  have hok : Ok w' ((w'.alloc (.cells #[.int .i64 0, .int .i64 0, .slice none 0 0, .slice none 0 0, .slice none 0 0, .slice none 0 0, .slice none 0 0] 97)).setCells w'.heap.size 0 [.int .i64 i', .int .i64 t', .slice s'.A0 s'.n0 s'.c0, .slice s'.A1 s'.n1 s'.c1, .slice s'.A2 s'.n2 s'.c2, .slice s'.A3 s'.n3 s'.c3, .slice A' n' c']) := Ok.sets (Nat.le_refl _) _ _ _ ((Ok.refl w').alloc _)
  exact taken_r W1 wr w w' _ p i t L bs cf tm was a bx _ xs now wh i' t' s' A' n' c' nw hLb l0 l1 l2 l3 h (h0.1.trans hok) (fun j u hu => hok.cell (h0.2.2.range hxr hbx j u hu))
    (World.rangeAt_setCells_same _ _ 0 _ (there_new w' #[.int .i64 0, .int .i64 0, .slice none 0 0, .slice none 0 0, .slice none 0 0, .slice none 0 0, .slice none 0 0] 97)) (hf.fs.ok hok) (fun k => k.ok hok) (fun k => k.okk hok)
/-- The variable first, then the call. -/
theorem taken_old (W1 wr w w' : World) (p : Nat) (i t : Int) (L : Nat) (bs : List B8) (cf : Cfg) (tm : Int) (was a bx bz : Nat) (xs : List Value) (now : Nat) (wh : Bool) (i' t' : Int) (s' : S4) (A' : Option Addr) (n' c' nw : Nat) (hLb : bs.length ≤ 100000) (hW1 : W1.heap.size ≤ wr.heap.size)
    (l0 : cf.vs.length ≤ 100000) (l1 : cf.os.length ≤ 100000) (l2 : cf.ls.length ≤ 100000) (l3 : cf.ws.length ≤ 100000) (hbx : wr.heap.size ≤ bx) (hxr : w.rangeAt bx 0 xs) (hp : p < wr.heap.size) (hb1 : bx < bz) (hb2 : bz < w.heap.size) (ht : w.there bz 0 7)
    (h0 : Ok W1 w' ∧ w.heap.size ≤ w'.heap.size ∧ Keep wr.heap.size w w') (hf : FSo p i t L bs nw wr.heap.size w.heap.size w')
    (h : (wh = false ∧ now ≤ L ∧ nw ≤ L ∧ ((tm = 4 ∧ now = nw ∧ was ≤ nw ∧ nw = max was (min (a + 600) L) ∧ nw ≠ L) ∨ (tm = 9 ∧ nw = was))) ∨
     (wh = true ∧ now = L ∧ i' = i ∧ t' = t ∧ n' = L ∧ nw = 0 ∧ CfgOwn w' w.heap.size s' cf ∧ OwnN w' w.heap.size (.slice A' n' c') bs ∧ max was (min (a + 600) L) = L ∧ tm = 4)) :
    TakR W1 p i t L bs cf tm was a bx xs (.int .i64 (now : Int)) (.bool wh) (.pointer (some ⟨bz, 0, none⟩)) (w'.setCells bz 0 [.int .i64 i', .int .i64 t', .slice s'.A0 s'.n0 s'.c0, .slice s'.A1 s'.n1 s'.c1, .slice s'.A2 s'.n2 s'.c2, .slice s'.A3 s'.n3 s'.c3, .slice A' n' c']) :=
  taken_r W1 wr w w' _ p i t L bs cf tm was a bx _ xs now wh i' t' s' A' n' c' nw hLb l0 l1 l2 l3 h (Ok.sets (by omega) _ _ _ h0.1) (World.rangeAt_setCells_apart (h0.2.2.range hxr hbx) bz 0 _ (.inl (by omega)))
    (World.rangeAt_setCells_same _ _ 0 _ (h0.2.2.there ht (by omega))) (hf.fars bz (by omega) (by omega) hb2 _) (sets_own _ 0 _ _ hb2).1 (sets_own _ 0 _ _ hb2).2
end Go.Proofs.Ytolfdncmlfnbdaa
namespace Go.Proofs.Ytolfdncmlfnbdaa
open Go.RowKit

/-- .. where the piece lies before the ferry. -/
theorem take_in (W1 wr w : World) (p : Nat) (hp : W1.heap.size = p) (tm i t : Int) (s : S4) (cf : Cfg) (L was a m d : Nat) (B : Option Addr) (bs ps : List B8) (hL : L = bs.length) (hps : (bs.drop a).take 600 = ps) (hm : m = ps.length) (h1 : L ≤ 4000) (haw : a ≤ was) (hwL : was ≤ L)
    (htm : tm = 4 ∨ (tm = 9 ∧ 0 < a)) (hok : Ok W1 wr) (hfs : FS p i t L bs was wr) (hox : Ok wr w) (hx : ∀ w', Ok W1 w' → CfgAt w' s cf ∧ BytesIn w' (.slice B m d) ps)
    (l0 : cf.vs.length ≤ 100000) (l1 : cf.os.length ≤ 100000) (l2 : cf.ls.length ≤ 100000) (l3 : cf.ws.length ≤ 100000) :
    Calls Try.prog 77 #[.pointer (some ⟨p, 0, none⟩), .agg #[.int .u8 5, .int .i64 0, .int .i64 1, .int .i64 2, .int .i64 tm, .int .i64 0, .int .i64 0, .int .i64 0, .bool false, .slice none 0 0, .int .i64 i, .int .i64 t, .slice s.A0 s.n0 s.c0, .slice s.A1 s.n1 s.c1, .slice s.A2 s.n2 s.c2, .slice s.A3 s.n3 s.c3, .int .i64 (L : Int), .int .i64 (a : Int), .int .i64 0, .slice B m d]] w (TakenP W1 wr p i t L bs cf tm was a w) := by
  have e600 : ps.length = min 600 (L - a) := by rw [← hps, List.length_take, List.length_drop, hL]
  have h3 : m ≤ L - a := by omega
  have hz : ∀ (tm0 i0 t0 z0 : Int) (u0 : Bool) (A : Option Addr) (n c : Nat) (xs : List B8) (_ : FAt p tm0 i0 t0 z0 u0 A n c xs wr) (w' : World), Fr p A n c w w' → CfgAt w' s cf ∧ BytesIn w' (.slice B m d) ps :=
    fun _ _ _ _ _ _ _ _ _ hf w' k => hx w' (Below.trans (hok.trans hox) (k.below (hf.ok hox) (Nat.le_of_eq hp)))
  rcases hfs with ⟨hw0, hf⟩ | ⟨hwl, A, c, hf⟩
  · have ha0 : a = 0 := by omega
    have htm4 : tm = 4 := by rcases htm with h | ⟨_, h⟩; exact h; omega
    subst htm4
    refine (takeBegin0 p 4 i t s cf L a m d B none 0 0 [] ps w (hf.ok hox) ⟨rfl, rfl, rfl, rfl⟩ ha0 hm (by omega) (by omega) h3 (by omega) (by omega) (hz _ _ _ _ _ _ _ _ _ hf) l0 l1 l2 l3).mono ?_
    intro e w' h
    have hl := laid_take bs 0 a (by omega) (by omega)
    rw [hps, List.take_zero, ← hL] at hl
    rw [hl, show 0 = was from hw0.symm] at h
    subst hw0
    exact yes_taken W1 wr w w' p hp i t cf L _ a bs hL hwL hok hox _ _ _ _ _ _ _ _ _ hf e h
  · rcases htm with rfl | ⟨rfl, ha⟩
    · refine (takeSame0 p 4 i t s cf L a m d B A was c (bs.take was) ps w (hf.ok hox) hm (by omega) (by omega) h3 haw hwL (hz _ _ _ _ _ _ _ _ _ hf) l0 l1 l2 l3).mono ?_
      intro e w' h
      have hl := laid_take bs was a haw (by omega)
      rw [hps, ← hL] at hl
      rw [hl] at h
      exact yes_taken W1 wr w w' p hp i t cf L was a bs hL hwL hok hox _ _ _ _ _ _ _ _ _ hf e h
    · refine (takeNo0 p 9 i t s L a m d B A was c (bs.take was) w (hf.ok hox) rfl ha (by omega) (by omega) h3).mono ?_
      rintro e w' ⟨he, hf', k⟩
      exact ⟨0, false, 0, 0, ⟨none, 0, 0, none, 0, 0, none, 0, 0, none, 0, 0⟩, none, 0, 0, was, he, ⟨(hok.trans hox).trans k, k.size, fun b _ hs => k.block b hs⟩, .inr ⟨hwl, A, c, hf', fun j h1 _ e' => by have := (hf.ownGe j e').2; omega⟩, .inl ⟨rfl, by omega, hwL, .inr ⟨rfl, rfl⟩⟩⟩
/-- .. where the piece lies before the ferry. -/
theorem taken_new2 (W1 wr w w' : World) (p : Nat) (i t : Int) (L : Nat) (bs : List B8) (cf : Cfg) (tm : Int) (was a bx bz : Nat) (hbz : w'.heap.size = bz) (xs : List Value) (now : Nat) (wh : Bool) (i' t' : Int) (s' : S4) (A' : Option Addr) (n' c' nw : Nat) (hLb : bs.length ≤ 100000)
    (l0 : cf.vs.length ≤ 100000) (l1 : cf.os.length ≤ 100000) (l2 : cf.ls.length ≤ 100000) (l3 : cf.ws.length ≤ 100000) (hxr : ∀ w', Ok W1 w' → w'.rangeAt bx 0 xs)
    (h0 : Ok W1 w' ∧ w.heap.size ≤ w'.heap.size ∧ Keep wr.heap.size w w') (hf : FSo p i t L bs nw wr.heap.size w.heap.size w')
    (h : (wh = false ∧ now ≤ L ∧ nw ≤ L ∧ ((tm = 4 ∧ now = nw ∧ was ≤ nw ∧ nw = max was (min (a + 600) L) ∧ nw ≠ L) ∨ (tm = 9 ∧ nw = was))) ∨
     (wh = true ∧ now = L ∧ i' = i ∧ t' = t ∧ n' = L ∧ nw = 0 ∧ CfgOwn w' w.heap.size s' cf ∧ OwnN w' w.heap.size (.slice A' n' c') bs ∧ max was (min (a + 600) L) = L ∧ tm = 4)) :
    TakR W1 p i t L bs cf tm was a bx xs (.int .i64 (now : Int)) (.bool wh) (.pointer (some ⟨bz, 0, none⟩)) ((w'.alloc (.cells #[.int .i64 0, .int .i64 0, .slice none 0 0, .slice none 0 0, .slice none 0 0, .slice none 0 0, .slice none 0 0] 97)).setCells bz 0 [.int .i64 i', .int .i64 t', .slice s'.A0 s'.n0 s'.c0, .slice s'.A1 s'.n1 s'.c1, .slice s'.A2 s'.n2 s'.c2, .slice s'.A3 s'.n3 s'.c3, .slice A' n' c']) := by
  subst hbz
  have hok : Ok w' ((w'.alloc (.cells #[.int .i64 0, .int .i64 0, .slice none 0 0, .slice none 0 0, .slice none 0 0, .slice none 0 0, .slice none 0 0] 97)).setCells w'.heap.size 0 [.int .i64 i', .int .i64 t', .slice s'.A0 s'.n0 s'.c0, .slice s'.A1 s'.n1 s'.c1, .slice s'.A2 s'.n2 s'.c2, .slice s'.A3 s'.n3 s'.c3, .slice A' n' c']) := Ok.sets (Nat.le_refl _) _ _ _ ((Ok.refl w').alloc _)
  exact taken_r W1 wr w w' _ p i t L bs cf tm was a bx _ xs now wh i' t' s' A' n' c' nw hLb l0 l1 l2 l3 h (h0.1.trans hok) (hxr _ (h0.1.trans hok))
    (World.rangeAt_setCells_same _ _ 0 _ (there_new w' #[.int .i64 0, .int .i64 0, .slice none 0 0, .slice none 0 0, .slice none 0 0, .slice none 0 0, .slice none 0 0] 97)) (hf.fs.ok hok) (fun k => k.ok hok) (fun k => k.okk hok)
end Go.Proofs.Ytolfdncmlfnbdaa
