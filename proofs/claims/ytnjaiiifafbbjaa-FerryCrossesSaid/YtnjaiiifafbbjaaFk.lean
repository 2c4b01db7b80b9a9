/- An image of the example. -/
import Derived.Test.YtnjaiiifafbbjaaFi
import Derived.Test.YtnjaiiifafbbjaaK
namespace Go.Proofs.Ytnjaiiifafbbjaa
open Go.RowKit

/-- An image of base 3, 2, of so many bytes. -/
def PlainP (W : World) (n : Nat) (e : Ending) (w' : World) : Prop := ∃ A c xs, e = .returned (.agg #[.int .i64 3, .int .i64 2, .slice none 0 0, .slice none 0 0, .slice none 0 0, .slice none 0 0, .slice A n c]) ∧ BytesIn w' (.slice A n c) xs ∧ xs.length = n ∧ Ok W w'
/-- What stands while it is made. -/
def PL (W : World) (g k : Nat) (w : World) : Prop := ∃ A c xs, Seven (g + 1) (.int .i64 3) (.int .i64 2) (.slice none 0 0) (.slice none 0 0) (.slice none 0 0) (.slice none 0 0) (.slice A k c) w ∧ OwnN w (g + 2) (.slice A k c) xs ∧ xs.length = k ∧
  Seven g (.int .i64 0) (.int .i64 0) (.slice none 0 0) (.slice none 0 0) (.slice none 0 0) (.slice none 0 0) (.slice none 0 0) w ∧ Ok W w
theorem Seven.away {g : Nat} {v0 v1 v2 v3 v4 v5 v6 : Value} {w : World} (h : Seven g v0 v1 v2 v3 v4 v5 v6 w) (q o : Nat) (x : Value) (hq : q ≠ g) : Seven g v0 v1 v2 v3 v4 v5 v6 (w.setCell ⟨q, o, none⟩ x) := by
  have k : ∀ j u, w.cell? ⟨g, j, none⟩ = some u → (w.setCell ⟨q, o, none⟩ x).cell? ⟨g, j, none⟩ = some u := fun j u hc => by
    rw [World.cell?_setCell_other _ _ _ _ (fun e => hq (congrArg Addr.block e))]; exact hc
  exact ⟨k _ _ h.c0, k _ _ h.c1, k _ _ h.c2, k _ _ h.c3, k _ _ h.c4, k _ _ h.c5, k _ _ h.c6, fun j => by rw [World.frozen?_setCell]; exact h.f j⟩
theorem u8_range (n : Int) : 0 ≤ IntKind.u8.wrap n ∧ IntKind.u8.wrap n ≤ 255 := by
  rw [show IntKind.u8.wrap n = n % 256 from by simp only [IntKind.wrap_u8]]; omega
theorem one_byte (w : World) (v : Int) (h : 0 ≤ v ∧ v ≤ 255) : ∃ b : B8, BytesIn (w.alloc (.cells #[.int .u8 v] 5)) (.slice (some ⟨w.heap.size, 0, none⟩) 1 1) [b] :=
  ⟨BitVec.ofInt 8 v, bytes_new w [BitVec.ofInt 8 v] #[.int .u8 v] 5 _ _ _ _ rfl rfl (Nat.le_refl _) (by simp) (by simp [ub_of h])⟩
set_option maxRecDepth 100000 in
set_option maxHeartbeats 4000000 in
theorem plain_f (n : Nat) (W : World) (hn : n ≤ 100000) : Calls Try.prog 91 #[.int .i64 (n : Int)] W (PlainP W n) := by
  have HP : Hid (PL W W.heap.size 0 ((W.alloc (.cells #[.int .i64 0, .int .i64 0, .slice none 0 0, .slice none 0 0, .slice none 0 0, .slice none 0 0, .slice none 0 0] 75)).alloc (.cells #[.int .i64 3, .int .i64 2, .slice none 0 0, .slice none 0 0, .slice none 0 0, .slice none 0 0, .slice none 0 0] 75))) := Lib.hid (by
    refine ⟨none, 0, [], ?_, OwnN.nil _ _, rfl, (Seven.new _ _ _ _ _ _ _ _ _).ok ((Ok.refl _).alloc _), ((Ok.refl W).alloc _).alloc _⟩
    have := Seven.new (W.alloc (.cells #[.int .i64 0, .int .i64 0, .slice none 0 0, .slice none 0 0, .slice none 0 0, .slice none 0 0, .slice none 0 0] 75)) (.int .i64 3) (.int .i64 2) (.slice none 0 0) (.slice none 0 0) (.slice none 0 0) (.slice none 0 0) (.slice none 0 0) 75
    rwa [World.size_alloc] at this)
  go_enter Try.func91, Try.ntmps91
  go_wp2_with fail
  go_loopw [4] (fun i wr => ∃ k : Nat, k ≤ n ∧ i = .int .i64 k ∧ PL W W.heap.size k wr) (fun i _ => n - (intOf i).toNat)
  case atStart => exact ⟨0, Nat.zero_le _, rfl, HP.out⟩
  case round =>
    obtain ⟨k, hk, rfl, hpl⟩ := hrel
    obtain ⟨A, c, xs, h1, h2, h3, h4, h5⟩ := hpl
    have H1 := Lib.hid h1
    have H2 := Lib.hid h2
    have H3 := Lib.hid h3
    have H4 := Lib.hid h4
    have H5 := Lib.hid h5
    clear h1 h2 h3 h4 h5 HP
    obtain ⟨g, hg⟩ : ∃ g, W.heap.size = g := ⟨_, rfl⟩
    have HG := Lib.hid hg
    rw [hg] at H1 H2 H4 ⊢
    clear hg
    have hgs : g + 2 ≤ wr.heap.size := by have h1 : g + 1 < wr.heap.size := World.block_lt_of_cell? _ _ H1.out.c0; omega
    by_cases hlt : k < n
    · have d1 : decide (k < n) = true := decide_eq_true hlt
      have hc6 := H1.out.c6
      go_upto_region 5 with fail
      rename_i K0 hK0
      have HK0 := Lib.hid hK0
      clear hK0
      refine wp_region_lit ?_
      refine wpList_step (fun K hK => ?_)
      rw [if_pos (by rfl)]
      go_simp
      refine hK _ _ ?_
      clear hK K
      try go_frame
      refine wpList_step (fun K hK => ?_)
      rw [if_pos (by rfl)]
      go_simp
      refine hK _ _ ?_
      clear hK K
      try go_frame
      refine wpList_step (fun K hK => ?_)
      rw [if_pos (by rfl)]
      go_simp
      refine hK _ _ ?_
      clear hK K
      try go_frame
      refine wpList_step (fun K hK => ?_)
      rw [if_pos (by rfl)]
      go_simp
      refine hK _ _ ?_
      clear hK K
      try go_frame
      refine wpList_step (fun K hK => ?_)
      rw [if_pos (by rfl)]
      go_simp
      refine hK _ _ ?_
      clear hK K
      try go_frame
      refine wpList_step (fun K hK => ?_)
      rw [if_pos (by rfl)]
      go_simp
      refine hK _ _ ?_
      clear hK K
      try go_frame
      obtain ⟨b, hb⟩ := one_byte wr _ (u8_range (IntKind.i64.wrap ((k : Int) * 7)))
      have HB := Lib.hid hb
      have HOA : Hid (Ok wr (wr.alloc (.cells #[.int .u8 (IntKind.u8.wrap (IntKind.i64.wrap ((k : Int) * 7)))] 5))) := Lib.hid ((Ok.refl wr).alloc _)
      clear hb
      generalize wr.alloc (.cells #[.int .u8 (IntKind.u8.wrap (IntKind.i64.wrap ((k : Int) * 7)))] 5) = wz at *
      refine wpList_appN rfl (.tmp 13) (.tmp 17) rfl (g + 2) A k c xs [b] (some ⟨wr.heap.size, 0, none⟩) 1 1 rfl rfl (H2.out.okk HOA.out) HB.out (by rw [H3.out]; simp; omega) (by have := HOA.out.size; omega) ?_
      intro A' c' w2 hown hgrow hob
      have hge : ∀ j, (Value.slice A k c).ownBlock = some j → g + 2 ≤ j := fun j e => (World.ownsRow.lt H2.out j e).1
      have HX := Lib.hid hown
      have HS1 := Lib.hid (Seven.fr (H1.out.ok HOA.out) (Fr.grown (p := g) hgrow) (by omega) (fun e => by have := hge _ e; omega))
      have HS2 := Lib.hid (Seven.fr (H4.out.ok HOA.out) (Fr.grown (p := g + 1) hgrow) (by omega) (fun e => by have := hge _ e; omega))
      have HO2 : Hid (Ok W w2) := Lib.hid (Below.grown (Ok.trans H5.out HOA.out) hgrow (by have := HG.out; have := HOA.out.size; omega) (fun j e => by have := hge j e; have := HG.out; omega))
      clear hown hgrow hob hge hc6
      try go_frame
      have q6 := HS1.out.c6
      have f6 := HS1.out.f 6
      refine wpList_step (fun K hK => ?_)
      rw [if_pos (by rfl)]
      go_simp
      refine hK _ _ ?_
      clear hK K
      try go_frame
      refine wpList_step (fun K hK => ?_)
      rw [if_pos (by rfl)]
      go_simp
      refine hK _ _ ?_
      clear hK K
      try go_frame
      refine wpList_nil ?_
      refine HK0.out _ _ ?_
      clear HK0 q6 f6
      have HPL : Hid (PL W g (k + 1) (w2.setCell ⟨g + 1, 6, none⟩ (.slice A' (k + 1) c'))) := Lib.hid (by
        obtain ⟨e0, e1, e2, e3, e4, e5, e6, ef⟩ := HS1.out
        refine ⟨A', c', xs ++ [b], ⟨?_, ?_, ?_, ?_, ?_, ?_, ?_, fun j => ?_⟩, HX.out.set (g + 1) 6 _ (by omega), by rw [List.length_append, H3.out]; rfl, Seven.away HS2.out (g + 1) 6 _ (by omega), Below.setCell (p := ⟨g + 1, 6, none⟩) HO2.out (by have := HG.out; show W.heap.size ≤ g + 1; omega) _⟩
        · go_cell
        · go_cell
        · go_cell
        · go_cell
        · go_cell
        · go_cell
        · go_cell
        · rw [World.frozen?_setCell]; exact ef j)
      generalize w2.setCell ⟨g + 1, 6, none⟩ (.slice A' (k + 1) c') = w3 at *
      clear HS1 HS2 HO2 HX H1 H2 H3 H4 H5 HB HOA
      go_wp2_with fail
      refine ⟨⟨k + 1, hlt, by go_num, HPL.out⟩, ?_⟩
      show n - ((k : Int) + 1).toNat < n - (k : Int).toNat
      omega
    · have d1 : decide (k < n) = false := decide_eq_false hlt
      obtain rfl : k = n := by omega
      have z0 := H1.out.c0
      have z1 := H1.out.c1
      have z2 := H1.out.c2
      have z3 := H1.out.c3
      have z4 := H1.out.c4
      have z5 := H1.out.c5
      have z6 := H1.out.c6
      have q0 := H4.out.c0
      have q1 := H4.out.c1
      have q2 := H4.out.c2
      have q3 := H4.out.c3
      have q4 := H4.out.c4
      have q5 := H4.out.c5
      have q6 := H4.out.c6
      have y0 := H4.out.f 0
      have y1 := H4.out.f 1
      have y2 := H4.out.f 2
      have y3 := H4.out.f 3
      have y4 := H4.out.f 4
      have y5 := H4.out.f 5
      have y6 := H4.out.f 6
      go_wp2_with fail
      refine bodyPost_ret (v := .agg #[.int .i64 3, .int .i64 2, .slice none 0 0, .slice none 0 0, .slice none 0 0, .slice none 0 0, .slice A k c]) (by simp [results, Try.results91, go_sem, q0, q1, q2, q3, q4, q5, q6]; try rfl) rfl ?_
      refine ⟨A, c, xs, rfl, OwnN.bytes (base := g + 2) ?_ (by rw [H3.out]; omega), H3.out, ?_⟩
      · (repeat (refine OwnN.set ?_ g _ _ (by omega))); exact H2.out
      · show Below W.heap.size W _
        (repeat (refine Below.setCell ?_ (show W.heap.size ≤ g from Nat.le_of_eq HG.out) _)); exact H5.out
end Go.Proofs.Ytnjaiiifafbbjaa
