/- Contracts: those of a row that don't vote; whether what is wanted, and those that learn, are as they must be of each other. -/
import Derived.Test.YtolfdncmlfnbdaaQd
import Derived.Deep.RegionHeld3
import Derived.Deep.Onto
namespace Go.Proofs.Ytolfdncmlfnbdaa
open Go.RowKit

theorem CfgIn.forms {w : World} {v : Value} {c : Cfg} (h : CfgIn w v c) : ∃ A0 c0 A1 c1 A2 c2 A3 c3, v = .agg #[.slice A0 c.vs.length c0, .slice A1 c.os.length c1, .slice A2 c.ls.length c2, .slice A3 c.ws.length c3] ∧
    InI w (.slice A0 c.vs.length c0) c.vs ∧ InI w (.slice A1 c.os.length c1) c.os ∧ InI w (.slice A2 c.ls.length c2) c.ls ∧ InI w (.slice A3 c.ws.length c3) c.ws := by
  obtain ⟨a, b, d, e, rfl, h1, h2, h3, h4⟩ := h
  obtain ⟨A0, c0, rfl, _⟩ := h1.form
  obtain ⟨A1, c1, rfl, _⟩ := h2.form
  obtain ⟨A2, c2, rfl, _⟩ := h3.form
  obtain ⟨A3, c3, rfl, _⟩ := h4.form
  exact ⟨A0, c0, A1, c1, A2, c2, A3, c3, rfl, h1, h2, h3, h4⟩
theorem CfgIn.of {w : World} {v0 v1 v2 v3 : Value} {c : Cfg} (h1 : InI w v0 c.vs) (h2 : InI w v1 c.os) (h3 : InI w v2 c.ls) (h4 : InI w v3 c.ws) : CfgIn w (.agg #[v0, v1, v2, v3]) c := ⟨_, _, _, _, rfl, h1, h2, h3, h4⟩
theorem box_cell (w : World) (cs : Array Value) (t : TypeId) (j : Nat) (v : Value) (h : cs[j]? = some v) : (w.alloc (.cells cs t)).cell? ⟨w.heap.size, j, none⟩ = some v := by
  rw [cell_of_row _ _ _ _ _ _ (heap_alloc_new w _)]; exact h
/-- A configuration that lies in four cells of block g. -/
def At (w : World) (g : Nat) (v0 v1 v2 v3 : Value) : Prop := w.cell? ⟨g, 0, none⟩ = some v0 ∧ w.cell? ⟨g, 1, none⟩ = some v1 ∧ w.cell? ⟨g, 2, none⟩ = some v2 ∧ w.cell? ⟨g, 3, none⟩ = some v3
theorem At.new (w : World) (v0 v1 v2 v3 : Value) (t : TypeId) : At (w.alloc (.cells #[v0, v1, v2, v3] t)) w.heap.size v0 v1 v2 v3 :=
  ⟨box_cell _ _ _ _ _ rfl, box_cell _ _ _ _ _ rfl, box_cell _ _ _ _ _ rfl, box_cell _ _ _ _ _ rfl⟩
theorem At.ok {w w' : World} {g : Nat} {v0 v1 v2 v3 : Value} (h : At w g v0 v1 v2 v3) (k : Ok w w') : At w' g v0 v1 v2 v3 := ⟨k.cell h.1, k.cell h.2.1, k.cell h.2.2.1, k.cell h.2.2.2⟩

theorem newsL_take (v want : List Int) (k : Nat) (h : k < want.length) : newsL v (want.take (k + 1)) = newsL v (want.take k) ++ (if inB (want.getD k 0) v then [] else [want.getD k 0]) := by
  rw [List.take_succ_eq_append_getElem h, newsL, newsL, List.filter_append]
  have : want.getD k 0 = want[k] := by simp [h]
  rw [this]
  cases hb : inB want[k] v <;> simp [hb]
theorem newsL_len (v want : List Int) : (newsL v want).length ≤ want.length := List.length_filter_le _ _

set_option maxRecDepth 100000 in
set_option maxHeartbeats 2000000 in
theorem news_q (v vw : Value) (c : Cfg) (want : List Int) (W : World) (h : CfgIn W v c) (hw : InI W vw want) (hl : want.length ≤ 1000) :
    Calls Try.prog 105 #[v, vw] W fun e w' => (∃ A cc, e = .returned (.slice A (newsL c.vs want).length cc) ∧ OwnZ w' W.heap.size (.slice A (newsL c.vs want).length cc) (newsL c.vs want)) ∧ Ok W w' := by
  obtain ⟨A0, c0, A1, c1, A2, c2, A3, c3, rfl, h1, _, _, _⟩ := h.forms
  obtain ⟨B, cb, rfl, _⟩ := hw.form
  have H1 := Lib.hid h1
  have HW := Lib.hid hw
  clear h h1 hw
  generalize hn : want.length = n at *
  have HN := Lib.hid hn
  clear hn
  have HG : Hid (W.heap.size < (W.alloc (.cells #[.slice A0 c.vs.length c0, .slice A1 c.os.length c1, .slice A2 c.ls.length c2, .slice A3 c.ws.length c3] 157)).heap.size) := Lib.hid (by rw [World.size_alloc]; omega)
  have HOK0 : Hid (Ok W (W.alloc (.cells #[.slice A0 c.vs.length c0, .slice A1 c.os.length c1, .slice A2 c.ls.length c2, .slice A3 c.ws.length c3] 157))) := Lib.hid ((Ok.refl W).alloc _)
  have hcell : (W.alloc (.cells #[.slice A0 c.vs.length c0, .slice A1 c.os.length c1, .slice A2 c.ls.length c2, .slice A3 c.ws.length c3] 157)).cell? ⟨W.heap.size, 0, none⟩ = some (.slice A0 c.vs.length c0) := box_cell _ _ _ _ _ rfl
  go_enter Try.func105, Try.ntmps105
  go_wp2_with fail
  generalize (W.alloc (.cells #[.slice A0 c.vs.length c0, .slice A1 c.os.length c1, .slice A2 c.ls.length c2, .slice A3 c.ws.length c3] 157)) = W1 at *
  go_loopw [5, 10] (fun l i wr => ∃ (k : Nat) (A : Option Addr) (cc : Nat), k ≤ n ∧ i = .int .i64 k ∧ l = .slice A (newsL c.vs (want.take k)).length cc ∧ OwnZ wr W1.heap.size (.slice A (newsL c.vs (want.take k)).length cc) (newsL c.vs (want.take k)) ∧ Ok W1 wr) (fun _ i _ => n - (intOf i).toNat)
  case atStart => exact ⟨0, none, 0, Nat.zero_le _, rfl, rfl, OwnZ.nil _ _, Ok.refl _⟩
  case round =>
    obtain ⟨k, A, cc, hk, rfl, rfl, hown, hok⟩ := hrel
    have HO := Lib.hid hok
    have HOW := Lib.hid hown
    have hc0 := hok.cell hcell
    clear hok hown
    by_cases hlt : k < n
    · obtain ⟨b, o, rfl, hc⟩ := ((HO.out.ints (HOK0.out.ints HW.out)).at rfl k hlt).2
      have HT := Lib.hid (newsL_take c.vs want k (by rw [HN.out]; exact hlt))
      have HLL : Hid ((newsL c.vs (want.take k)).length ≤ k) := Lib.hid (Nat.le_trans (newsL_len _ _) (List.length_take_le _ _))
      generalize want.getD k 0 = y at *
      have hi0 : (0 : Int) ≤ (k : Int) := Int.natCast_nonneg _
      have hi1 : (k : Int) < (n : Int) := by omega
      go_wp2_with fail
      refine (contains_q _ y c.vs _ (HO.out.ints (HOK0.out.ints H1.out))).mono ?_
      rintro e w1 ⟨rfl, rfl⟩
      cases hin : inB y c.vs with
      | true =>
        have HT2 : Hid (newsL c.vs (want.take (k + 1)) = newsL c.vs (want.take k)) := Lib.hid (by rw [HT.out, hin]; simp)
        clear hin HT
        go_wp2_with fail
        go_roundw
        case rel => exact ⟨k + 1, A, cc, by omega, by go_num, by rw [HT2.out], by rw [HT2.out]; exact HOW.out, HO.out⟩
        case measure => simp [intOf]; omega
      | false =>
        have HT2 : Hid (newsL c.vs (want.take (k + 1)) = newsL c.vs (want.take k) ++ [y]) := Lib.hid (by rw [HT.out, hin]; simp)
        clear hin HT
        have HNEW : Hid (InI (wr.alloc (.cells #[.int .i64 y] 3)) (.slice (some ⟨wr.heap.size, 0, none⟩) 1 1) [y]) := Lib.hid (ints_new wr [y] _ 3 _ _ _ 1 rfl rfl (by decide) (by simp) rfl)
        have HOW2 : Hid (OwnZ (wr.alloc (.cells #[.int .i64 y] 3)) W1.heap.size (.slice A (newsL c.vs (want.take k)).length cc) (newsL c.vs (want.take k))) := Lib.hid (HOW.out.ok ((Ok.refl wr).alloc _))
        have HSZ : Hid (W1.heap.size ≤ wr.heap.size) := Lib.hid HO.out.size
        have HO2 : Hid (Ok W1 (wr.alloc (.cells #[.int .i64 y] 3))) := Lib.hid (HO.out.alloc _)
        generalize hL : (newsL c.vs (want.take k)).length = L at *
        have HL := Lib.hid hL
        clear hL
        go_wp2_with (at_builtin; go_must (refine wpList_appZ rfl (.tmp 20) (.tmp 22) rfl W1.heap.size (.slice A L cc) (newsL c.vs (want.take k)) [y] (.slice (some ⟨wr.heap.size, 0, none⟩) 1 1) rfl rfl HOW2.out HNEW.out (by have := HLL.out; rw [HL.out]; simp; omega) (by have := HSZ.out; rw [World.size_alloc]; omega) ?_; intro A' c' w2 hown2 hbel2; have HOWN2 := Lib.hid hown2; have HBEL2 := Lib.hid hbel2; clear hown2 hbel2; rw [HL.out]))
        go_roundw
        case rel => exact ⟨k + 1, A', c', by omega, by go_num, by rw [HT2.out, List.length_append, HL.out]; rfl, by have := HOWN2.out; rw [HL.out] at this; rw [HT2.out, List.length_append, HL.out]; exact this, Below.trans HO2.out HBEL2.out⟩
        case measure => simp [intOf]; omega
    · have hke : k = n := by omega
      subst hke
      have HE : Hid (want.take k = want) := Lib.hid (List.take_of_length_le (by rw [HN.out]; exact Nat.le_refl _))
      rw [HE.out] at HOW ⊢
      go_wp2_with fail
      go_ret
      exact ⟨⟨A, cc, rfl, World.ownsRow.mono HOW.out HOK0.out.size⟩, HOK0.out.trans HO.out⟩

/-- 'Ok', shut. -/
structure OkS (w w' : World) : Prop where
  out : Ok w w'
theorem S5 {w1 w' : World} {g : Nat} {v0 v1 v2 v3 : Value} (h : At w1 g v0 v1 v2 v3) (k : Ok w1 w') :
    w'.cell? ⟨g, 0, none⟩ = some v0 ∧ w'.cell? ⟨g, 1, none⟩ = some v1 ∧ w'.cell? ⟨g, 2, none⟩ = some v2 ∧ w'.cell? ⟨g, 3, none⟩ = some v3 ∧ OkS w1 w' :=
  ⟨k.cell h.1, k.cell h.2.1, k.cell h.2.2.1, k.cell h.2.2.2, ⟨k⟩⟩
theorem noB_int (l : List Int) (n : Nat) (h : l.length = n) : ((n : Int) == 0) = noB l := by
  subst h
  unfold noB
  by_cases h0 : l.length = 0
  · rw [decide_eq_true h0]; simp [h0]
  · rw [decide_eq_false h0]; exact beq_eq_false_iff_ne.2 (by omega)
theorem noB_nat (l : List Int) (n : Nat) (h : l.length = n) : decide (0 < n) = !noB l := by
  subst h
  unfold noB
  by_cases h0 : l.length = 0
  · rw [decide_eq_true h0, decide_eq_false (by omega)]; rfl
  · rw [decide_eq_false h0, decide_eq_true (by omega)]; rfl

set_option maxRecDepth 100000 in
set_option maxHeartbeats 4000000 in
theorem wanting_q (v : Value) (c : Cfg) (W : World) (h : CfgIn W v c) (hl : c.ws.length ≤ 1000) :
    Calls Try.prog 111 #[v] W fun e w' => e = .returned (.bool (wantB c)) ∧ Ok W w' := by
  obtain ⟨A0, c0, A1, c1, A2, c2, A3, c3, rfl, h1, h2, h3, h4⟩ := h.forms
  have HC := Lib.hid h
  have H1 := Lib.hid h1
  have H3 := Lib.hid h3
  have H4 := Lib.hid h4
  clear h h1 h2 h3 h4
  have HD : Hid (wantB c = if noB c.ws then noB c.ls else if noB c.os then !sameB c.ws c.vs && sameB c.ls (newsL c.vs c.ws) else sameB c.ws c.vs && noB c.ls) := Lib.hid rfl
  have HAT0 : Hid (At (W.alloc (.cells #[.slice A0 c.vs.length c0, .slice A1 c.os.length c1, .slice A2 c.ls.length c2, .slice A3 c.ws.length c3] 157)) W.heap.size (.slice A0 c.vs.length c0) (.slice A1 c.os.length c1) (.slice A2 c.ls.length c2) (.slice A3 c.ws.length c3)) := Lib.hid (At.new _ _ _ _ _ _)
  have HOK0 : Hid (Ok W (W.alloc (.cells #[.slice A0 c.vs.length c0, .slice A1 c.os.length c1, .slice A2 c.ls.length c2, .slice A3 c.ws.length c3] 157))) := Lib.hid ((Ok.refl W).alloc _)
  have hz3 := noB_int c.ws _ rfl
  have hz2 := noB_int c.ls _ rfl
  generalize hn0 : c.vs.length = n0 at *
  generalize hn1 : c.os.length = n1 at *
  generalize hn2 : c.ls.length = n2 at *
  generalize hn3 : c.ws.length = n3 at *
  clear hn0 hn1 hn2
  cases hw : noB c.ws with
  | true =>
    rw [hw] at hz3 HD
    go_enter Try.func111, Try.ntmps111
    go_wp2_with fail
    go_ret
    exact ⟨by rw [HD.out]; rfl, HOK0.out⟩
  | false =>
    rw [hw] at hz3 HD
    go_enter Try.func111, Try.ntmps111
    go_wp2_with fail
    refine (joint_q _ c _ (HOK0.out.cfg HC.out)).mono ?_
    rintro e w1 ⟨rfl, hok1⟩
    have hat := HAT0.out.ok hok1
    have HO1 : Hid (Ok W w1) := Lib.hid (HOK0.out.trans hok1)
    clear hok1 HAT0 HOK0
    have HAT := Lib.hid hat
    obtain ⟨hc0, hc1, hc2, hc3⟩ := hat
    cases ho : noB c.os with
    | true =>
      rw [ho] at HD
      have HEQ : Hid (∀ w, Ok w1 w → Calls Try.prog 103 #[.slice A3 n3 c3, .slice A0 n0 c0] w fun e w' => e = .returned (.bool (sameB c.ws c.vs)) ∧ Ok w w') := Lib.hid fun w hw =>
        equal_q _ _ c.ws c.vs w ((HO1.out.trans hw).ints H4.out) ((HO1.out.trans hw).ints H1.out)
      have HED : Hid (∀ m, Calls Try.prog 103 #[.slice A3 n3 c3, .slice A0 n0 c0] (w1.drewN m) fun e w' => e = .returned (.bool (sameB c.ws c.vs)) ∧ ∃ k, w' = w1.drewN k) := Lib.hid fun m =>
        (equal_d _ _ c.ws c.vs _ ((HO1.out.drewN' m).ints H4.out) ((HO1.out.drewN' m).ints H1.out)).mono fun _ _ h => ⟨h.1, Dr.trans ⟨m, rfl⟩ h.2⟩
      have HNW : Hid (∀ w, Ok w1 w → Calls Try.prog 105 #[.agg #[.slice A0 n0 c0, .slice A1 n1 c1, .slice A2 n2 c2, .slice A3 n3 c3], .slice A3 n3 c3] w fun e w' =>
          (∃ A cc, e = .returned (.slice A (newsL c.vs c.ws).length cc) ∧ InI w' (.slice A (newsL c.vs c.ws).length cc) (newsL c.vs c.ws)) ∧ Ok w w') := Lib.hid fun w hw =>
        (news_q _ _ c c.ws w ((HO1.out.trans hw).cfg HC.out) ((HO1.out.trans hw).ints H4.out) (by omega)).mono fun _ _ ⟨⟨A, cc, he, ho⟩, hk⟩ => ⟨⟨A, cc, he, ho.ints (Nat.le_trans (newsL_len _ _) (by omega))⟩, hk⟩
      have HEN : Hid (∀ w A cc, Ok w1 w → InI w (.slice A (newsL c.vs c.ws).length cc) (newsL c.vs c.ws) → Calls Try.prog 103 #[.slice A2 n2 c2, .slice A (newsL c.vs c.ws).length cc] w fun e w' =>
          e = .returned (.bool (sameB c.ls (newsL c.vs c.ws))) ∧ Ok w w') := Lib.hid fun w A cc hw hi =>
        equal_q _ _ c.ls _ w ((HO1.out.trans hw).ints H3.out) hi
      clear HC H1 H3 H4 hw ho hz2 hz3 hn3
      generalize (newsL c.vs c.ws).length = M at *
      generalize newsL c.vs c.ws = nl at *
      cases hs : sameB c.ws c.vs with
      | true =>
        rw [hs] at HD HEQ HED
        clear HEN HNW hs
        go_wp2_with fail
        go_quiet ((go_at_call 103; exact HED.out _))
        go_wp2_with fail
        go_ret
        exact ⟨by rw [HD.out]; rfl, HO1.out.drewN' _⟩
      | false =>
        rw [hs] at HD HEQ HED
        clear hs
        go_wp2_with fail
        go_region_held3 (fun w' => w'.cell? ⟨W.heap.size, 0, none⟩ = some (.slice A0 n0 c0) ∧ w'.cell? ⟨W.heap.size, 1, none⟩ = some (.slice A1 n1 c1) ∧ w'.cell? ⟨W.heap.size, 2, none⟩ = some (.slice A2 n2 c2) ∧ w'.cell? ⟨W.heap.size, 3, none⟩ = some (.slice A3 n3 c3) ∧ OkS w1 w')
          (exact S5 HAT.out (by (repeat (first | (with_reducible exact Ok.refl _) | (with_reducible refine Ok.drew ?_) | (with_reducible refine Ok.trans ?_ (by assumption))))))
          ((first
            | (go_at_call 103; (with_reducible refine (HEQ.out _ ?_).mono ?_); (repeat (first | (with_reducible exact Ok.refl _) | (with_reducible refine Ok.drew ?_) | (with_reducible refine Ok.trans ?_ (by assumption)))); rintro e wc ⟨rfl, hbc⟩)
            | (go_at_call 105; (with_reducible refine (HNW.out _ ?_).mono ?_); (repeat (first | (with_reducible exact Ok.refl _) | (with_reducible refine Ok.drew ?_) | (with_reducible refine Ok.trans ?_ (by assumption)))); rintro e wc ⟨⟨A, cc, rfl, hni⟩, hbc⟩)
            | (go_at_call 103; (with_reducible refine (HEN.out _ _ _ ?_ (by assumption)).mono ?_); (repeat (first | (with_reducible exact Ok.refl _) | (with_reducible refine Ok.drew ?_) | (with_reducible refine Ok.trans ?_ (by assumption)))); rintro e wc ⟨rfl, hbc⟩)))
        all_goals go_wp2_with fail
        all_goals go_ret
        all_goals exact ⟨by rw [HD.out]; rfl, HO1.out.trans (by (repeat (first | (with_reducible exact Ok.refl _) | (with_reducible refine Ok.drew ?_) | (with_reducible refine Ok.trans ?_ (by assumption)))))⟩
    | false =>
      rw [ho] at HD
      go_wp2_with fail
      refine (equal_q _ _ c.ws c.vs _ (HO1.out.ints H4.out) (HO1.out.ints H1.out)).mono ?_
      rintro e w2 ⟨rfl, hok2⟩
      obtain ⟨hd0, hd1, hd2, hd3⟩ := HAT.out.ok hok2
      have HO2 : Hid (Ok W w2) := Lib.hid (HO1.out.trans hok2)
      clear hok2 hc0 hc1 hc2 hc3
      cases hs : sameB c.ws c.vs with
      | true =>
        rw [hs] at HD
        go_wp2_with fail
        go_ret
        exact ⟨by rw [HD.out]; rfl, HO2.out⟩
      | false =>
        rw [hs] at HD
        go_wp2_with fail
        go_ret
        exact ⟨by rw [HD.out]; rfl, HO2.out⟩
end Go.Proofs.Ytolfdncmlfnbdaa
