/- Shares: the document's own Right, In. -/
import Derived.Test.YtdabdkedgigjdaaGreatSe
import Derived.Test.YtdabdkedgigjdaaGreatAB
import Derived.Test.YtdabdkedgigjdaaGreatUR
namespace Go.Proofs.YtdabdkedgigjdaaGreat
open Go.RowKit

theorem all_upto (ep : Int) (xs : List Sh) (h : ∀ j, j < xs.length → shOkB ep (at2 xs j) = true) : xs.all (shOkB ep) = true := by
  rw [List.all_eq_true]
  intro x hx
  obtain ⟨j, hj, rfl⟩ := List.getElem_of_mem hx
  have := h j hj
  rwa [at2_get xs j hj] at this
theorem shares_bad (ep : Int) (xs : List Sh) (j : Nat) (hj : j < xs.length) (h : shOkB ep (at2 xs j) = false) : sharesB ep xs = false := by
  have : xs.all (shOkB ep) = false := by
    rw [List.all_eq_false]
    exact ⟨at2 xs j, by rw [at2_get xs j hj]; exact List.getElem_mem hj, by rw [h]; simp⟩
  unfold sharesB
  rw [this, Bool.and_false]
theorem spans_take (xs : List Sh) (k : Nat) (h : k < xs.length) : (xs.take (k + 1)).map (·.sp) = (xs.take k).map (·.sp) ++ [(at2 xs k).sp] := by
  rw [at2_get xs k h, List.take_succ_eq_append_getElem h, List.map_append]
  rfl

set_option maxRecDepth 100000 in
set_option maxHeartbeats 8000000 in
theorem rsharesRight_w (ep : Int) (A : Option Addr) (n c : Nat) (xs : List Sh) (hn : xs.length = n) (hn6 : n ≤ 1000) (w : World) (hI : SharesAt w A xs) :
    Calls Tryz.prog 20 #[.agg #[.int .i64 ep, .slice A n c]] w (Ret w (.bool (sharesB ep xs))) := by
  obtain ⟨R, hR⟩ : ∃ R, sharesB ep xs = R := ⟨_, rfl⟩
  rw [hR]
  have er : Hid (R = (decide (n ≤ 40) && decide (1 ≤ ep) && decide (ep ≤ 1073741824) && partsM (xs.map (·.sp)) && xs.all (shOkB ep))) := Lib.hid (by
    rw [← hR, sharesB, hn])
  have eb : Hid (∀ j, j < n → shOkB ep (at2 xs j) = false → R = false) := Lib.hid fun j hj h => by rw [← hR]; exact shares_bad ep xs j (by rw [hn]; exact hj) h
  clear hR
  have HPT := Lib.hid (fun A' n' c' ps (hn' : ps.length = n') (h6 : n' ≤ 1000000) w' hI' => rparts_w A' n' c' ps hn' h6 w' hI')
  have HN := Lib.hid hn
  have HI := Lib.hid hI
  clear hI hn
  by_cases h2 : 1 ≤ ep
  · have d2 : decide (ep < 1) = false := decide_eq_false (by omega)
    rw [decide_eq_true h2] at er
    by_cases h3 : ep ≤ 1073741824
    · have d3 : decide (1073741824 < ep) = false := decide_eq_false (by omega)
      rw [decide_eq_true h3] at er
      by_cases h1 : n ≤ 40
      · have d1 : decide ((40 : Int) < (n : Int)) = false := decide_eq_false (by omega)
        rw [decide_eq_true h1] at er
        go_enter Tryz.func20, Tryz.ntmps20
        go_wp2_with fail
        generalize hW : w.alloc (.cells #[.int .i64 ep, .slice A n c] 24) = W1
        have oW : Ok w W1 := by subst hW; exact Ok.alloc (Ok.refl w) _
        have E0 : W1.cell? ⟨w.heap.size, 0, none⟩ = some (.int .i64 ep) := by subst hW; go_cell
        have E1 : W1.cell? ⟨w.heap.size, 1, none⟩ = some (.slice A n c) := by subst hW; go_cell
        clear hW
        have HIW := Lib.hid (HI.out.ok oW)
        go_loopw [3, 4] (fun l i wr => ∃ k : Nat, k ≤ n ∧ i = .int .i64 k ∧ (∀ j, j < k → shOkB ep (at2 xs j) = true) ∧ RowAt W1.heap.size W1 ((xs.take k).map (·.sp)) l wr) (fun _ i _ => n - (intOf i).toNat)
        case atStart => exact ⟨0, Nat.zero_le _, rfl, fun j hj => absurd hj (Nat.not_lt_zero _), none, 0, 0, rfl, ⟨World.ownsRow_nil _ _ _ _, rfl⟩, Ok.refl _⟩
        case round =>
          obtain ⟨k, hk, rfl, hall, A', n', c', rfl, hown, okr⟩ := hrel
          have HALL := Lib.hid hall
          have HOWN := Lib.hid hown
          have HOKR := Lib.hid okr
          have E0 := Ok.cell okr E0
          have E1 := Ok.cell okr E1
          have hsz := okr.size
          have n0 : w.heap.size < wr.heap.size := World.block_lt_of_cell? _ _ E0
          clear hall hown okr
          by_cases hlt : k < n
          · have d4 : decide ((k : Int) < (n : Int)) = true := decide_eq_true (by omega)
            obtain ⟨b, off, rfl, C0, C1, C2, C3⟩ := HIW.out.ok HOKR.out k (by rw [HN.out]; exact hlt)
            have HTK := Lib.hid (spans_take xs k (by rw [HN.out]; exact hlt))
            have HBAD := Lib.hid (eb.out k hlt)
            have HSU : Hid (shOkB ep (at2 xs k) = true → ∀ j, j < k + 1 → shOkB ep (at2 xs j) = true) := Lib.hid fun h j hj => by
              by_cases hjk : j = k
              · rw [hjk]; exact h
              · exact HALL.out j (by omega)
            obtain ⟨⟨⟨sl, sh⟩, sg, se⟩, hs⟩ : ∃ s, at2 xs k = s := ⟨_, rfl⟩
            rw [hs] at C0 C1 C2 C3 HTK HBAD HSU
            simp only at C0 C1 C2 C3 HTK
            clear hs
            have hi0 : (0 : Int) ≤ (k : Int) := Int.natCast_nonneg _
            have hi1 : (k : Int) < (n : Int) := by omega
            have HLE : Hid (((xs.take k).map (·.sp)).length ≤ 1000000) := Lib.hid (by rw [List.length_map, List.length_take]; omega)
            have n1 : ¬ w.heap.size = wr.heap.size := by omega
            have HDEF : Hid (shOkB ep ⟨⟨sl, sh⟩, sg, se⟩ = (decide (1 ≤ sg) && decide (sg ≤ 4) && decide (1 ≤ se) && decide (se ≤ ep))) := Lib.hid rfl
            by_cases g1 : 1 ≤ sg
            · have f1 : decide (sg < 1) = false := decide_eq_false (by omega)
              by_cases g2 : sg ≤ 4
              · have f2 : decide (4 < sg) = false := decide_eq_false (by omega)
                by_cases g3 : 1 ≤ se
                · have f3 : decide (se < 1) = false := decide_eq_false (by omega)
                  by_cases g4 : se ≤ ep
                  · have f4 : decide (ep < se) = false := decide_eq_false (by omega)
                    have HSU2 := Lib.hid (HSU.out (by rw [HDEF.out, decide_eq_true g1, decide_eq_true g2, decide_eq_true g3, decide_eq_true g4]; rfl))
                    have HOWA : Hid (OwnS ((wr.alloc (.cells #[.string sl, .string sh, .int .i64 sg, .int .i64 se] 35)).alloc (.cells #[.string sl, .string sh] 26)) W1.heap.size A' n' c' ((xs.take k).map (·.sp))) := Lib.hid ⟨World.ownsRow.alloc (World.ownsRow.alloc HOWN.out.1 _) _, HOWN.out.2⟩
                    go_wp2_with (at_builtin; go_must (refine wpList_appS rfl (.tmp 52) (.tmp 55) rfl W1.heap.size A' n' c' _ (wr.heap.size + 1) ⟨sl, sh⟩ rfl rfl HOWA.out (by go_cell) (by go_cell) HLE.out (by simp; omega) ?_; intro A2 c2 w2 hown2 hb2; have HOW2 := Lib.hid hown2; have HB2 := Lib.hid hb2; clear hown2 hb2))
                    refine ⟨⟨k + 1, hlt, rfl, HSU2.out, A2, n' + 1, c2, rfl, by rw [HTK.out]; exact HOW2.out, ?_⟩, ?_⟩
                    · exact Below.trans (Ok.alloc (Ok.alloc HOKR.out _) _) HB2.out
                    · show n - ((k : Int) + 1).toNat < n - (k : Int).toNat
                      omega
                  · have f4 : decide (ep < se) = true := decide_eq_true (by omega)
                    have e : Hid (R = false) := Lib.hid (HBAD.out (by rw [HDEF.out, decide_eq_false g4]; simp))
                    go_wp2
                    go_ret
                    exact ⟨by rw [e.out]; rfl, Ok.alloc (Ok.call oW HOKR.out) _⟩
                · have f3 : decide (se < 1) = true := decide_eq_true (by omega)
                  have e : Hid (R = false) := Lib.hid (HBAD.out (by rw [HDEF.out, decide_eq_false g3]; simp))
                  go_wp2
                  go_ret
                  exact ⟨by rw [e.out]; rfl, Ok.alloc (Ok.call oW HOKR.out) _⟩
              · have f2 : decide (4 < sg) = true := decide_eq_true (by omega)
                have e : Hid (R = false) := Lib.hid (HBAD.out (by rw [HDEF.out, decide_eq_false g2]; simp))
                go_wp2
                go_ret
                exact ⟨by rw [e.out]; rfl, Ok.alloc (Ok.call oW HOKR.out) _⟩
            · have f1 : decide (sg < 1) = true := decide_eq_true (by omega)
              have e : Hid (R = false) := Lib.hid (HBAD.out (by rw [HDEF.out, decide_eq_false g1]; simp))
              go_wp2
              go_ret
              exact ⟨by rw [e.out]; rfl, Ok.alloc (Ok.call oW HOKR.out) _⟩
          · have d4 : decide ((k : Int) < (n : Int)) = false := decide_eq_false (by omega)
            have HTA : Hid ((xs.take k).map (·.sp) = xs.map (·.sp)) := Lib.hid (by rw [List.take_of_length_le (by rw [HN.out]; omega)])
            have HAL : Hid (xs.all (shOkB ep) = true) := Lib.hid (all_upto ep xs fun j hj => HALL.out j (by rw [HN.out] at hj; omega))
            have HLN : Hid ((xs.map (·.sp)).length = n') := Lib.hid (by rw [← HTA.out]; exact HOWN.out.2.symm)
            have HLN6 : Hid (n' ≤ 1000000) := Lib.hid (by rw [← HLN.out, List.length_map, HN.out]; omega)
            have HAT : Hid (SpansAt wr A' (xs.map (·.sp))) := Lib.hid (by rw [← HTA.out]; exact HOWN.out.at)
            go_wp2_with fail
            refine (HPT.out A' n' c' (xs.map (·.sp)) HLN.out HLN6.out _ HAT.out).mono ?_
            rintro _ w3 ⟨rfl, o3⟩
            go_wp2
            go_ret
            exact ⟨by rw [er.out, HAL.out]; simp, Ok.call (Ok.call oW HOKR.out) o3⟩
      · have d1 : decide ((40 : Int) < (n : Int)) = true := decide_eq_true (by omega)
        rw [decide_eq_false h1] at er
        go_enter Tryz.func20, Tryz.ntmps20
        go_wp2
        go_ret
        exact ⟨by rw [er.out]; first | rfl | simp, Ok.alloc (Ok.refl w) _⟩
    · have d3 : decide (1073741824 < ep) = true := decide_eq_true (by omega)
      rw [decide_eq_false h3] at er
      go_enter Tryz.func20, Tryz.ntmps20
      go_wp2
      go_ret
      exact ⟨by rw [er.out]; first | rfl | simp, Ok.alloc (Ok.refl w) _⟩
  · have d2 : decide (ep < 1) = true := decide_eq_true (by omega)
    rw [decide_eq_false h2] at er
    go_enter Tryz.func20, Tryz.ntmps20
    go_wp2
    go_ret
    exact ⟨by rw [er.out]; first | rfl | simp, Ok.alloc (Ok.refl w) _⟩

set_option maxRecDepth 100000 in
set_option maxHeartbeats 8000000 in
theorem rin_w (i : Sp) (ep : Int) (A : Option Addr) (n c : Nat) (xs : List Sh) (hn : xs.length = n) (hn6 : n ≤ 1000) (w : World) (hI : SharesAt w A xs) :
    Calls Tryz.prog 14 #[.agg #[.int .i64 ep, .slice A n c], spV i] w (Ret w (shareV (firstM ep xs (fun x => withinB i x.sp)))) := by
  have HRR := Lib.hid (fun w' h => rsharesRight_w ep A n c xs hn hn6 w' h)
  have HWI := Lib.hid (fun s => rwithin_w i s)
  have HN := Lib.hid hn
  have HI := Lib.hid hI
  clear hI
  have hnone : sharesB ep xs = false → shareV (firstM ep xs (fun x => withinB i x.sp)) = shareV none := fun h => by simp [firstM, h]
  have hlost : (∀ j, j < n → withinB i (at2 xs j).sp = false) → shareV (firstM ep xs (fun x => withinB i x.sp)) = shareV none := fun h => by
    unfold firstM
    split
    · rw [List.find?_eq_none.2]
      intro x hx
      obtain ⟨j, hj, rfl⟩ := List.getElem_of_mem hx
      have := h j (by omega)
      rw [at2_get xs j hj] at this
      simp [this]
    · rfl
  have hfound : ∀ k, k < n → sharesB ep xs = true → (∀ j, j < k → withinB i (at2 xs j).sp = false) → withinB i (at2 xs k).sp = true → shareV (firstM ep xs (fun x => withinB i x.sp)) = shareV (some (at2 xs k)) := fun k hk hs hb hw => by
    unfold firstM
    rw [if_pos hs]
    congr 1
    rw [List.find?_eq_some_iff_getElem]
    refine ⟨hw, k, by omega, by rw [at2_get xs k (by omega)], fun j hj => ?_⟩
    have := hb j hj
    rw [at2_get xs j (by omega)] at this
    simp [this]
  obtain ⟨R, hR⟩ : ∃ R, shareV (firstM ep xs (fun x => withinB i x.sp)) = R := ⟨_, rfl⟩
  rw [hR] at hnone hlost hfound ⊢
  have HNONE := Lib.hid hnone
  have HLOST := Lib.hid hlost
  have HFOUND := Lib.hid hfound
  clear hR hnone hlost hfound hn
  generalize sharesB ep xs = sr at HRR HNONE HFOUND
  obtain ⟨il, ih⟩ := i
  unfold spV at HWI ⊢
  simp only at HWI ⊢
  go_enter Tryz.func14, Tryz.ntmps14
  go_wp2_with fail
  generalize hW : ((w.alloc (.cells #[.int .i64 ep, .slice A n c] 24)).alloc (.cells #[.string il, .string ih] 26)).alloc (.cells #[.string ⟨#[]⟩, .string ⟨#[]⟩, .int .i64 0, .int .i64 0] 35) = W
  have oW : Ok w W := by subst hW; exact Ok.alloc (Ok.alloc (Ok.alloc (Ok.refl w) _) _) _
  have E0 : W.cell? ⟨w.heap.size, 0, none⟩ = some (.int .i64 ep) := by subst hW; go_cell
  have E1 : W.cell? ⟨w.heap.size, 1, none⟩ = some (.slice A n c) := by subst hW; go_cell
  have I0 : W.cell? ⟨w.heap.size + 1, 0, none⟩ = some (.string il) := by subst hW; go_cell
  have I1 : W.cell? ⟨w.heap.size + 1, 1, none⟩ = some (.string ih) := by subst hW; go_cell
  have R0 : W.cell? ⟨w.heap.size + 1 + 1, 0, none⟩ = some (.string ⟨#[]⟩) := by subst hW; go_cell
  have F0 : W.frozen? ⟨w.heap.size + 1 + 1, 0, none⟩ = false := by subst hW; go_cell
  have R1 : W.cell? ⟨w.heap.size + 1 + 1, 1, none⟩ = some (.string ⟨#[]⟩) := by subst hW; go_cell
  have F1 : W.frozen? ⟨w.heap.size + 1 + 1, 1, none⟩ = false := by subst hW; go_cell
  have R2 : W.cell? ⟨w.heap.size + 1 + 1, 2, none⟩ = some (.int .i64 0) := by subst hW; go_cell
  have F2 : W.frozen? ⟨w.heap.size + 1 + 1, 2, none⟩ = false := by subst hW; go_cell
  have R3 : W.cell? ⟨w.heap.size + 1 + 1, 3, none⟩ = some (.int .i64 0) := by subst hW; go_cell
  have F3 : W.frozen? ⟨w.heap.size + 1 + 1, 3, none⟩ = false := by subst hW; go_cell
  clear hW
  have HIW := Lib.hid (HI.out.ok oW)
  go_loopw [6] (fun l wr => ∃ k : Nat, k ≤ n ∧ l = .int .i64 k ∧ (∀ j, j < k → withinB ⟨il, ih⟩ (at2 xs j).sp = false) ∧ Ok W wr) (fun l _ => n - (intOf l).toNat)
  case atStart => exact ⟨0, Nat.zero_le _, rfl, fun j hj => absurd hj (Nat.not_lt_zero _), Ok.refl _⟩
  case round =>
    obtain ⟨k, hk, rfl, hall, okr⟩ := hrel
    have HALL := Lib.hid hall
    have HOKR := Lib.hid okr
    have F0 := (Below.frozen okr (World.block_lt_of_cell? _ _ R0)).trans F0
    have F1 := (Below.frozen okr (World.block_lt_of_cell? _ _ R1)).trans F1
    have F2 := (Below.frozen okr (World.block_lt_of_cell? _ _ R2)).trans F2
    have F3 := (Below.frozen okr (World.block_lt_of_cell? _ _ R3)).trans F3
    have R0 := Ok.cell okr R0
    have R1 := Ok.cell okr R1
    have R2 := Ok.cell okr R2
    have R3 := Ok.cell okr R3
    have E0 := Ok.cell okr E0
    have E1 := Ok.cell okr E1
    have I0 := Ok.cell okr I0
    have I1 := Ok.cell okr I1
    clear hall okr
    by_cases hlt : k < n
    · have d4 : decide ((k : Int) < (n : Int)) = true := decide_eq_true (by omega)
      go_wp2_with fail
      refine (HRR.out _ (HIW.out.ok HOKR.out)).mono ?_
      rintro _ w1 ⟨rfl, o1⟩
      have F0 := (Below.frozen o1 (World.block_lt_of_cell? _ _ R0)).trans F0
      have F1 := (Below.frozen o1 (World.block_lt_of_cell? _ _ R1)).trans F1
      have F2 := (Below.frozen o1 (World.block_lt_of_cell? _ _ R2)).trans F2
      have F3 := (Below.frozen o1 (World.block_lt_of_cell? _ _ R3)).trans F3
      have R0 := Ok.cell o1 R0
      have R1 := Ok.cell o1 R1
      have R2 := Ok.cell o1 R2
      have R3 := Ok.cell o1 R3
      have E0 := Ok.cell o1 E0
      have E1 := Ok.cell o1 E1
      have I0 := Ok.cell o1 I0
      have I1 := Ok.cell o1 I1
      have HOK1 := Lib.hid (Ok.call HOKR.out o1)
      clear o1
      cases sr with
      | false =>
        have e := Lib.hid (HNONE.out rfl)
        go_wp2
        have st := store4 w1 (w.heap.size + 1 + 1) _ _ _ _ (.string ⟨#[]⟩) (.string ⟨#[]⟩) (.int .i64 0) (.int .i64 0) R0 R1 R2 R3
        (try simp only [Exit.inBlock, Exit.then])
        refine bodyPost_ret (by simp [results, Tryz.results14, go_sem, st.1, st.2.1, st.2.2.1, st.2.2.2]; try rfl) rfl ?_
        exact ⟨by rw [e.out]; try rfl, Ok.set4 (Ok.call oW HOK1.out) (by omega) _ _ _ _⟩
      | true =>
        obtain ⟨b, off, rfl, C0, C1, C2, C3⟩ := HIW.out.ok HOK1.out k (by rw [HN.out]; exact hlt)
        have HFO := Lib.hid (HFOUND.out k hlt rfl HALL.out)
        have HAN : Hid (withinB ⟨il, ih⟩ (at2 xs k).sp = false → ∀ j, j < k + 1 → withinB ⟨il, ih⟩ (at2 xs j).sp = false) := Lib.hid fun h j hj => by
          by_cases hjk : j = k
          · rw [hjk]; exact h
          · exact HALL.out j (by omega)
        generalize at2 xs k = x at C0 C1 C2 C3 HFO HAN
        obtain ⟨⟨xl, xh⟩, xg, xe⟩ := x
        simp only at C0 C1 C2 C3 HFO HAN
        have hi0 : (0 : Int) ≤ (k : Int) := Int.natCast_nonneg _
        have hi1 : (k : Int) < (n : Int) := by omega
        have hwi := HWI.out ⟨xl, xh⟩
        simp only at hwi
        go_wp2_with fail
        have kE1 := cell_regrown E1
        have kI0 := cell_regrown I0
        have kI1 := cell_regrown I1
        have kC0 := cell_regrown C0
        have kC1 := cell_regrown C1
        cases h5 : withinB ⟨il, ih⟩ ⟨xl, xh⟩ with
        | false =>
          rw [h5] at hwi
          have HAN2 := Lib.hid (HAN.out h5)
          have q1 : ∀ d os, Calls Tryz.prog 60 #[.agg #[.string il, .string ih], .agg #[.string xl, .string xh]] (Go.Sort.grow (redrawn w1 d) os) fun e w'' => e = .returned (.bool false) ∧ ∃ p : Regrown, w'' = Go.Sort.grow (redrawn w1 p.d) p.os := fun d os => Calls.regrown_of (hwi _)
          refine wp_region_quiet_below (by kernel_rfl) (by kernel_rfl) ?_
          refine HeldU.out ?_
          repeat (
            refine hqU_step (fun K hK => ?_)
            go_simp
            first
              | (refine hK _ ?_; clear hK K)
              | (apply Exists.intro
                 refine ⟨fun _ => ?_, hK _ ?_⟩
                 (with_reducible exact q1 _ _)
                 clear hK K))
          refine HeldU.mk (wpQuiet_nil ?_)
          intro _ hw'
          obtain ⟨⟨dq, osq⟩, hw''⟩ := hw'
          subst hw''
          go_wp2
          refine ⟨⟨k + 1, hlt, rfl, HAN2.out, Ok.call HOK1.out (below_regrown w1 dq osq)⟩, ?_⟩
          show n - ((k : Int) + 1).toNat < n - (k : Int).toNat
          omega
        | true =>
          rw [h5] at hwi
          have e := Lib.hid (HFO.out h5)
          have q1 : ∀ d os, Calls Tryz.prog 60 #[.agg #[.string il, .string ih], .agg #[.string xl, .string xh]] (Go.Sort.grow (redrawn w1 d) os) fun e w'' => e = .returned (.bool true) ∧ ∃ p : Regrown, w'' = Go.Sort.grow (redrawn w1 p.d) p.os := fun d os => Calls.regrown_of (hwi _)
          refine wp_region_quiet_below (by kernel_rfl) (by kernel_rfl) ?_
          refine HeldU.out ?_
          repeat (
            refine hqU_step (fun K hK => ?_)
            go_simp
            first
              | (refine hK _ ?_; clear hK K)
              | (apply Exists.intro
                 refine ⟨fun _ => ?_, hK _ ?_⟩
                 (with_reducible exact q1 _ _)
                 clear hK K))
          refine HeldU.mk (wpQuiet_nil ?_)
          intro _ hw'
          obtain ⟨⟨dq, osq⟩, hw''⟩ := hw'
          subst hw''
          have oq : Ok w1 (Go.Sort.grow (redrawn w1 dq) osq) := below_regrown w1 dq osq
          generalize Go.Sort.grow (redrawn w1 dq) osq = w2 at oq ⊢
          have F0 := (Below.frozen oq (World.block_lt_of_cell? _ _ R0)).trans F0
          have F1 := (Below.frozen oq (World.block_lt_of_cell? _ _ R1)).trans F1
          have F2 := (Below.frozen oq (World.block_lt_of_cell? _ _ R2)).trans F2
          have F3 := (Below.frozen oq (World.block_lt_of_cell? _ _ R3)).trans F3
          have R0 := Ok.cell oq R0
          have R1 := Ok.cell oq R1
          have R2 := Ok.cell oq R2
          have R3 := Ok.cell oq R3
          have E1 := Ok.cell oq E1
          have C0 := Ok.cell oq C0
          have C1 := Ok.cell oq C1
          have C2 := Ok.cell oq C2
          have C3 := Ok.cell oq C3
          have HOK2 := Lib.hid (Ok.call (Ok.call oW HOK1.out) oq)
          clear oq q1 kE1 kI0 kI1 kC0 kC1 hwi
          go_wp2
          have st := store4 w2 (w.heap.size + 1 + 1) _ _ _ _ (.string xl) (.string xh) (.int .i64 xg) (.int .i64 xe) R0 R1 R2 R3
          (try simp only [Exit.inBlock, Exit.then])
          refine bodyPost_ret (by simp [results, Tryz.results14, go_sem, st.1, st.2.1, st.2.2.1, st.2.2.2]; try rfl) rfl ?_
          exact ⟨by rw [e.out]; try rfl, Ok.set4 HOK2.out (by omega) _ _ _ _⟩
    · have d4 : decide ((k : Int) < (n : Int)) = false := decide_eq_false (by omega)
      have e := Lib.hid (HLOST.out fun j hj => HALL.out j (by omega))
      go_wp2
      have st := store4 wr (w.heap.size + 1 + 1) _ _ _ _ (.string ⟨#[]⟩) (.string ⟨#[]⟩) (.int .i64 0) (.int .i64 0) R0 R1 R2 R3
      (try simp only [Exit.inBlock, Exit.then])
      refine bodyPost_ret (by simp [results, Tryz.results14, go_sem, st.1, st.2.1, st.2.2.1, st.2.2.2]; try rfl) rfl ?_
      exact ⟨by rw [e.out]; try rfl, Ok.set4 (Ok.call oW HOKR.out) (by omega) _ _ _ _⟩
end Go.Proofs.YtdabdkedgigjdaaGreat
