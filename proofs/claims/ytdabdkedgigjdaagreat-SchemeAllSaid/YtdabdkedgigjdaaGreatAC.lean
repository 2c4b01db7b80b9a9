/- The document's own Cut: one cut behind the other, walked. -/
import Derived.Test.YtdabdkedgigjdaaGreatAB
import Derived.Test.YtdabdkedgigjdaaGreatR
namespace Go.Proofs.YtdabdkedgigjdaaGreat
open Go.RowKit

set_option maxRecDepth 100000 in
set_option maxHeartbeats 8000000 in
theorem rcut_w (s : Sp) (v : Value) (zs : List Str) (w : World) (hz : zs.length ≤ 60) (hI : StrsN w.heap.size w v zs) :
    Calls Tryz.prog 57 #[spV s, v] w (SpansPost w (rcutM s zs)) := by
  obtain ⟨Az, cz, rfl⟩ := hI.form
  have hr := rright_w s
  have HIS := Lib.hid hI.strs
  clear hI
  obtain ⟨sl, sh⟩ := s
  unfold spV at hr ⊢
  obtain ⟨m, hm⟩ : ∃ m, zs.length = m := ⟨_, rfl⟩
  have HM := Lib.hid hm
  rw [hm] at HIS hz ⊢
  clear hm
  have HC : Hid (∀ w', Ok w w' → ∀ j, j < m → ∃ b off, Az = some ⟨b, off, none⟩ ∧ b < w.heap.size ∧ w'.cell? ⟨b, off + j, none⟩ = some (.string (at0 zs j))) := Lib.hid fun w' ok j hj => by
    rcases HIS.out with ⟨h, A', c', e⟩ | ⟨b, off, cap, e, hb, hc⟩
    · rw [← HM.out, h] at hj; exact absurd hj (Nat.not_lt_zero _)
    · simp only [Value.slice.injEq] at e
      exact ⟨b, off, e.1, hb, Ok.cell ok (hc j (by rw [HM.out]; exact hj))⟩
  cases h1 : rightB ⟨sl, sh⟩ with
  | false =>
    rw [h1] at hr
    have em : rcutM ⟨sl, sh⟩ zs = [] := by simp [rcutM, h1]
    rw [em]
    go_enter Tryz.func57, Tryz.ntmps57
    go_wp2_with fail
    refine (hr _).mono ?_
    rintro _ w1 ⟨rfl, o1⟩
    go_wp2
    go_ret
    exact SpansPost.mk none 0 0 rfl ⟨World.ownsRow_nil _ _ _ _, rfl⟩ (Ok.call (Ok.alloc (Ok.refl w) _) o1)
  | true =>
    rw [h1] at hr
    have em : Hid (rcutM ⟨sl, sh⟩ zs = zs.foldl (fun out k => insM k out) [⟨sl, sh⟩]) := Lib.hid (by simp [rcutM, h1])
    obtain ⟨R, hR⟩ : ∃ R, rcutM ⟨sl, sh⟩ zs = R := ⟨_, rfl⟩
    rw [hR] at em ⊢
    clear hR
    go_enter Tryz.func57, Tryz.ntmps57
    go_wp2_with fail
    refine (hr _).mono ?_
    rintro _ w1 ⟨rfl, o1⟩
    have A0 : w1.cell? ⟨w.heap.size, 0, none⟩ = some (.string sl) := Ok.cell o1 (by go_cell)
    have A1 : w1.cell? ⟨w.heap.size, 1, none⟩ = some (.string sh) := Ok.cell o1 (by go_cell)
    have ok1 : Hid (Ok w w1) := Lib.hid (Ok.call (Ok.alloc (Ok.refl w) _) o1)
    clear o1
    have HOW0 := Lib.hid (one_own w1 ⟨sl, sh⟩)
    go_wp2_with fail
    go_loopw [5, 6] (fun l i wr => ∃ (k : Nat) (acc : List Sp), k ≤ m ∧ i = .int .i64 k ∧ acc = (zs.take k).foldl (fun out k => insM k out) [⟨sl, sh⟩] ∧ RowAt w.heap.size w acc l wr) (fun _ i _ => m - (intOf i).toNat)
    case atStart => exact ⟨0, [⟨sl, sh⟩], Nat.zero_le _, rfl, rfl, _, _, _, rfl, HOW0.out.base ok1.out.size, Ok.alloc ok1.out _⟩
    case round =>
      obtain ⟨k, acc, hk, rfl, hacc, A, n, c, rfl, hown, okr⟩ := hrel
      have HACC := Lib.hid hacc
      have HOWN := Lib.hid hown
      have HOKR := Lib.hid okr
      clear hacc hown okr HOW0
      by_cases hlt : k < m
      · have d1 : decide ((k : Int) < (m : Int)) = true := decide_eq_true (by omega)
        obtain ⟨kk, hkk⟩ : ∃ kk, at0 zs k = kk := ⟨_, rfl⟩
        have HNX : Hid (insM kk acc = (zs.take (k + 1)).foldl (fun out k => insM k out) [⟨sl, sh⟩]) := Lib.hid (by
          rw [take_at zs k (by rw [HM.out]; exact hlt), List.foldl_append, ← HACC.out, hkk]; rfl)
        have HLE : Hid (acc.length ≤ 61) := Lib.hid (by
          have h1 := rfold_len (zs.take k) [⟨sl, sh⟩]
          rw [← HACC.out, List.length_take] at h1
          simp only [List.length_cons, List.length_nil] at h1
          have := HM.out
          omega)
        have HCK : Hid (∀ w', Ok w w' → ∃ b off, Az = some ⟨b, off, none⟩ ∧ b < w.heap.size ∧ w'.cell? ⟨b, off + k, none⟩ = some (.string kk)) := Lib.hid fun w' ok => by
          rw [← hkk]; exact HC.out w' ok k hlt
        clear hkk
        go_wp2_with fail
        go_loopw [5, 7] (fun l i wx => ∃ q : Nat, q ≤ n ∧ l = .slice A n c ∧ i = .int .i64 q ∧ OwnS wx w.heap.size A n c acc ∧ insM kk acc = acc.take q ++ insM kk (acc.drop q) ∧ Ok w wx) (fun _ i _ => n - (intOf i).toNat)
        case atStart => exact ⟨0, Nat.zero_le _, rfl, rfl, HOWN.out, by simp, HOKR.out⟩
        case round =>
          obtain ⟨q, hq, rfl, rfl, hown2, hins, okx⟩ := hrel
          have HOW2 := Lib.hid hown2
          have HINS := Lib.hid hins
          have HOKX := Lib.hid okx
          have HNL := Lib.hid hown2.2
          clear hown2 hins okx
          by_cases hqn : q < n
          · have d2 : decide ((q : Int) < (n : Int)) = true := decide_eq_true (by omega)
            have hql : q < acc.length := by have := HNL.out; omega
            have s1 : (q : Int) ≤ 1000 := by have := HLE.out; have := HNL.out; omega
            obtain ⟨b1, off1, hA, X0, X1⟩ := HOW2.out.at q hql
            obtain ⟨g, rfl⟩ : ∃ g, A = some ⟨g, 0, none⟩ := by
              rcases HOW2.out.1.2 with ⟨e, h5⟩ | ⟨g, cap, cur, e, _⟩
              · exact absurd hql (by rw [h5]; exact Nat.not_lt_zero _)
              · simp only [Value.slice.injEq] at e
                exact ⟨g, e.1⟩
            obtain ⟨rfl, rfl⟩ : g = b1 ∧ 0 = off1 := by simpa using hA
            clear hA
            rw [Nat.zero_add] at X0 X1
            obtain ⟨⟨xl, xh⟩, hx⟩ : ∃ x, at1 acc q = x := ⟨_, rfl⟩
            rw [hx] at X0 X1
            simp only at X0 X1
            have HXQ := Lib.hid hx
            clear hx
            obtain ⟨kb, ko, rfl, hkb, K0⟩ := HCK.out wr HOKX.out
            have hgs : g < wr.heap.size := World.block_lt_of_cell? _ _ X0
            have hi0 : (0 : Int) ≤ (q : Int) := Int.natCast_nonneg _
            have hi1 : (q : Int) < (n : Int) := by omega
            have hj0 : (0 : Int) ≤ (k : Int) := Int.natCast_nonneg _
            have hj1 : (k : Int) < (m : Int) := by omega
            have hrh := rhas_w ⟨xl, xh⟩ kk
            unfold spV at hrh
            go_wp2_with fail
            generalize hW : wr.alloc (.cells #[.string xl, .string xh] 26) = W
            have o3 : Ok wr W := by subst hW; exact Ok.alloc (Ok.refl _) _
            have B0 : W.cell? ⟨wr.heap.size, 0, none⟩ = some (.string xl) := by subst hW; go_cell
            have B1 : W.cell? ⟨wr.heap.size, 1, none⟩ = some (.string xh) := by subst hW; go_cell
            have HOWW := Lib.hid (HOW2.out.ok o3)
            have K0 := Ok.cell o3 K0
            have HOKW := Lib.hid (Ok.call HOKX.out o3)
            have hbs : wr.heap.size < W.heap.size := World.block_lt_of_cell? _ _ B0
            obtain ⟨bx, hbx⟩ : ∃ b, wr.heap.size = b := ⟨_, rfl⟩
            rw [hbx] at B0 B1 hbs hgs ⊢
            clear hW o3 X0 X1 hbx
            have kB0 := cell_regrown B0
            have kB1 := cell_regrown B1
            have kK0 := cell_regrown K0
            cases h3 : hasB ⟨xl, xh⟩ kk with
            | false =>
              rw [h3] at hrh
              have HNI := Lib.hid (ins_skip hql HXQ.out HINS.out (by rw [h3]; rfl))
              have q1 : ∀ d os, Calls Tryz.prog 73 #[.agg #[.string xl, .string xh], .string kk] (Go.Sort.grow (redrawn W d) os) fun e w'' => e = .returned (.bool false) ∧ ∃ p : Regrown, w'' = Go.Sort.grow (redrawn W p.d) p.os := fun d os => Calls.regrown_of (hrh _)
              refine wp_region_quiet_below (by kernel_rfl) (by kernel_rfl) ?_
              refine HeldU.out ?_
              repeat (
                refine hqU_step (fun K hK => ?_)
                go_simp
                first
                  | (refine hK _ ?_; clear hK K)
                  | (apply Exists.intro
                     refine ⟨fun _ => ?_, hK _ ?_⟩
                     (with_reducible exact q1 _ _)
                     clear hK K))
              refine HeldU.mk (wpQuiet_nil ?_)
              intro _ hw'
              obtain ⟨⟨dq, osq⟩, hw''⟩ := hw'
              subst hw''
              go_wp2
              refine ⟨⟨q + 1, hqn, rfl, rfl, HOWW.out.ok (below_regrown W dq osq), HNI.out, Ok.call HOKW.out (below_regrown W dq osq)⟩, ?_⟩
              show n - ((q : Int) + 1).toNat < n - (q : Int).toNat
              omega
            | true =>
              rw [h3] at hrh
              have q1 : ∀ d os, Calls Tryz.prog 73 #[.agg #[.string xl, .string xh], .string kk] (Go.Sort.grow (redrawn W d) os) fun e w'' => e = .returned (.bool true) ∧ ∃ p : Regrown, w'' = Go.Sort.grow (redrawn W p.d) p.os := fun d os => Calls.regrown_of (hrh _)
              cases h4 : (kk.toList == xl.toList) with
              | true =>
                have HNI := Lib.hid (ins_skip hql HXQ.out HINS.out (by rw [h3]; simp only [h4]; rfl))
                refine wp_region_quiet_below (by kernel_rfl) (by kernel_rfl) ?_
                refine HeldU.out ?_
                repeat (
                  refine hqU_step (fun K hK => ?_)
                  go_simp
                  first
                    | (refine hK _ ?_; clear hK K)
                    | (apply Exists.intro
                       refine ⟨fun _ => ?_, hK _ ?_⟩
                       (with_reducible exact q1 _ _)
                       clear hK K))
                refine HeldU.mk (wpQuiet_nil ?_)
                intro _ hw'
                obtain ⟨⟨dq, osq⟩, hw''⟩ := hw'
                subst hw''
                go_wp2
                refine ⟨⟨q + 1, hqn, rfl, rfl, HOWW.out.ok (below_regrown W dq osq), HNI.out, Ok.call HOKW.out (below_regrown W dq osq)⟩, ?_⟩
                show n - ((q : Int) + 1).toNat < n - (q : Int).toNat
                omega
              | false =>
                have HNI := Lib.hid (ins_here hql HXQ.out HINS.out (by rw [h3]; simp only [h4]; rfl))
                refine wp_region_quiet_below (by kernel_rfl) (by kernel_rfl) ?_
                refine HeldU.out ?_
                repeat (
                  refine hqU_step (fun K hK => ?_)
                  go_simp
                  first
                    | (refine hK _ ?_; clear hK K)
                    | (apply Exists.intro
                       refine ⟨fun _ => ?_, hK _ ?_⟩
                       (with_reducible exact q1 _ _)
                       clear hK K))
                refine HeldU.mk (wpQuiet_nil ?_)
                intro _ hw'
                obtain ⟨⟨dq, osq⟩, hw''⟩ := hw'
                subst hw''
                have oq : Ok W (Go.Sort.grow (redrawn W dq) osq) := below_regrown W dq osq
                generalize Go.Sort.grow (redrawn W dq) osq = W4 at oq ⊢
                have B0 := Ok.cell oq B0
                have B1 := Ok.cell oq B1
                have K0 := Ok.cell oq K0
                have HOW4 := Lib.hid (HOWW.out.ok oq)
                have HOK4 := Lib.hid (Ok.call HOKW.out oq)
                have hbs : bx < W4.heap.size := World.block_lt_of_cell? _ _ B0
                clear oq q1 hrh kB0 kB1 kK0 HOWW HOKW HC HIS HCK hr
                obtain ⟨hnc, hcm, hgb, hg4⟩ := HOW4.out.le
                have HGB := Lib.hid hgb
                have HCM := Lib.hid hcm
                have s3 : (q : Int) + 1 ≤ (n : Int) := by omega
                have s5 : (q : Int) ≤ (c : Int) := by omega
                clear hcm hgb hg4
                have hc0 : ¬ c = 0 := by omega
                obtain ⟨ad, had⟩ : ∃ ad, (if c = q + 1 then some (⟨g, 0, none⟩ : Addr) else some ⟨g, (q + 1) * 2, none⟩) = some ad := by split <;> exact ⟨_, rfl⟩
                have HNEWS := Lib.hid (rest_news HOW4.out q ad had)
                have HDL : Hid ((acc.drop (q + 1)).length = n - (q + 1)) := Lib.hid (by rw [List.length_drop, ← HNL.out])
                have HE : Hid ((W4.alloc (.cells #[] 26)).ownsRow W4.heap.size 26 2 (.slice (some ⟨W4.heap.size, 0, none⟩) 0 0) 0 []) := Lib.hid (World.ownsRow_made W4 #[] 0 (Nat.le_refl _) (by decide) rfl)
                have HNEWS2 : Hid (∀ j u, (flat (acc.drop (q + 1)))[j]? = some u → (W4.alloc (.cells #[] 26)).cell? (ad.add j) = some u) := Lib.hid fun j u hu => Ok.cell (Ok.alloc (Ok.refl _) _) (HNEWS.out j u hu)
                go_wp2_with (at_builtin; go_must (refine wpList_appRest rfl (.tmp 47) (.tmp 51) rfl W4.heap.size W4.heap.size rfl HE.out ad (n - (q + 1)) (c - (q + 1)) (acc.drop (q + 1)) rfl HDL.out HNEWS2.out (by have := HLE.out; have := HNL.out; omega) (by simp) ?_; intro h5 c5 W5 hown5 hb5; have HR5 := Lib.hid hown5; have HB5 := Lib.hid (Below.trans (Ok.alloc (Ok.refl W4) (.cells #[] 26)) hb5); clear hown5 hb5))
                have HOW5 := Lib.hid (HOW4.out.ok HB5.out)
                have B0 := Ok.cell HB5.out B0
                have B1 := Ok.cell HB5.out B1
                have K0 := Ok.cell HB5.out K0
                have HOK5 := Lib.hid (Ok.call HOK4.out HB5.out)
                have HOF := Lib.hid (HOW5.out.first q (by omega))
                have HTL : Hid ((acc.take q).length ≤ 1000) := Lib.hid (by rw [List.length_take]; have := HLE.out; omega)
                have HDL2 : Hid ((acc.drop (q + 1)).length ≤ 1000) := Lib.hid (by rw [List.length_drop]; have := HLE.out; omega)
                have HTL2 : Hid ((acc.take q ++ [(⟨xl, kk⟩ : Sp), ⟨kk, xh⟩]).length ≤ 1000) := Lib.hid (by rw [List.length_append, List.length_take]; have := HLE.out; simp only [List.length_cons, List.length_nil]; omega)
                have hkg : kb ≠ g := by have := HGB.out; omega
                have hbg : bx ≠ g := by omega
                have hh5 : h5 ≠ g := by have := HR5.out.le.2.2.1; have := HOW4.out.le.2.2.2; omega
                have hb5 : bx < W5.heap.size := World.block_lt_of_cell? _ _ B0
                have hk5 : kb < W5.heap.size := World.block_lt_of_cell? _ _ K0
                have hh5s : h5 < W5.heap.size := HR5.out.le.2.2.2
                have hWB : Hid (w.heap.size ≤ W5.heap.size) := Lib.hid HOK5.out.size
                have HSP : Hid (OwnS ((W5.drew).alloc (.cells #[.string xl, .string kk, .string kk, .string xh] 26)) w.heap.size (some ⟨g, 0, none⟩) q c (acc.take q)) := Lib.hid ⟨World.ownsRow.alloc (World.ownsRow.drew HOF.out.1) _, HOF.out.2⟩
                have HRP : Hid (OwnS ((W5.drew).alloc (.cells #[.string xl, .string kk, .string kk, .string xh] 26)) W4.heap.size (some ⟨h5, 0, none⟩) (n - (q + 1)) c5 (acc.drop (q + 1))) := Lib.hid ⟨World.ownsRow.alloc (World.ownsRow.drew HR5.out.1) _, HR5.out.2⟩
                clear HOW4 HOK4 HB5 HOW5 HR5 HOF HGB
                go_region_held3 (fun w' => w'.cell? ⟨bx, 0, none⟩ = some (.string xl) ∧ w'.cell? ⟨bx, 1, none⟩ = some (.string xh) ∧ w'.cell? ⟨kb, ko + k, none⟩ = some (.string kk))
                  (first
                    | go_keep
                    | exact ⟨far hgrow7 hb7 (by first | assumption | go_cell), far hgrow7 hb7 (by first | assumption | go_cell), far hgrow7 hk7 (by first | assumption | go_cell)⟩
                    | exact ⟨far hgrow6 hbg (by first | assumption | go_cell), far hgrow6 hbg (by first | assumption | go_cell), far hgrow6 hkg (by first | assumption | go_cell)⟩)
                  (first
                    | (refine step_app2S (by rfl) _ _ (by rfl) w.heap.size g q c (acc.take q) W5.heap.size ⟨xl, kk⟩ ⟨kk, xh⟩ (by rfl) (by rfl) HSP.out (World.news_of_block (cs := #[.string xl, .string kk, .string kk, .string xh]) (t := 26) (fr := (0, 0)) (heap_alloc_new W5.drew _)) HTL.out (by simp; exact Nat.le_succ_of_le hWB.out) ?_; intro g6 c6 w6 hown6 hgrow6 hbel6 hat6)
                    | (refine step_appSS (by rfl) _ _ (by rfl) w.heap.size g6 (q + 2) c6 (acc.take q ++ [⟨xl, kk⟩, ⟨kk, xh⟩]) W4.heap.size h5 (n - (q + 1)) c5 (acc.drop (q + 1)) (by rfl) (by rfl) hown6 (HRP.out.far hgrow6 hh5) HTL2.out HDL2.out (Nat.le_trans (by simp; exact Nat.le_succ_of_le hWB.out) hbel6.size) ?_; intro A7 n7 c7 w7 hown7 hgrow7 hbel7; have hb7 : bx ≠ g6 := (by rcases hat6 with e | e <;> rw [e] <;> (first | assumption | (simp; omega))); have hk7 : kb ≠ g6 := (by rcases hat6 with e | e <;> rw [e] <;> (first | assumption | (simp; omega)))))
                go_wp2
                refine ⟨⟨k + 1, insM kk acc, hlt, rfl, HNX.out, A7, n7, c7, rfl, by rw [HNI.out]; exact hown7, Below.trans (Below.trans (Ok.alloc (Ok.drew HOK5.out) _) hbel6) hbel7⟩, ?_⟩
                show m - ((k : Int) + 1).toNat < m - (k : Int).toNat
                omega
          · have d2 : decide ((q : Int) < (n : Int)) = false := decide_eq_false (by omega)
            have hI : insM kk acc = acc := by
              have hl := HNL.out
              have h2 : acc.drop q = [] := List.drop_eq_nil_of_le (by omega)
              have h3 := HINS.out
              rw [h2, insM, List.append_nil, List.take_of_length_le (by omega)] at h3
              exact h3
            go_wp2
            refine ⟨⟨k + 1, insM kk acc, hlt, rfl, HNX.out, A, n, c, rfl, by rw [hI]; exact HOW2.out, HOKX.out⟩, ?_⟩
            show m - ((k : Int) + 1).toNat < m - (k : Int).toNat
            omega
      · have d1 : decide ((k : Int) < (m : Int)) = false := decide_eq_false (by omega)
        have hR : R = acc := by
          rw [em.out, HACC.out, List.take_of_length_le (by rw [HM.out]; omega)]
        go_wp2
        go_ret
        rw [hR]
        exact SpansPost.mk A n c rfl HOWN.out HOKR.out
end Go.Proofs.YtdabdkedgigjdaaGreat
