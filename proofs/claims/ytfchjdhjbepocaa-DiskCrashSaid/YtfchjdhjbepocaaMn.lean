/- Disks: Sync of files, Append. -/
import Derived.Test.YtfchjdhjbepocaaMm
import Derived.Lib.QuietBelow
import Derived.BigQuiet
namespace Go.Proofs.Ytfchjdhjbepocaa
open Go Go.RowKit

set_option maxRecDepth 100000 in
set_option maxHeartbeats 2000000 in
theorem sync_f (p : Nat) (D : Dk) (pv : Sl) (mb : Nat) (vs : Tb Sl) (A : Option Addr) (n c : Nat) (l : List Str) (W : World) (h : DkAt p D pv mb vs W) (hl : D.ps.length ≤ 1000000) (hn : l.length = n) (hn6 : n ≤ 1000000)
    (ht : TxIn (fun b => b = p ∨ pv.v.ownBlock = some b) W A l) : Calls Try.prog 28 #[.pointer (some ⟨p, 0, none⟩), .slice A n c] W (SyncsP p mb vs D l pv W) := by
  have HOA : Hid (Ok W (W.alloc (.cells #[.pointer (some ⟨p, 0, none⟩)] 25))) := Lib.hid ((Ok.refl W).alloc _)
  have HD := Lib.hid (h.ok HOA.out)
  have HL := Lib.hid hl
  have HN := Lib.hid hn
  have HN6 := Lib.hid hn6
  have HT := Lib.hid (ht.kp (Kp.of HOA.out))
  have HZ : Hid (¬ (W.heap.size = p ∨ pv.v.ownBlock = some W.heap.size)) := Lib.hid fun q => by
    rcases q with q | q
    · have := h.lt (.inl rfl); omega
    · have := h.lt (.inr (.inr (.inl q))); omega
  have hz0 : (W.alloc (.cells #[.pointer (some ⟨p, 0, none⟩)] 25)).cell? ⟨W.heap.size, 0, none⟩ = some (.pointer (some ⟨p, 0, none⟩)) := by
    have h := heap_alloc_new W (.cells #[.pointer (some ⟨p, 0, none⟩)] 25)
    unfold World.cell?; simp only [h]; rfl
  clear h hl hn hn6 ht
  go_enter Try.func28, Try.ntmps28
  go_upto_region 1 with fail
  obtain ⟨z, hz⟩ : ∃ z, W.heap.size = z := ⟨_, rfl⟩
  rw [hz] at hz0 HZ ⊢
  have HZ0 := Lib.hid hz0
  clear hz
  generalize W.alloc (.cells #[.pointer (some ⟨p, 0, none⟩)] 25) = w0 at *
  go_wp2_with fail
  refine (eachS_f p D pv mb vs A n c l z w0 HD.out HL.out HN.out HN6.out HT.out HZ0.out HZ.out).mono ?_
  rintro _ w1 ⟨pv', rfl, h1, h2, h3⟩
  have H1 := Lib.hid h1
  have H2 := Lib.hid h2
  have H3 := Lib.hid h3
  clear h1 h2 h3 hz0
  go_wp2_with fail
  go_ret
  refine ⟨pv', rfl, H1.out, fun g e => ?_, (Kp.of HOA.out).then H3.out (fun _ _ e => e)⟩
  rcases H2.out g e with q | q
  · exact .inl q
  · exact .inr (Nat.le_trans HOA.out.size q)
structure HeldU (p : Prop) : Prop where
  out : p
theorem hqU_step {P : Program} {ops : Array Oper} {C : World → Prop} {Q : Act → Prop} {a : Act} {o : Oper} {rest : List Oper}
    (h : ∀ K : Act → Prop, (∀ a, HeldU (wpQuiet P ops C Q rest a) → K a) → if Region.wanted o (yielded ops a.tmps) then o.quiet P a C K else K (a.put o.dst undef)) : HeldU (wpQuiet P ops C Q (o :: rest) a) :=
  ⟨h (fun a => wpQuiet P ops C Q rest a) (fun _ h => h.out)⟩
theorem Rg {f : FuncId} {args : Array Value} {w : World} {d : Nat} {os : Array Obj} {v : Value} (h : Calls Try.prog f args (Go.Sort.grow (redrawn w d) os) (Ret (Go.Sort.grow (redrawn w d) os) v)) :
    Calls Try.prog f args (Go.Sort.grow (redrawn w d) os) fun e w'' => e = .returned v ∧ ∃ q : Regrown, w'' = Go.Sort.grow (redrawn w q.d) q.os := Calls.regrown_of h
def ptA (l : List (List B8)) (j : Nat) : List B8 := l.getD j []
theorem pt_take (xs : List (List B8)) (k : Nat) (h : k < xs.length) : (xs.take (k + 1)).flatten = (xs.take k).flatten ++ ptA xs k := by
  rw [List.take_add_one, List.getElem?_eq_getElem h]
  unfold ptA
  rw [List.getD_eq_getElem?_getD, List.getElem?_eq_getElem h, List.flatten_append]
  simp only [Option.toList_some, List.flatten_cons, List.flatten_nil, List.append_nil, Option.getD_some]
theorem pt_le (xs : List (List B8)) (k : Nat) : (xs.take k).flatten.length ≤ xs.flatten.length := by
  have : xs.flatten = (xs.take k).flatten ++ (xs.drop k).flatten := by rw [← List.flatten_append, List.take_append_drop]
  rw [this, List.length_append]; omega
/-- Rows of bytes in memory, off the blocks of S. -/
def PtIn (S : Nat → Prop) (w : World) (A : Option Addr) (l : List (List B8)) : Prop := ∀ j, j < l.length → ∃ b off B m c, A = some ⟨b, off, none⟩ ∧ ¬ S b ∧ w.cell? ⟨b, off + j, none⟩ = some (.slice B m c) ∧ m = (ptA l j).length ∧ Bys S w (.slice B m c) (ptA l j)
theorem PtIn.kp {S : Nat → Prop} {w w' : World} {A : Option Addr} {l : List (List B8)} (h : PtIn S w A l) (k : Kp S w w') : PtIn S w' A l := fun j hj => by
  obtain ⟨b, off, B, m, c, e, hn, hc, hm, hb⟩ := h j hj
  exact ⟨b, off, B, m, c, e, hn, k.cell hc hn, hm, hb.kp k⟩
theorem PtIn.mono {S S' : Nat → Prop} {w : World} {A : Option Addr} {l : List (List B8)} (h : PtIn S w A l) (k : ∀ b, S' b → S b) : PtIn S' w A l := fun j hj => by
  obtain ⟨b, off, B, m, c, e, hn, hc, hm, hb⟩ := h j hj
  exact ⟨b, off, B, m, c, e, fun q => hn (k b q), hc, hm, hb.1, fun hne g e q => hb.2 hne g e (k g q)⟩
/-- What Append does. -/
def Dk.appR (D : Dk) (nm : Str) (bs : List B8) : Dk × Int :=
  if namedB nm = false then (D, 2) else if 1 ≤ D.size ∧ D.size < ((used D.fs + bs.length : Nat) : Int) then (D, 8) else (D.append nm bs, 0)
def AppP (p mb : Nat) (S : Nat → Prop) (R : Dk × Int) (W : World) (e : Ending) (w' : World) : Prop := e = .returned (.int .i64 R.2) ∧ ∃ pv' vs', DkAt p R.1 pv' mb vs' w' ∧ (∀ b, Blk p pv' mb vs' b → New S W b) ∧ Kp S W w'
theorem wpList_appBo {t : TypeId} (ht : Try.prog.underlying t = some (.slice 5)) {ops : Array Oper} {rest : List Oper} {o : Oper} {a : Act} {w : World} {Q : Exit → Act → World → Prop} (hgd : o.guard = none) (x y : Operand)
    (ho : o.op = .call { callee := .builtin .append, args := #[x, y], argTypes := #[t, t] }) (s : Sl) (xs : List B8) (hs : a.eval x = s.v) (hown : OwnN w s.v xs) (v : Value) (ys : List B8) (hy : a.eval y = v) (hin : BytesIn w v ys)
    (hl : xs.length + ys.length ≤ 140737488351232) (h : ∀ (s' : Sl) (w' : World), OwnN w' s'.v (xs ++ ys) → w.grownBy w' s.v.ownBlock → From w s.v s'.v → s'.n = xs.length + ys.length → wpList Try.prog ops Q rest (a.put o.dst (.slice s'.A s'.n s'.c)) w') : wpList Try.prog ops Q (o :: rest) a w :=
  wpList_appB ht hgd x y ho s xs hs hown v ys hy hin hl h
theorem OwnN.kept {w w' : World} {v : Value} {xs : List B8} (h : OwnN w v xs) (k : ∀ g, v.ownBlock = some g → w'.heap[g]? = w.heap[g]?) : OwnN w' v xs := blk_eq h k
theorem DkAt.sBlk {p : Nat} {D : Dk} {pv : Sl} {mb : Nat} {vs : Tb Sl} {w : World} (h : DkAt p D pv mb vs w) {nm : Str} {s : Sl} (hs0 : (vs.at? nm).getD sl0 = s) {g : Nat} (e : s.v.ownBlock = some g) : Blk p pv mb vs g ∧ g < w.heap.size ∧ g ≠ p ∧ g ≠ mb ∧ pv.v.ownBlock ≠ some g := by
  subst hs0
  obtain ⟨s0, h1, h2⟩ := getD_cases e
  have hb : Blk p pv mb vs g := .inr (.inr (.inr ⟨_, h1, h2⟩))
  exact ⟨hb, h.lt hb, h.file_ne h1 h2⟩
theorem DkAt.appended {p : Nat} {D : Dk} {pv : Sl} {mb : Nat} {vs : Tb Sl} {W w1 w2 w3 : World} {e : Ending} (h : DkAt p D pv mb vs W) (nm : Str) (s s' : Sl) (bs : List B8) (hs0 : (vs.at? nm).getD sl0 = s) (ho : OwnN w1 s'.v (D.file nm ++ bs))
    (hfr : From W s.v s'.v) (k1 : Kp (fun b => s.v.ownBlock = some b) W w1) (hm : MapV w2 mb ((mvs vs).put nm s'.v)) (k2 : w1.grownBy w2 (some mb)) (hw : WaitP p mb D.size pv (addP D.ps nm bs.length) w2 e w3) :
    e = .returned (.tuple #[]) ∧ ∃ pv', DkAt p (D.append nm bs) pv' mb (vs.put nm s') w3 ∧ (∀ b, Blk p pv' mb (vs.put nm s') b → New (Blk p pv mb vs) W b) ∧ Kp (Blk p pv mb vs) W w3 := by
  obtain ⟨pv', rfl, h1, h2, h3, h4⟩ := hw
  have hle : W.heap.size ≤ w2.heap.size := Nat.le_trans k1.size k2.size
  have hg : ∀ g, s'.v.ownBlock = some g → g ≠ p ∧ g ≠ mb ∧ pv.v.ownBlock ≠ some g ∧ g < w1.heap.size := fun g e => by
    have hlt := owns_lt ho e
    rcases hfr g e with q | q
    · have := h.sBlk hs0 q
      exact ⟨this.2.2.1, this.2.2.2.1, this.2.2.2.2, hlt⟩
    · refine ⟨fun r => ?_, fun r => ?_, fun r => ?_, hlt⟩
      · have := h.lt (.inl rfl); omega
      · have := h.lt (.inr (.inl rfl)); omega
      · have := h.lt (.inr (.inr (.inl r))); omega
  have ho3 : OwnN w3 s'.v (D.file nm ++ bs) := ho.kept fun g e => by
    have := hg g e
    rw [h4.block g (Nat.lt_of_lt_of_le this.2.2.2 k2.size) (fun r => by rcases r with r | r; exact this.1 r; exact this.2.2.1 r), k2.block g this.2.2.2 (fun r => this.2.1 (by simpa using r))]
  have hm3 : MapV w3 mb ((mvs vs).put nm s'.v) := hm.block (h4.block mb hm.lt fun r => by
    rcases r with r | r
    · exact h.p_mb r.symm
    · exact h.mb_ps r)
  have hk : Kp (Blk p pv mb vs) W w3 := by
    refine (((k1.mono (S' := Blk p pv mb vs) (fun j hj r => (h.sBlk hs0 r).1)).then (Kp.grown (S := fun b => b = mb) k2 (fun j e => .inl (by simpa using e.symm))) (fun j _ r => .inr (.inl r))).then h4 ?_)
    intro j _ r
    rcases r with r | r
    · exact .inl r
    · exact .inr (.inr (.inl r))
  refine ⟨rfl, pv', h.putF nm s' (D.file nm ++ bs) pv' (addP D.ps nm bs.length) ho3 hm3 h1 h2 (by rw [hs0]; exact hfr) ?_ (h.inv.append nm bs), ?_, hk⟩
  · intro q hq hn g e
    have h5 := h.file_ne hq e
    have hlt : g < W.heap.size := h.lt (.inr (.inr (.inr ⟨q, hq, e⟩)))
    have hs : s.v.ownBlock ≠ some g := fun r => by
      rw [← hs0] at r
      obtain ⟨s1, h6, h7⟩ := getD_cases r
      exact apart_of h.fs.apart (once_mvs h.mp.1) h6 hq hn g h7 e
    rw [h4.block g (Nat.lt_of_lt_of_le hlt hle) (fun r => by rcases r with r | r; exact h5.1 r; exact h5.2.2 r), k2.block g (Nat.lt_of_lt_of_le hlt k1.size) (fun r => h5.2.1 (by simpa using r)), k1.block g hlt hs]
  · intro b hb
    exact blk_put (fun g e => (h3 g e).imp id (Nat.le_trans hle)) (by rw [hs0]; exact hfr) hb
set_option maxRecDepth 100000 in
set_option maxHeartbeats 4000000 in
theorem append_f (p : Nat) (D : Dk) (pv : Sl) (mb : Nat) (vs : Tb Sl) (nm : Str) (A : Option Addr) (n c : Nat) (l : List (List B8)) (W : World) (h : DkAt p D pv mb vs W) (hs : Small D) (hl : D.ps.length + 1 ≤ 1000000) (hn : l.length = n) (hn6 : n ≤ 1000000) (hb : l.flatten.length ≤ 100000000)
    (ht : PtIn (Blk p pv mb vs) W A l) : Calls Try.prog 27 #[.pointer (some ⟨p, 0, none⟩), .string nm, .slice A n c] W (AppP p mb (Blk p pv mb vs) (D.appR nm l.flatten) W) := by
  have hno := none_f p mb W h.c2
  have hnm := named_f nm W
  have HD := Lib.hid h
  have HSM := Lib.hid hs
  have HL := Lib.hid hl
  have HN := Lib.hid hn
  have HN6 := Lib.hid hn6
  have HB := Lib.hid hb
  have HT := Lib.hid ht
  clear h hs hl hn hn6 hb ht
  go_enter Try.func27, Try.ntmps27
  go_wp2_with fail
  refine hno.mono ?_
  rintro _ w1 ⟨rfl, rfl⟩
  clear hno
  go_wp2_with fail
  refine hnm.mono ?_
  rintro _ w1 ⟨rfl, rfl⟩
  clear hnm
  obtain ⟨nb, hnb⟩ : ∃ nb, namedB nm = nb := ⟨_, rfl⟩
  rw [hnb]
  have HNB := Lib.hid hnb
  clear hnb
  cases nb with
  | false =>
    have HR : Hid (D.appR nm l.flatten = (D, 2)) := Lib.hid (if_pos HNB.out)
    go_wp2_with fail
    go_ret
    unfold AppP
    rw [HR.out]
    exact ⟨rfl, pv, vs, HD.out, fun b e => .inl e, Kp.refl _ _⟩
  | true =>
  have HR : Hid (D.appR nm l.flatten = if 1 ≤ D.size ∧ D.size < ((used D.fs + l.flatten.length : Nat) : Int) then (D, 8) else (D.append nm l.flatten, 0)) := Lib.hid (if_neg (by rw [HNB.out]; decide))
  go_wp2_with fail
  go_loopw [7, 20] (fun v i wr => ∃ k : Nat, k ≤ n ∧ i = .int .i64 (k : Int) ∧ v = .int .i64 (((l.take k).flatten.length : Nat) : Int) ∧ Ok W wr) (fun _ i _ => n - (intOf i).toNat)
  case atStart => exact ⟨0, Nat.zero_le _, rfl, rfl, Ok.refl _⟩
  case round =>
    obtain ⟨k, hk, rfl, rfl, okr⟩ := hrel
    have HOK := Lib.hid okr
    clear okr
    by_cases hlt : k < n
    · have d1 : decide (k < n) = true := decide_eq_true hlt
      obtain ⟨b, off, B, m, c', rfl, -, x0, hm, -⟩ := (HT.out.kp (Kp.of HOK.out)) k (by rw [HN.out]; exact hlt)
      have HMT : Hid ((l.take (k + 1)).flatten.length = (l.take k).flatten.length + m) := Lib.hid (by rw [pt_take l k (by rw [HN.out]; exact hlt), List.length_append, hm])
      have HML := Lib.hid (pt_le l (k + 1))
      have hi0 : (0 : Int) ≤ (k : Int) := Int.natCast_nonneg _
      have hi1 : (k : Int) < (n : Int) := by omega
      clear hm
      obtain ⟨q, hq⟩ : ∃ q, (l.take k).flatten.length = q := ⟨_, rfl⟩
      rw [hq] at HMT ⊢
      have e1 : IntKind.i64.wrap ((k : Int) + 1) = (k : Int) + 1 := IntWalk.i64_in _ (by have := HN6.out; omega)
      have e2 : IntKind.i64.wrap ((q : Int) + (m : Int)) = (q : Int) + (m : Int) := IntWalk.i64_in _ (by have := HB.out; have := HML.out; have := HMT.out; omega)
      have HMS : Hid (n - ((k : Int) + 1).toNat < n - (k : Int).toNat) := Lib.hid (by omega)
      clear hq
      go_wp2_with fail
      exact ⟨⟨k + 1, hlt, rfl, by rw [HMT.out]; rfl, HOK.out⟩, HMS.out⟩
    · have d1 : decide (k < n) = false := decide_eq_false hlt
      obtain rfl : k = n := by omega
      have HFL : Hid ((l.take k).flatten = l.flatten) := Lib.hid (by rw [List.take_of_length_le (by rw [HN.out]; exact Nat.le_refl _)])
      rw [HFL.out]
      obtain ⟨N, hN⟩ : ∃ N, l.flatten.length = N := ⟨_, rfl⟩
      rw [hN] at HR HB ⊢
      have HNN := Lib.hid hN
      clear hN
      obtain ⟨U, hU⟩ : ∃ U, used D.fs = U := ⟨_, rfl⟩
      have HUU := Lib.hid hU
      have HUB : Hid (U ≤ 100000000) := Lib.hid (by rw [← hU]; exact HSM.out.us)
      rw [hU] at HR
      clear hU
      go_upto_region 11 with fail
      have HDR := Lib.hid (HD.out.ok HOK.out)
      have r1 := cell_regrown HDR.out.c1
      have q73 : ∀ d os, Calls Try.prog 73 #[.pointer (some ⟨p, 0, none⟩)] (Go.Sort.grow (redrawn wr d) os) fun e w'' => e = .returned (.int .i64 (U : Int)) ∧ ∃ q : Regrown, w'' = Go.Sort.grow (redrawn wr q.d) q.os := fun d os => Rg (by rw [← HUU.out]; exact used_f p D pv mb vs _ (HDR.out.ok (below_regrown wr d os)) HSM.out.us)
      have e3 : IntKind.i64.wrap ((U : Int) + (N : Int)) = (U : Int) + (N : Int) := IntWalk.i64_in _ (by have := HB.out; have := HUB.out; omega)
      go_cut [44] from 29 to 44 (fun v w => v = .bool (decide (1 ≤ D.size) && decide (D.size < (U : Int) + (N : Int))) ∧ Ok wr w)
      case first =>
        by_cases hz : (1 : Int) ≤ D.size
        · have hz1 : decide (1 ≤ D.size) = true := decide_eq_true hz
          have hz2 : decide (D.size ≥ 1) = true := decide_eq_true hz
          clear hz
          refine wp_region_quiet_below (by kernel_rfl) (by kernel_rfl) ?_
          refine HeldU.out ?_
          repeat (
            refine hqU_step (fun K hK => ?_)
            go_simp
            first
              | (refine hK _ ?_; clear hK K)
              | (apply Exists.intro
                 refine ⟨fun _ => ?_, hK _ ?_⟩
                 (with_reducible first
                   | exact q73 _ _)
                 clear hK K))
          refine HeldU.mk (wpQuiet_nil ?_)
          intro _ hw'
          obtain ⟨⟨dq, osq⟩, hw''⟩ := hw'
          subst hw''
          go_wp2_with fail
          go_meet
          exact ⟨by rw [hz1, Bool.true_and], below_regrown wr dq osq⟩
        · have hz1 : decide (1 ≤ D.size) = false := decide_eq_false hz
          have hz2 : decide (D.size ≥ 1) = false := decide_eq_false hz
          clear hz
          refine wp_region_quiet_below (by kernel_rfl) (by kernel_rfl) ?_
          refine HeldU.out ?_
          repeat (
            refine hqU_step (fun K hK => ?_)
            go_simp
            first
              | (refine hK _ ?_; clear hK K)
              | (apply Exists.intro
                 refine ⟨fun _ => ?_, hK _ ?_⟩
                 (with_reducible first
                   | exact q73 _ _)
                 clear hK K))
          refine HeldU.mk (wpQuiet_nil ?_)
          intro _ hw'
          obtain ⟨⟨dq, osq⟩, hw''⟩ := hw'
          subst hw''
          go_wp2_with fail
          go_meet
          exact ⟨by rw [hz1, Bool.false_and], below_regrown wr dq osq⟩
      case rest =>
      obtain ⟨rfl, okc⟩ := hcut
      have HOC := Lib.hid (HOK.out.trans okc)
      clear okc HDR r1 q73 e3
      obtain ⟨full, hfull⟩ : ∃ full, (decide (1 ≤ D.size) && decide (D.size < (U : Int) + (N : Int))) = full := ⟨_, rfl⟩
      rw [hfull]
      have HRF : Hid (D.appR nm l.flatten = if full = true then (D, 8) else (D.append nm l.flatten, 0)) := Lib.hid (by
        rw [HR.out, ← hfull]
        congr 1
        rw [Bool.and_eq_true, decide_eq_true_eq, decide_eq_true_eq, Int.natCast_add])
      clear hfull
      cases full with
      | true =>
        go_wp2_with fail
        go_ret
        unfold AppP
        rw [HRF.out]
        exact ⟨rfl, pv, vs, HD.out.ok HOC.out, fun b e => .inl e, Kp.of HOC.out⟩
      | false =>
      have HDC := Lib.hid (HD.out.ok HOC.out)
      have c2 := HDC.out.c2
      obtain ⟨s, hs0, hs1, -, hs3, hs4, -⟩ := HDC.out.file nm
      have hg := run_get (t := 55) (k := 9) Try.underlying55 Try.underlying9 wc (zero48 wc) mb (mvs vs) HDC.out.mp nm false
      rw [hs1] at hg
      simp only [Bool.false_eq_true, if_false] at hg
      unfold Sl.v at hg
      have HS0 := Lib.hid hs0
      have HOW := Lib.hid hs3
      have HFB : Hid ((D.file nm).length ≤ U) := Lib.hid (by rw [← HUU.out]; exact file_le_used nm)
      clear hs0 hs1 hs3 hs4
      go_wp2_with fail
      go_loopw [10, 53] (fun v i wr => ∃ (k2 : Nat) (s' : Sl), k2 ≤ k ∧ i = .int .i64 (k2 : Int) ∧ v = .slice s'.A s'.n s'.c ∧ OwnN wr s'.v (D.file nm ++ (l.take k2).flatten) ∧ From wc s.v s'.v ∧ Kp (fun b => s.v.ownBlock = some b) wc wr) (fun _ i _ => k - (intOf i).toNat)
      case atStart => exact ⟨0, s, Nat.zero_le _, rfl, rfl, by simpa using HOW.out, From.refl _ _, Kp.refl _ _⟩
      case round =>
        obtain ⟨k2, s', hk2, rfl, rfl, how, hfr, hkp⟩ := hrel
        have HOW2 := Lib.hid how
        have HFR := Lib.hid hfr
        have HKP := Lib.hid hkp
        clear how hfr hkp
        by_cases hlt2 : k2 < k
        · have d2 : decide (k2 < k) = true := decide_eq_true hlt2
          have HKB : Hid (Kp (Blk p pv mb vs) W wr) := Lib.hid ((Kp.of HOC.out).then HKP.out (fun j _ e => (HDC.out.sBlk HS0.out e).1))
          obtain ⟨b, off, B, m, c', rfl, -, x0, hm, hby⟩ := (HT.out.kp HKB.out) k2 (by rw [HN.out]; exact hlt2)
          have HMT := Lib.hid (pt_take l k2 (by rw [HN.out]; exact hlt2))
          have HML := Lib.hid (pt_le l (k2 + 1))
          have HBY := Lib.hid hby.1
          have HLL : Hid ((D.file nm ++ (l.take k2).flatten).length + (ptA l k2).length ≤ 140737488351232) := Lib.hid (by
            have h1 := HML.out
            rw [HMT.out, List.length_append] at h1
            rw [List.length_append]
            have := HFB.out; have := HUB.out; have := HB.out; have := HNN.out
            omega)
          have hi0 : (0 : Int) ≤ (k2 : Int) := Int.natCast_nonneg _
          have hi1 : (k2 : Int) < (k : Int) := by omega
          have e1 : IntKind.i64.wrap ((k2 : Int) + 1) = (k2 : Int) + 1 := IntWalk.i64_in _ (by have := HN6.out; omega)
          have HMS : Hid (k - ((k2 : Int) + 1).toNat < k - (k2 : Int).toNat) := Lib.hid (by omega)
          clear hm hby
          go_wp2_with (at_builtin; go_must (refine wpList_appBo Try.underlying48 rfl (.tmp 57) (.tmp 58) rfl s' _ rfl HOW2.out _ (ptA l k2) rfl HBY.out HLL.out ?_; intro s2 w2 h1 h2 h3 h4; have HO3 := Lib.hid h1; have HG3 := Lib.hid h2; have HF3 := Lib.hid h3; clear h1 h2 h3 h4))
          refine ⟨⟨k2 + 1, s2, hlt2, rfl, rfl, ?_, HFR.out.trans HF3.out HKP.out.size, ?_⟩, HMS.out⟩
          · rw [HMT.out, ← List.append_assoc]; exact HO3.out
          · refine HKP.out.then (Kp.grown (S := fun b => s'.v.ownBlock = some b) HG3.out (fun j e => .inl e)) (fun j hj e => ?_)
            rcases HFR.out j e with q | q
            · exact q
            · omega
        · have d2 : decide (k2 < k) = false := decide_eq_false hlt2
          obtain rfl : k2 = k := by omega
          have HOW3 : Hid (OwnN wr s'.v (D.file nm ++ l.flatten)) := Lib.hid (by rw [← HFL.out]; exact HOW2.out)
          have hpb : s.v.ownBlock ≠ some p := fun e => (HDC.out.sBlk HS0.out e).2.2.1 rfl
          have hmb : s.v.ownBlock ≠ some mb := fun e => (HDC.out.sBlk HS0.out e).2.2.2.1 rfl
          have c2' := HKP.out.cell c2 hpb
          have HMV : Hid (MapV wr mb (mvs vs)) := Lib.hid (HDC.out.mp.block (HKP.out.block mb HDC.out.mp.lt hmb))
          have HST : Hid (wr.heap[p]? = some (.cells #[pv.v, .int .i64 D.size, .map (some mb)] 57 (0, 0))) := Lib.hid ((HKP.out.block p (HDC.out.lt (.inl rfl)) hpb).trans HDC.out.st)
          have HPS : Hid (OwnPc wr pv D.ps) := Lib.hid (blk_eq HDC.out.ps fun g e => HKP.out.block g (HDC.out.lt (.inr (.inr (.inl e)))) (fun r => (HDC.out.sBlk HS0.out r).2.2.2.2 e))
          clear hpb hmb hg c2 HOW2
          go_wp2_with (at_mapUpdate; go_must (refine wpList_map_put rfl 55 (.tmp 64) (.tmp 65) (.tmp 66) rfl Try.underlying55 Try.underlying9 mb (mvs vs) rfl HMV.out nm rfl ?_; intro w3 hm3 hg3 hs3; have HM3 : Hid (MapV w3 mb ((mvs vs).put nm s'.v)) := Lib.hid hm3; have HG3 := Lib.hid hg3; clear hm3 hg3 hs3))
          have HST3 : Hid (w3.heap[p]? = some (.cells #[pv.v, .int .i64 D.size, .map (some mb)] 57 (0, 0))) := Lib.hid ((HG3.out.block p (Array.getElem?_eq_some_iff.1 HST.out).1 (fun e => HDC.out.p_mb (by simpa using e))).trans HST.out)
          have HPS3 : Hid (OwnPc w3 pv D.ps) := Lib.hid (blk_eq HPS.out fun g e => HG3.out.block g (owns_lt HPS.out e) (fun r => HDC.out.mb_ps (by rw [e]; exact r)))
          refine (wait_f p mb D.size pv D.ps nm N w3 HST3.out HPS3.out HL.out).mono ?_
          intro e w4 hw
          have hfin := HDC.out.appended nm s s' l.flatten HS0.out HOW3.out HFR.out HKP.out HM3.out HG3.out (by rw [HNN.out]; exact hw)
          obtain ⟨rfl, pv4, h1, h2, h3⟩ := hfin
          have H1 := Lib.hid h1
          have H2 := Lib.hid h2
          have H3 := Lib.hid h3
          clear h1 h2 h3 hw c2'
          go_wp2_with fail
          go_ret
          unfold AppP
          rw [HRF.out]
          exact ⟨rfl, pv4, _, H1.out, fun b hb => New.mono (fun _ e => e) HOC.out.size (H2.out b hb), (Kp.of HOC.out).then H3.out (fun _ _ e => e)⟩
end Go.Proofs.Ytfchjdhjbepocaa
