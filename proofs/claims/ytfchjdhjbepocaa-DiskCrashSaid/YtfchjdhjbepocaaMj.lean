/- Disks: what waits of a file, reading, new ones. -/
import Derived.Test.YtfchjdhjbepocaaMi
namespace Go.Proofs.Ytfchjdhjbepocaa
open Go Go.RowKit

theorem str_list (a b : Str) : (a.toList == b.toList) = decide (a = b) := by
  rw [Bool.eq_iff_iff, decide_eq_true_eq, beq_iff_eq]
  constructor
  · intro h
    rw [Go.ByteArray.toList_eq, Go.ByteArray.toList_eq] at h
    rcases a with ⟨x⟩
    rcases b with ⟨y⟩
    congr
    exact Array.ext' h
  · rintro rfl; rfl
set_option maxRecDepth 100000 in
set_option maxHeartbeats 2000000 in
theorem of_f (p : Nat) (A : Option Addr) (n c : Nat) (l : List Pc) (nm : Str) (w : World) (c0 : w.cell? ⟨p, 0, none⟩ = some (.slice A n c)) (h : OwnQ w A n c l) (hn : n ≤ 1000000) (hm : many l ≤ 1000000000) :
    Calls Try.prog 68 #[.pointer (some ⟨p, 0, none⟩), .string nm] w (Ret w (.int .i64 (ofP l nm : Int))) := by
  have HI := Lib.hid h
  have HL := Lib.hid h.1
  have HN := Lib.hid hn
  have HM := Lib.hid hm
  clear h hn hm
  go_enter Try.func68, Try.ntmps68
  go_wp2_with fail
  go_loopw [5, 13] (fun v i wr => ∃ k : Nat, k ≤ n ∧ i = .int .i64 (k : Int) ∧ v = .int .i64 ((ofP (l.take k) nm : Nat) : Int) ∧ Ok w wr) (fun _ i _ => n - (intOf i).toNat)
  case atStart => exact ⟨0, Nat.zero_le _, rfl, rfl, Ok.refl _⟩
  case round =>
    obtain ⟨k, hk, rfl, rfl, okr⟩ := hrel
    have HOK := Lib.hid okr
    clear okr
    by_cases hlt : k < n
    · have d1 : decide (k < n) = true := decide_eq_true hlt
      obtain ⟨g, rfl, x0, x1⟩ := (HI.out.ok HOK.out).at k hlt
      have HMT := Lib.hid (ofP_take l nm k (by rw [HL.out]; exact hlt))
      have HML := Lib.hid (Nat.le_trans (ofP_le (l.take (k + 1)) nm) (many_take_le l (k + 1)))
      have hi0 : (0 : Int) ≤ (k : Int) := Int.natCast_nonneg _
      have hi1 : (k : Int) < (n : Int) := by omega
      obtain ⟨m, hm⟩ : ∃ m, ofP (l.take k) nm = m := ⟨_, rfl⟩
      rw [hm] at HMT ⊢
      generalize (pcA l k).1 = km at *
      generalize (pcA l k).2 = vm at *
      have HOA : Hid (Ok wr (wr.alloc (.cells #[.string km, .int .i64 (vm : Int)] 105))) := Lib.hid ((Ok.refl wr).alloc _)
      obtain ⟨q, hq⟩ : ∃ q, wr.heap.size = q := ⟨_, rfl⟩
      have HQC : Hid ((wr.alloc (.cells #[.string km, .int .i64 (vm : Int)] 105)).cell? ⟨q, 0, none⟩ = some (.string km) ∧ (wr.alloc (.cells #[.string km, .int .i64 (vm : Int)] 105)).cell? ⟨q, 1, none⟩ = some (.int .i64 (vm : Int))) := Lib.hid (by rw [← hq]; exact two_new wr _ _ _)
      have e1 : IntKind.i64.wrap ((k : Int) + 1) = (k : Int) + 1 := IntWalk.i64_in _ (by have := HN.out; omega)
      have HMS : Hid (n - ((k : Int) + 1).toNat < n - (k : Int).toNat) := Lib.hid (by omega)
      clear hm
      by_cases he : km = nm
      · have HE := Lib.hid he
        rw [if_pos he] at HMT
        have e2 : IntKind.i64.wrap ((m : Int) + (vm : Int)) = (m : Int) + (vm : Int) := IntWalk.i64_in _ (by have := HM.out; have := HML.out; have := HMT.out; omega)
        have s1 : (km.toList == nm.toList) = true := by rw [str_list, decide_eq_true he]
        clear he
        go_upto_region 5 with fail
        clear hq x0 x1
        generalize wr.alloc (.cells #[.string km, .int .i64 (vm : Int)] 105) = w0 at *
        have q0 := HQC.out.1
        have q1 := HQC.out.2
        go_wp2_with fail
        exact ⟨⟨k + 1, hlt, rfl, by rw [HMT.out]; rfl, HOK.out.trans HOA.out⟩, HMS.out⟩
      · rw [if_neg he] at HMT
        have s1 : (km.toList == nm.toList) = false := by rw [str_list, decide_eq_false he]
        clear he
        go_upto_region 5 with fail
        clear hq x0 x1
        generalize wr.alloc (.cells #[.string km, .int .i64 (vm : Int)] 105) = w0 at *
        have q0 := HQC.out.1
        have q1 := HQC.out.2
        go_wp2_with fail
        exact ⟨⟨k + 1, hlt, rfl, by rw [HMT.out]; rfl, HOK.out.trans HOA.out⟩, HMS.out⟩
    · have d1 : decide (k < n) = false := decide_eq_false hlt
      obtain rfl : k = n := by omega
      have HT := Lib.hid (take_all l k HL.out)
      rw [HT.out]
      go_wp2_with fail
      go_ret
      exact ⟨rfl, HOK.out⟩
/-- A disk is small. -/
structure Small (D : Dk) : Prop where
  us : used D.fs ≤ 100000000
  ps : D.ps.length ≤ 1000000
theorem Dk.Inv.many_le {D : Dk} (h : D.Inv) : many D.ps ≤ used D.fs := by
  obtain ⟨size, ps, fs⟩ := D
  have key : ∀ (fs : Tb (List B8)) (ps : List Pc), Once fs → (∀ p ∈ ps, (fs.at? p.1).isSome = true) → (∀ k, ofP ps k ≤ ((fs.at? k).getD []).length) → many ps ≤ used fs := by
    intro fs
    induction fs with
    | nil =>
      intro ps _ h1 _
      cases ps with
      | nil => exact Nat.le_refl _
      | cons p l => have := h1 p (List.mem_cons_self ..); cases this
    | cons f fs ih =>
      intro ps ho h1 h2
      obtain ⟨ho1, ho2⟩ := List.pairwise_cons.1 ho
      have e : many ps = ofP ps f.1 + many (settle ps f.1) := by
        clear h1 h2
        induction ps with
        | nil => rfl
        | cons p l ih =>
          rw [many_cons, ofP_cons, ih]
          unfold settle
          by_cases q : p.1 = f.1
          · rw [if_pos q, List.filter_cons, if_neg (by simpa using q)]; omega
          · rw [if_neg q, List.filter_cons, if_pos (by simpa using q), many_cons]; omega
      have h3 := h2 f.1
      rw [Tb.at?_cons, if_pos rfl, Option.getD_some] at h3
      have h4 := ih (settle ps f.1) ho2 (fun p hp => by
        obtain ⟨hp1, hp2⟩ := List.mem_filter.1 hp
        have hp2 : ¬ p.1 = f.1 := by simpa using hp2
        have := h1 p hp1
        rwa [Tb.at?_cons, if_neg (fun q => hp2 q.symm)] at this) (fun k => by
        rw [ofP_settle]
        split
        · exact Nat.zero_le _
        · rename_i hk
          have := h2 k
          rwa [Tb.at?_cons, if_neg hk] at this)
      have : used (f :: fs) = f.2.length + used fs := by simp [used]
      omega
  exact key fs ps h.once (fun p hp => h.there hp) h.within
set_option maxRecDepth 100000 in
set_option maxHeartbeats 2000000 in
theorem waits_f (p : Nat) (D : Dk) (pv : Sl) (mb : Nat) (vs : Tb Sl) (w : World) (h : DkAt p D pv mb vs w) (hs : Small D) : Calls Try.prog 26 #[.pointer (some ⟨p, 0, none⟩)] w (Ret w (.int .i64 (many D.ps : Int))) := by
  have hq := OwnQ.of h.ps
  have hm := many_f p pv.A pv.n pv.c D.ps w h.c0 hq (by rw [← hq.1]; exact hs.ps) (Nat.le_trans h.inv.many_le (by have := hs.us; omega))
  have hno := none_f p mb w h.c2
  clear h hs hq
  go_enter Try.func26, Try.ntmps26
  go_wp2_with fail
  refine hno.mono ?_
  rintro _ w1 ⟨rfl, rfl⟩
  go_wp2_with fail
  refine hm.mono ?_
  rintro _ w1 ⟨rfl, o1⟩
  have HO := Lib.hid o1
  clear o1 hm hno
  go_wp2_with fail
  go_ret
  exact ⟨rfl, HO.out⟩
def ReadP (xs : List B8) (is : Bool) (W : World) (e : Ending) (w' : World) : Prop := ∃ s : Sl, e = .returned (.tuple #[s.v, .bool is]) ∧ OwnN w' s.v xs ∧ (∀ g, s.v.ownBlock = some g → W.heap.size ≤ g) ∧ s.n = xs.length ∧ Ok W w'
theorem wpList_appB {t : TypeId} (ht : Try.prog.underlying t = some (.slice 5)) {ops : Array Oper} {rest : List Oper} {o : Oper} {a : Act} {w : World} {Q : Exit → Act → World → Prop} (hgd : o.guard = none) (x y : Operand)
    (ho : o.op = .call { callee := .builtin .append, args := #[x, y], argTypes := #[t, t] }) (s : Sl) (xs : List B8) (hs : a.eval x = s.v) (hown : OwnN w s.v xs) (v : Value) (ys : List B8) (hy : a.eval y = v) (hin : BytesIn w v ys)
    (hl : xs.length + ys.length ≤ 140737488351232) (h : ∀ (s' : Sl) (w' : World), OwnN w' s'.v (xs ++ ys) → w.grownBy w' s.v.ownBlock → From w s.v s'.v → s'.n = xs.length + ys.length → wpList Try.prog ops Q rest (a.put o.dst s'.v) w') : wpList Try.prog ops Q (o :: rest) a w := by
  refine wpList_plain hgd fun K hK => ?_
  obtain ⟨i0, hi, hz0, hz1, hz2⟩ := info_parts info5
  obtain ⟨s', w', hr, h1, h2, h3, h4⟩ := run_appB (P := Try.prog) (t := t) (ty := o.type) ht hi hz0 hz1 hz2 w s xs hown v ys hin hl
  unfold Oper.wp execOp
  simp only [ho, resolve, invoke, builtin, Sem.run_bind, Sem.run_pure, Result.andThen_ok, List.map_toArray, List.map_cons, List.map_nil, hs, hy, hr]
  exact hK _ _ (h s' w' h1 h2 h3 h4)
set_option maxRecDepth 100000 in
set_option maxHeartbeats 2000000 in
theorem read_f (p : Nat) (D : Dk) (pv : Sl) (mb : Nat) (vs : Tb Sl) (nm : Str) (w : World) (h : DkAt p D pv mb vs w) (hs : Small D) :
    Calls Try.prog 24 #[.pointer (some ⟨p, 0, none⟩), .string nm] w (ReadP (D.file nm) (D.fs.at? nm).isSome w) := by
  have c2 := h.c2
  have hno := none_f p mb w h.c2
  obtain ⟨s, -, hs1, hs2, hs3, hs4, -⟩ := h.file nm
  have hg := run_get (t := 55) (k := 9) Try.underlying55 Try.underlying9 w (zero48 w) mb (mvs vs) h.mp nm true
  rw [hs1, hs2] at hg
  have HF := Lib.hid (hs3.bytes (by have : (D.file nm).length ≤ used D.fs := file_le_used nm; have := hs.us; omega))
  have HL : Hid ((D.file nm).length ≤ 100000000) := Lib.hid (Nat.le_trans (file_le_used nm) hs.us)
  generalize D.file nm = xs at *
  generalize (D.fs.at? nm).isSome = is at *
  clear h hs hs1 hs2 hs3 hs4
  simp only [if_true] at hg
  unfold Sl.v at hg HF
  go_enter Try.func24, Try.ntmps24
  go_wp2_with fail
  refine hno.mono ?_
  rintro _ w1 ⟨rfl, rfl⟩
  clear hno
  go_wp2_with (at_builtin; go_must (refine wpList_appB Try.underlying48 rfl (.const (.slice none 0 0)) (.tmp 19) rfl sl0 [] rfl (World.ownsRow_nil _ _ _ _) _ xs rfl HF.out (by have := HL.out; simp; omega) ?_; intro s' w2 h1 h2 h3 h4; have HS := Lib.hid h1; have HG := Lib.hid h2; have HFR := Lib.hid h3; have HLN := Lib.hid h4; clear h1 h2 h3 h4))
  go_returns
  refine ⟨s', rfl, by simpa using HS.out, fun g e => ?_, by have := HLN.out; simpa using this, ok_grown HG.out (fun j e => by cases e)⟩
  rcases HFR.out g e with q | q
  · cases q
  · exact q
def fresh0 (size : Int) : Dk := ⟨size, [], []⟩
set_option maxRecDepth 100000 in
set_option maxHeartbeats 2000000 in
theorem new_f (size : Int) (W : World) : Calls Try.prog 11 #[.int .i64 size] W fun e w' => ∃ p mb, e = .returned (.pointer (some ⟨p, 0, none⟩)) ∧ DkAt p (fresh0 size) sl0 mb [] w' ∧ Ok W w' ∧ W.heap.size ≤ p ∧ W.heap.size ≤ mb := by
  have hm : (Instr.makeMap 55 none).run Try.prog W = .ok (.map (some W.heap.size)) (W.alloc (.map #[] 0)) := rfl
  go_enter Try.func11, Try.ntmps11
  go_wp2_with fail
  go_ret
  have hm1 : MapV ((W.alloc (.map #[] 0)).alloc (.cells #[.slice none 0 0, .int .i64 size, .map (some W.heap.size)] 57)) W.heap.size [] := (MapV.new W).grown (World.grownBy_alloc _ _ none) (by simp)
  have hs1 : (W.alloc (.map #[] 0)).heap.size = W.heap.size + 1 := by show (W.heap.push _).size = _; simp
  have hb := heap_alloc_new (W.alloc (.map #[] 0)) (.cells #[.slice none 0 0, .int .i64 size, .map (some W.heap.size)] 57)
  rw [hs1] at hb
  exact ⟨W.heap.size + 1, W.heap.size, rfl, ⟨hb, World.ownsRow_nil _ _ _ _, hm1, ⟨trivial, List.Pairwise.nil⟩, Dk.Inv.new size⟩, ((Ok.refl W).alloc _).alloc _, by omega, Nat.le_refl _⟩
end Go.Proofs.Ytfchjdhjbepocaa
