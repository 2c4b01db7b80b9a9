/- The contract of Parts. -/
import Derived.Test.YtebhcadolnjplaaRs
import Derived.Test.YtebhcadolnjplaaEg
namespace Go.Proofs.Ytebhcadolnjplaa
open Go.RowKit

/-- One text more: the pieces till now, and where the next one begins. -/
def cutStep (s : Sp) (a : List Sp × Str) (k : Str) : List Sp × Str := if hasB s k && ltB a.2 k then (a.1 ++ [⟨a.2, k⟩], k) else a
def cutSt (s : Sp) (ks : List Str) : List Sp × Str := ks.foldl (cutStep s) ([], s.lo)
def cutM (s : Sp) (ks : List Str) : List Sp := if rightB s then (cutSt s ks).1 ++ [⟨(cutSt s ks).2, s.hi⟩] else []
theorem cutSt_snoc (s : Sp) (ks : List Str) (k : Str) : cutSt s (ks ++ [k]) = cutStep s (cutSt s ks) k := by simp [cutSt]
theorem cutStep_len (s : Sp) (a : List Sp × Str) (k : Str) : (cutStep s a k).1.length ≤ a.1.length + 1 := by
  unfold cutStep
  split <;> simp
theorem cutSt_len (s : Sp) (ks : List Str) : (cutSt s ks).1.length ≤ ks.length := by
  have h : ∀ (ks : List Str) (a : List Sp × Str), (ks.foldl (cutStep s) a).1.length ≤ a.1.length + ks.length := by
    intro ks
    induction ks with
    | nil => intro a; simp
    | cons k ks ih =>
      intro a
      have := ih (cutStep s a k)
      have := cutStep_len s a k
      simp only [List.foldl_cons, List.length_cons]
      omega
  simpa [cutSt] using h ks ([], s.lo)
theorem take_at (ks : List Str) (k : Nat) (h : k < ks.length) : ks.take (k + 1) = ks.take k ++ [at0 ks k] := by
  rw [List.take_succ_eq_append_getElem h]
  simp [at0, h]

def flat (ps : List Sp) : List Value := (ps.map fun s => [Value.string s.lo, Value.string s.hi]).flatten
theorem flat_len (ps : List Sp) : (flat ps).length = ps.length * 2 := by
  induction ps with
  | nil => rfl
  | cons a l ih => simp only [flat, List.map_cons, List.flatten_cons, List.length_append, List.length_cons, List.length_nil] at *; omega
theorem flat_snoc (ps : List Sp) (s : Sp) : flat (ps ++ [s]) = flat ps ++ [Value.string s.lo, Value.string s.hi] := by simp [flat]
theorem info23 : (Try.prog.info? 91).map (fun i => (i.zero, i.size, i.bytes)) = some (some (.agg #[.string ⟨#[]⟩, .string ⟨#[]⟩]), 2, 32) := by kernel_rfl
/-- A row of spans of the call's own; it may be nil. -/
def OwnS (w : World) (base : Nat) (A : Option Addr) (n c : Nat) (ps : List Sp) : Prop := w.ownsRow base 91 2 (.slice A n c) ps.length (flat ps) ∧ n = ps.length

theorem wpList_appS {ops : Array Oper} {rest : List Oper} {o : Oper} {a : Act} {w : World} {Q : Exit → Act → World → Prop} (hgd : o.guard = none) (s x : Operand)
    (ho : o.op = .call { callee := .builtin .append, args := #[s, x], argTypes := #[100, 100] })
    (base : Nat) (A : Option Addr) (n c : Nat) (ps : List Sp) (h : Nat) (p : Sp) (hs : a.eval s = .slice A n c) (hx : a.eval x = .slice (some ⟨h, 0, none⟩) 1 1) (hown : OwnS w base A n c ps)
    (hc0 : w.cell? ⟨h, 0, none⟩ = some (.string p.lo)) (hc1 : w.cell? ⟨h, 1, none⟩ = some (.string p.hi))
    (hlen : ps.length ≤ 1000000) (hbase : base ≤ w.heap.size)
    (hk : ∀ A' c' w', OwnS w' base A' (n + 1) c' (ps ++ [p]) → Below base w w' → wpList Try.prog ops Q rest (a.put o.dst (.slice A' (n + 1) c')) w') : wpList Try.prog ops Q (o :: rest) a w := by
  obtain ⟨i0, hi, hz0, hz1, hz2⟩ := info_parts info23
  obtain ⟨hown, rfl⟩ := hown
  refine wpList_append_own _ hgd s x 100 ho base 91 i0 (.agg #[.string ⟨#[]⟩, .string ⟨#[]⟩]) 2 32 Try.underlying100 hi hz0 hz1 hz2 rfl (by decide) _ ps.length (flat ps) hs hown ⟨h, 0, none⟩ 1 1 [.string p.lo, .string p.hi] hx rfl ?_ ?_ (by unfold maxLen; omega) (by omega) hbase ?_
  · intro j u hu
    match j, hu with
    | 0, hu =>
      obtain rfl : u = .string p.lo := by simpa using hu.symm
      exact hc0
    | 1, hu =>
      obtain rfl : u = .string p.hi := by simpa using hu.symm
      exact hc1
  · intro u hu
    rcases List.mem_cons.1 hu with rfl | hu
    · rfl
    · obtain rfl : u = .string p.hi := by simpa using hu
      rfl
  · intro v' w' h2 h3 _
    have hb : Below base w w' := (Below.refl base w).grown h3 hbase (fun k hk => (World.ownsRow.lt hown k hk).1)
    obtain ⟨A', c', rfl⟩ : ∃ A' c', v' = .slice A' (ps.length + 1) c' := by
      rcases h2.2 with ⟨_, h5⟩ | ⟨g', cap', cur, rfl, _⟩
      · omega
      · exact ⟨_, _, rfl⟩
    refine hk A' c' w' ⟨?_, by simp⟩ hb
    rw [flat_snoc, List.length_append]; exact h2

set_option maxHeartbeats 400000 in
theorem values_w (A : Option Addr) (n c : Nat) (w : World) : Calls Try.prog 95 #[.slice A n c] w fun e w' => e = .returned (.func (.func 144) #[] #[.pointer (some ⟨w.heap.size, 0, none⟩)]) ∧ w' = w.alloc (.cells #[.slice A n c] 89) := by
  go_enter Try.func95, Try.ntmps95
  go_wp2
  go_ret
  exact ⟨rfl, rfl⟩

/-- What a call that tells texts leaves. -/
def TextsPost (w : World) (ks : List Str) : Ending → World → Prop := fun e w' => ∃ A c, e = .returned (.slice A ks.length c) ∧ Ok w w' ∧ ∀ j, j < ks.length → ∃ g, A = some ⟨g, 0, none⟩ ∧ w'.cell? ⟨g, j, none⟩ = some (.string (at0 ks j))
theorem sorted_w (Bs : Nat) (sv : Value) (zs : List Str) (hlen : zs.length ≤ 1000000) (w : World) (hBs : Bs < w.heap.size) (hcs : w.cell? ⟨Bs, 0, none⟩ = some sv) (hI : Strs w.heap.size w sv zs) :
    Calls Try.prog 94 #[.func (.func 144) #[] #[.pointer (some ⟨Bs, 0, none⟩)]] w (TextsPost w (sortS zs)) := by
  refine (callsIn_wide.1 (sorted_in 5 (Nat.le_refl _) Bs sv zs hlen w hBs hcs hI)).mono ?_
  rintro e w' ⟨v, rfl, hrow, hb⟩
  rcases hrow.2 with ⟨rfl, hz⟩ | ⟨gb, cap, cur, rfl, hbase, hgb, r1, r2, r3, r4⟩
  · rw [← sortS_len] at hz
    exact ⟨none, 0, by rw [hz], hb, fun j hj => by omega⟩
  · refine ⟨some ⟨gb, 0, none⟩, cap, by rw [sortS_len], hb, fun j hj => ⟨gb, rfl, ?_⟩⟩
    have hl := sortS_len zs
    have hcell := World.ownsRow.cellAt hrow j (by omega)
    rw [hcell]
    simp [at0, hj]

end Go.Proofs.Ytebhcadolnjplaa
namespace Go.Proofs.Ytebhcadolnjplaa
open Go.RowKit

/-- What a call that tells spans leaves. -/
def SpansPost (w : World) (ps : List Sp) : Ending → World → Prop := fun e w' => ∃ A c, e = .returned (.slice A ps.length c) ∧ OwnS w' w.heap.size A ps.length c ps ∧ Ok w w'
theorem OwnS.base {w : World} {B B' : Nat} {A : Option Addr} {n c : Nat} {ps : List Sp} (h : OwnS w B A n c ps) (hb : B' ≤ B) : OwnS w B' A n c ps := by
  refine ⟨⟨h.1.1, ?_⟩, h.2⟩
  rcases h.1.2 with h2 | ⟨g, cap, cur, e, hbb, r⟩
  · exact .inl h2
  · exact .inr ⟨g, cap, cur, e, Nat.le_trans hb hbb, r⟩
theorem SpansPost.mk {w w' : World} {ps : List Sp} {e : Ending} (A : Option Addr) (n c : Nat) (he : e = .returned (.slice A n c)) (h : OwnS w' w.heap.size A n c ps) (ho : Ok w w') : SpansPost w ps e w' := by
  obtain ⟨h1, rfl⟩ := h
  exact ⟨A, c, he, ⟨h1, rfl⟩, ho⟩

theorem OwnS.ok {w w' : World} {B : Nat} {A : Option Addr} {n c : Nat} {ps : List Sp} (h : OwnS w B A n c ps) (k : Ok w w') : OwnS w' B A n c ps := by
  refine ⟨h.1.kept (row := none) ⟨k.os, k.tape, k.output, k.size, fun i hi _ => k.block i hi⟩ ?_, h.2⟩
  cases Value.ownBlock (.slice A n c) with
  | none => exact .inl rfl
  | some b => exact .inr (fun e => by cases e)
theorem Ok.trans' {w w' w'' : World} (h : Ok w w') (k : Ok w' w'') : Ok w w'' := Ok.call h k

set_option maxRecDepth 100000 in
set_option maxHeartbeats 4000000 in
theorem cut_w (s : Sp) (A : Option Addr) (m c : Nat) (zs : List Str) (hzl : zs.length ≤ 1000000) (w : World) (hI : Strs w.heap.size w (.slice A m c) zs) :
    Calls Try.prog 49 #[spV s, .slice A m c] w (SpansPost w (cutM s (sortS zs))) := by
  have hr := right_w s
  have HHAS := Lib.hid (fun k => has_w s k)
  have HIS := Lib.hid hI
  obtain ⟨sl, sh⟩ := s
  unfold spV at hr HHAS ⊢
  clear hI
  cases h1 : rightB ⟨sl, sh⟩ with
  | false =>
    rw [h1] at hr
    have em : cutM ⟨sl, sh⟩ (sortS zs) = [] := by simp [cutM, h1]
    rw [em]
    go_enter Try.func49, Try.ntmps49
    go_wp2_with fail
    refine (hr _).mono ?_
    rintro _ w1 ⟨rfl, o1⟩
    go_wp2
    go_ret
    exact SpansPost.mk none 0 0 rfl ⟨World.ownsRow_nil _ _ _ _, rfl⟩ (Ok.call (Ok.alloc (Ok.refl w) _) o1)
  | true =>
    rw [h1] at hr
    have em : Hid (cutM ⟨sl, sh⟩ (sortS zs) = (cutSt ⟨sl, sh⟩ (sortS zs)).1 ++ [⟨(cutSt ⟨sl, sh⟩ (sortS zs)).2, sh⟩]) := Lib.hid (by simp [cutM, h1])
    obtain ⟨R, hR⟩ : ∃ R, cutM ⟨sl, sh⟩ (sortS zs) = R := ⟨_, rfl⟩
    rw [hR] at em ⊢
    clear hR
    obtain ⟨ks, hks⟩ : ∃ ks, sortS zs = ks := ⟨_, rfl⟩
    have HKL : Hid (ks.length ≤ 1000000) := Lib.hid (by rw [← hks, sortS_len]; exact hzl)
    rw [hks] at em
    have HKS := Lib.hid hks
    clear hks
    go_enter Try.func49, Try.ntmps49
    go_wp2_with fail
    refine (hr _).mono ?_
    rintro _ w1 ⟨rfl, o1⟩
    have A0 : w1.cell? ⟨w.heap.size, 0, none⟩ = some (.string sl) := Ok.cell o1 (by go_cell)
    have A1 : w1.cell? ⟨w.heap.size, 1, none⟩ = some (.string sh) := Ok.cell o1 (by go_cell)
    have ok1 : Hid (Ok w w1) := Lib.hid (Ok.call (Ok.alloc (Ok.refl w) _) o1)
    clear o1
    go_wp2_with fail
    refine (values_w _ _ _ _).mono ?_
    rintro _ w2 ⟨rfl, rfl⟩
    have HS2 : Hid (Strs (w1.alloc (.cells #[.slice A m c] 89)).heap.size (w1.alloc (.cells #[.slice A m c] 89)) (.slice A m c) zs) := Lib.hid (by
      have hb : Below w.heap.size w (w1.alloc (.cells #[.slice A m c] 89)) := Ok.alloc ok1.out _
      rcases HIS.out.below hb with h | ⟨b, off, cap, e, hb, hc⟩
      · exact .inl h
      · exact .inr ⟨b, off, cap, e, Nat.lt_of_lt_of_le hb (Ok.alloc ok1.out (.cells #[.slice A m c] 89)).size, hc⟩)
    go_wp2_with fail
    refine (sorted_w w1.heap.size (.slice A m c) zs hzl _ (by simp) (by go_cell) HS2.out).mono ?_
    rintro _ w3 ⟨A3, c3, rfl, o3, hcl⟩
    have A0 : w3.cell? ⟨w.heap.size, 0, none⟩ = some (.string sl) := Ok.cell (Ok.call (Ok.alloc (Ok.refl w1) _) o3) A0
    have A1 : w3.cell? ⟨w.heap.size, 1, none⟩ = some (.string sh) := Ok.cell (Ok.call (Ok.alloc (Ok.refl w1) _) o3) A1
    have ok3 : Hid (Ok w w3) := Lib.hid (Ok.call (Ok.alloc ok1.out _) o3)
    rw [HKS.out] at hcl ⊢
    have HCL := Lib.hid hcl
    clear hcl o3 ok1 HS2
    obtain ⟨n, hn⟩ : ∃ n, ks.length = n := ⟨_, rfl⟩
    rw [hn]
    have HN := Lib.hid hn
    have hn6 : n ≤ 1000000 := by rw [← hn]; exact HKL.out
    clear hn
    go_wp2_with fail
    go_loopw [5, 6, 18] (fun l lo i wr => ∃ (k : Nat) (A' : Option Addr) (m' c' : Nat) (st : List Sp × Str), k ≤ n ∧ i = .int .i64 k ∧ st = cutSt ⟨sl, sh⟩ (ks.take k) ∧ lo = .string st.2 ∧ l = .slice A' m' c' ∧ OwnS wr w3.heap.size A' m' c' st.1 ∧ Ok w3 wr) (fun _ _ i _ => n - (intOf i).toNat)
    case atStart => exact ⟨0, none, 0, 0, ([], sl), Nat.zero_le _, rfl, by simp [cutSt], rfl, rfl, ⟨World.ownsRow_nil _ _ _ _, rfl⟩, Ok.refl _⟩
    case round =>
      obtain ⟨k, A', m', c', st, hk, rfl, hst, rfl, rfl, hown, okr⟩ := hrel
      have HST := Lib.hid hst
      have HOWN := Lib.hid hown
      have HOKR := Lib.hid okr
      have A0 := Ok.cell okr A0
      have A1 := Ok.cell okr A1
      clear hst hown okr
      obtain ⟨acc, lo⟩ := st
      by_cases hlt : k < n
      · have d1 : decide ((k : Int) < (n : Int)) = true := decide_eq_true (by omega)
        obtain ⟨g, rfl, hcell⟩ := HCL.out k (by rw [HN.out]; exact hlt)
        have hcell := Ok.cell HOKR.out hcell
        have hbB : Hid (w3.heap.size ≤ wr.heap.size) := Lib.hid HOKR.out.size
        have HLE : Hid (acc.length ≤ 1000000) := Lib.hid (by
          have h1 := cutSt_len ⟨sl, sh⟩ (ks.take k)
          rw [← HST.out] at h1
          have h2 := HKL.out
          have h3 : (ks.take k).length ≤ ks.length := by rw [List.length_take]; omega
          exact Nat.le_trans h1 (Nat.le_trans h3 h2))
        have HNX : Hid (cutSt ⟨sl, sh⟩ (ks.take (k + 1)) = cutStep ⟨sl, sh⟩ (acc, lo) (at0 ks k)) := Lib.hid (by
          rw [take_at ks k (by rw [HN.out]; exact hlt), cutSt_snoc, ← HST.out])
        have hh := HHAS.out (at0 ks k)
        have hb := below_w lo (at0 ks k)
        cases h2 : hasB ⟨sl, sh⟩ (at0 ks k) with
        | false =>
          rw [h2] at hh
          have HX2 : Hid ((acc, lo) = cutSt ⟨sl, sh⟩ (ks.take (k + 1))) := Lib.hid (by rw [HNX.out]; simp [cutStep, h2])
          go_wp2_with fail
          refine (hh _).mono ?_
          rintro _ w4 ⟨rfl, o4⟩
          go_wp2
          refine ⟨⟨k + 1, A', m', c', (acc, lo), hlt, rfl, HX2.out, rfl, rfl, HOWN.out.ok o4, Ok.call HOKR.out o4⟩, ?_⟩
          show n - ((k : Int) + 1).toNat < n - (k : Int).toNat
          omega
        | true =>
          rw [h2] at hh
          cases h3 : ltB lo (at0 ks k) with
          | false =>
            rw [h3] at hb
            have HX2 : Hid ((acc, lo) = cutSt ⟨sl, sh⟩ (ks.take (k + 1))) := Lib.hid (by rw [HNX.out]; simp [cutStep, h2, h3])
            go_wp2_with fail
            refine (hh _).mono ?_
            rintro _ w4 ⟨rfl, o4⟩
            go_wp2_with fail
            refine (hb _).mono ?_
            rintro _ w5 ⟨rfl, o5⟩
            go_wp2
            refine ⟨⟨k + 1, A', m', c', (acc, lo), hlt, rfl, HX2.out, rfl, rfl, (HOWN.out.ok o4).ok o5, Ok.call (Ok.call HOKR.out o4) o5⟩, ?_⟩
            show n - ((k : Int) + 1).toNat < n - (k : Int).toNat
            omega
          | true =>
            rw [h3] at hb
            have HX2 : Hid ((acc ++ [⟨lo, at0 ks k⟩], at0 ks k) = cutSt ⟨sl, sh⟩ (ks.take (k + 1))) := Lib.hid (by rw [HNX.out]; simp [cutStep, h2, h3])
            go_wp2_with fail
            refine (hh _).mono ?_
            rintro _ w4 ⟨rfl, o4⟩
            go_wp2_with fail
            refine (hb _).mono ?_
            rintro _ w5 ⟨rfl, o5⟩
            have HOW5 : Hid (OwnS (w5.alloc (.cells #[.string lo, .string (at0 ks k)] 91)) w3.heap.size A' m' c' acc) := Lib.hid ⟨World.ownsRow.alloc ((HOWN.out.ok o4).ok o5).1 _, HOWN.out.2⟩
            have ok5 : Hid (Ok w3 (w5.alloc (.cells #[.string lo, .string (at0 ks k)] 91))) := Lib.hid (Ok.alloc (Ok.call (Ok.call HOKR.out o4) o5) _)
            have n0 : Hid ((w5.alloc (.cells #[.string lo, .string (at0 ks k)] 91)).cell? ⟨w5.heap.size, 0, none⟩ = some (.string lo)) := Lib.hid (by go_cell)
            have n1 : Hid ((w5.alloc (.cells #[.string lo, .string (at0 ks k)] 91)).cell? ⟨w5.heap.size, 1, none⟩ = some (.string (at0 ks k))) := Lib.hid (by go_cell)
            clear o4 o5
            go_wp2_with (at_builtin; go_must (refine wpList_appS rfl (.tmp 30) (.tmp 34) rfl w3.heap.size A' m' c' acc w5.heap.size ⟨lo, at0 ks k⟩ rfl rfl HOW5.out n0.out n1.out HLE.out ok5.out.size ?_; intro A6 c6 w6 hown6 hb6; have HOW6 := Lib.hid hown6; have HB6 := Lib.hid hb6; clear hown6 hb6))
            refine ⟨⟨k + 1, A6, m' + 1, c6, (acc ++ [⟨lo, at0 ks k⟩], at0 ks k), hlt, rfl, HX2.out, rfl, rfl, HOW6.out, Below.trans ok5.out HB6.out⟩, ?_⟩
            show n - ((k : Int) + 1).toNat < n - (k : Int).toNat
            omega
      · have d1 : decide ((k : Int) < (n : Int)) = false := decide_eq_false (by omega)
        have HF : Hid (R = acc ++ [⟨lo, sh⟩]) := Lib.hid (by
          rw [em.out]
          have : ks.take k = ks := List.take_of_length_le (by rw [HN.out]; omega)
          rw [this] at HST
          rw [← HST.out])
        have HLE : Hid (acc.length ≤ 1000000) := Lib.hid (by
          have h1 := cutSt_len ⟨sl, sh⟩ (ks.take k)
          rw [← HST.out] at h1
          have h2 := HKL.out
          have h3 : (ks.take k).length ≤ ks.length := by rw [List.length_take]; omega
          exact Nat.le_trans h1 (Nat.le_trans h3 h2))
        have HOW5 : Hid (OwnS (wr.alloc (.cells #[.string lo, .string sh] 91)) w3.heap.size A' m' c' acc) := Lib.hid ⟨World.ownsRow.alloc HOWN.out.1 _, HOWN.out.2⟩
        have ok5 : Hid (Ok w3 (wr.alloc (.cells #[.string lo, .string sh] 91))) := Lib.hid (Ok.alloc HOKR.out _)
        have n0 : Hid ((wr.alloc (.cells #[.string lo, .string sh] 91)).cell? ⟨wr.heap.size, 0, none⟩ = some (.string lo)) := Lib.hid (by go_cell)
        have n1 : Hid ((wr.alloc (.cells #[.string lo, .string sh] 91)).cell? ⟨wr.heap.size, 1, none⟩ = some (.string sh)) := Lib.hid (by go_cell)
        go_wp2_with (at_builtin; go_must (refine wpList_appS rfl (.tmp 38) (.tmp 43) rfl w3.heap.size A' m' c' acc wr.heap.size ⟨lo, sh⟩ rfl rfl HOW5.out n0.out n1.out HLE.out ok5.out.size ?_; intro A6 c6 w6 hown6 hb6; have HOW6 := Lib.hid hown6; have HB6 := Lib.hid hb6; clear hown6 hb6))
        go_ret
        rw [HF.out]
        exact SpansPost.mk A6 _ c6 rfl (HOW6.out.base ok3.out.size) (Ok.trans' ok3.out (Below.trans ok5.out HB6.out))

end Go.Proofs.Ytebhcadolnjplaa
namespace Go.Proofs.Ytebhcadolnjplaa
open Go.RowKit

def partsGo : Str → List Sp → Bool
  | _, [] => true
  | lo, s :: r => rightB s && (s.lo.toList == lo.toList) && (noB s.hi == r.isEmpty) && partsGo s.hi r
def partsM (ps : List Sp) : Bool := !ps.isEmpty && partsGo ⟨#[]⟩ ps
def at1 (ps : List Sp) (j : Nat) : Sp := ps[j]?.getD allS
/-- These spans, from an address on. -/
def SpansAt (W : World) (A : Option Addr) (ps : List Sp) : Prop := ∀ j, j < ps.length → ∃ b off, A = some ⟨b, off, none⟩ ∧ W.cell? ⟨b, off + j * 2, none⟩ = some (.string (at1 ps j).lo) ∧ W.cell? ⟨b, off + j * 2 + 1, none⟩ = some (.string (at1 ps j).hi)
theorem SpansAt.ok {W W' : World} {A : Option Addr} {ps : List Sp} (h : SpansAt W A ps) (k : Ok W W') : SpansAt W' A ps := fun j hj => by
  obtain ⟨b, off, e, c0, c1⟩ := h j hj
  exact ⟨b, off, e, Ok.cell k c0, Ok.cell k c1⟩
theorem flat_get : ∀ (ps : List Sp) (j : Nat), j < ps.length → (flat ps)[j * 2]? = some (.string (at1 ps j).lo) ∧ (flat ps)[j * 2 + 1]? = some (.string (at1 ps j).hi)
  | [], j, h => absurd h (Nat.not_lt_zero _)
  | p :: ps, 0, _ => by simp [flat, at1]
  | p :: ps, j + 1, h => by
    have := flat_get ps j (by simpa using h)
    have e : flat (p :: ps) = .string p.lo :: .string p.hi :: flat ps := by simp [flat]
    rw [e, show (j + 1) * 2 = j * 2 + 1 + 1 from by omega, List.getElem?_cons_succ, List.getElem?_cons_succ, List.getElem?_cons_succ, List.getElem?_cons_succ]
    simpa [at1] using this
theorem OwnS.at {w : World} {B : Nat} {A : Option Addr} {n c : Nat} {ps : List Sp} (h : OwnS w B A n c ps) : SpansAt w A ps := fun j hj => by
  obtain ⟨h1, rfl⟩ := h
  rcases h1.2 with ⟨e, h5⟩ | ⟨g, cap, cur, e, r⟩
  · omega
  · obtain ⟨rfl, -, rfl⟩ : A = some ⟨g, 0, none⟩ ∧ True ∧ c = cap := by
      simp only [Value.slice.injEq] at e
      exact ⟨e.1, trivial, e.2.2⟩
    have e0 := World.ownsRow.cellAt h1 (j * 2) (by omega)
    have e1 := World.ownsRow.cellAt h1 (j * 2 + 1) (by omega)
    obtain ⟨f0, f1⟩ := flat_get ps j hj
    exact ⟨g, 0, rfl, by rw [Nat.zero_add, e0, f0], by rw [Nat.zero_add, e1, f1]⟩
theorem drop_at (ps : List Sp) (k : Nat) (h : k < ps.length) : ps.drop k = at1 ps k :: ps.drop (k + 1) := by
  rw [List.drop_eq_getElem_cons h]
  simp [at1, h]


end Go.Proofs.Ytebhcadolnjplaa
