/- The contract of Cut: what is cut is what the plain mathematics cuts at the texts, sorted. -/
import Derived.Test.YtdabdkedgigjdaaGreatF
import Derived.Test.YtdabdkedgigjdaaGreatG
namespace Go.Proofs.YtdabdkedgigjdaaGreat
open Go.RowKit

/-- One text more: the pieces till now, and where the next one begins. -/
def cutStep (s : Sp) (a : List Sp × Str) (k : Str) : List Sp × Str := if hasB s k && ltB a.2 k then (a.1 ++ [⟨a.2, k⟩], k) else a
def cutSt (s : Sp) (ks : List Str) : List Sp × Str := ks.foldl (cutStep s) ([], s.lo)
def cutM (s : Sp) (ks : List Str) : List Sp := if rightB s then (cutSt s ks).1 ++ [⟨(cutSt s ks).2, s.hi⟩] else []
theorem cutSt_snoc (s : Sp) (ks : List Str) (k : Str) : cutSt s (ks ++ [k]) = cutStep s (cutSt s ks) k := by simp [cutSt]
theorem cutStep_len (s : Sp) (a : List Sp × Str) (k : Str) : (cutStep s a k).1.length ≤ a.1.length + 1 := by
  unfold cutStep
  split <;> simp
theorem cutSt_len (s : Sp) (ks : List Str) : (cutSt s ks).1.length ≤ ks.length := by
  have h : ∀ (ks : List Str) (a : List Sp × Str), (ks.foldl (cutStep s) a).1.length ≤ a.1.length + ks.length := by
    intro ks
    induction ks with
    | nil => intro a; simp
    | cons k ks ih =>
      intro a
      have := ih (cutStep s a k)
      have := cutStep_len s a k
      simp only [List.foldl_cons, List.length_cons]
      omega
  simpa [cutSt] using h ks ([], s.lo)
theorem take_at (ks : List Str) (k : Nat) (h : k < ks.length) : ks.take (k + 1) = ks.take k ++ [at0 ks k] := by
  rw [List.take_succ_eq_append_getElem h]
  simp [at0, h]

def flat (ps : List Sp) : List Value := (ps.map fun s => [Value.string s.lo, Value.string s.hi]).flatten
theorem flat_len (ps : List Sp) : (flat ps).length = ps.length * 2 := by
  induction ps with
  | nil => rfl
  | cons a l ih => simp only [flat, List.map_cons, List.flatten_cons, List.length_append, List.length_cons, List.length_nil] at *; omega
theorem flat_snoc (ps : List Sp) (s : Sp) : flat (ps ++ [s]) = flat ps ++ [Value.string s.lo, Value.string s.hi] := by simp [flat]
theorem info23 : (Tryz.prog.info? 26).map (fun i => (i.zero, i.size, i.bytes)) = some (some (.agg #[.string ⟨#[]⟩, .string ⟨#[]⟩]), 2, 32) := by kernel_rfl
/-- A row of spans of the call's own; it may be nil. -/
def OwnS (w : World) (base : Nat) (A : Option Addr) (n c : Nat) (ps : List Sp) : Prop := w.ownsRow base 26 2 (.slice A n c) ps.length (flat ps) ∧ n = ps.length

theorem wpList_appS {ops : Array Oper} {rest : List Oper} {o : Oper} {a : Act} {w : World} {Q : Exit → Act → World → Prop} (hgd : o.guard = none) (s x : Operand)
    (ho : o.op = .call { callee := .builtin .append, args := #[s, x], argTypes := #[94, 94] })
    (base : Nat) (A : Option Addr) (n c : Nat) (ps : List Sp) (h : Nat) (p : Sp) (hs : a.eval s = .slice A n c) (hx : a.eval x = .slice (some ⟨h, 0, none⟩) 1 1) (hown : OwnS w base A n c ps)
    (hc0 : w.cell? ⟨h, 0, none⟩ = some (.string p.lo)) (hc1 : w.cell? ⟨h, 1, none⟩ = some (.string p.hi))
    (hlen : ps.length ≤ 1000000) (hbase : base ≤ w.heap.size)
    (hk : ∀ A' c' w', OwnS w' base A' (n + 1) c' (ps ++ [p]) → Below base w w' → wpList Tryz.prog ops Q rest (a.put o.dst (.slice A' (n + 1) c')) w') : wpList Tryz.prog ops Q (o :: rest) a w := by
  obtain ⟨i0, hi, hz0, hz1, hz2⟩ := info_parts info23
  obtain ⟨hown, rfl⟩ := hown
  refine wpList_append_own _ hgd s x 94 ho base 26 i0 (.agg #[.string ⟨#[]⟩, .string ⟨#[]⟩]) 2 32 Tryz.underlying94 hi hz0 hz1 hz2 rfl (by decide) _ ps.length (flat ps) hs hown ⟨h, 0, none⟩ 1 1 [.string p.lo, .string p.hi] hx rfl ?_ ?_ (by unfold maxLen; omega) (by omega) hbase ?_
  · intro j u hu
    match j, hu with
    | 0, hu =>
      obtain rfl : u = .string p.lo := by simpa using hu.symm
      exact hc0
    | 1, hu =>
      obtain rfl : u = .string p.hi := by simpa using hu.symm
      exact hc1
  · intro u hu
    rcases List.mem_cons.1 hu with rfl | hu
    · rfl
    · obtain rfl : u = .string p.hi := by simpa using hu
      rfl
  · intro v' w' h2 h3 _
    have hb : Below base w w' := (Below.refl base w).grown h3 hbase (fun k hk => (World.ownsRow.lt hown k hk).1)
    obtain ⟨A', c', rfl⟩ : ∃ A' c', v' = .slice A' (ps.length + 1) c' := by
      rcases h2.2 with ⟨_, h5⟩ | ⟨g', cap', cur, rfl, _⟩
      · omega
      · exact ⟨_, _, rfl⟩
    refine hk A' c' w' ⟨?_, by simp⟩ hb
    rw [flat_snoc, List.length_append]; exact h2

set_option maxHeartbeats 400000 in
theorem values_w (A : Option Addr) (n c : Nat) (w : World) : Calls Tryz.prog 126 #[.slice A n c] w fun e w' => e = .returned (.func (.func 142) #[] #[.pointer (some ⟨w.heap.size, 0, none⟩)]) ∧ w' = w.alloc (.cells #[.slice A n c] 27) := by
  go_enter Tryz.func126, Tryz.ntmps126
  go_wp2
  go_ret
  exact ⟨rfl, rfl⟩

/-- What a call that tells texts leaves. -/
def TextsPost (w : World) (ks : List Str) : Ending → World → Prop := fun e w' => ∃ A c, e = .returned (.slice A ks.length c) ∧ Ok w w' ∧ ∀ j, j < ks.length → ∃ g, A = some ⟨g, 0, none⟩ ∧ w'.cell? ⟨g, j, none⟩ = some (.string (at0 ks j))
theorem sorted_w (Bs : Nat) (sv : Value) (zs : List Str) (hlen : zs.length ≤ 1000000) (w : World) (hBs : Bs < w.heap.size) (hcs : w.cell? ⟨Bs, 0, none⟩ = some sv) (hI : Strs w.heap.size w sv zs) :
    Calls Tryz.prog 125 #[.func (.func 142) #[] #[.pointer (some ⟨Bs, 0, none⟩)]] w (TextsPost w (sortS zs)) := by
  refine (callsIn_wide.1 (sorted_in 5 (Nat.le_refl _) Bs sv zs hlen w hBs hcs hI)).mono ?_
  rintro e w' ⟨v, rfl, hrow, hb⟩
  rcases hrow.2 with ⟨rfl, hz⟩ | ⟨gb, cap, cur, rfl, hbase, hgb, r1, r2, r3, r4⟩
  · rw [← sortS_len] at hz
    exact ⟨none, 0, by rw [hz], hb, fun j hj => by omega⟩
  · refine ⟨some ⟨gb, 0, none⟩, cap, by rw [sortS_len], hb, fun j hj => ⟨gb, rfl, ?_⟩⟩
    have hl := sortS_len zs
    have hcell := World.ownsRow.cellAt hrow j (by omega)
    rw [hcell]
    simp [at0, hj]

end Go.Proofs.YtdabdkedgigjdaaGreat
