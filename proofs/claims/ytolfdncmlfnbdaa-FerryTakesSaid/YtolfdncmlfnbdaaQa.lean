/- Configurations of voters as plain mathematics: what is right, what agrees, what comes next; two sets that agree meet. No program is imported. -/
namespace Go.Proofs.Ytolfdncmlfnbdaa

structure Cfg where
  vs : List Int
  os : List Int
  ls : List Int
  ws : List Int

def rowF : Int → List Int → Bool
  | _, [] => true
  | last, x :: r => !(decide (x ≤ last) || decide (5 < x)) && rowF x r
def rowB (l : List Int) : Bool := rowF 0 l
def inB (x : Int) (l : List Int) : Bool := decide (x ∈ l)
def cnt (l s : List Int) : Nat := (l.filter fun x => inB x s).length
def mostB (l s : List Int) : Bool := decide (l.length < 2 * cnt l s)
def newsL (v want : List Int) : List Int := want.filter fun x => !inB x v
def sameB (a b : List Int) : Bool := decide (a = b)
def noB (a : List Int) : Bool := decide (a.length = 0)
def wantB (c : Cfg) : Bool :=
  if noB c.ws then noB c.ls else if noB c.os then !sameB c.ws c.vs && sameB c.ls (newsL c.vs c.ws) else sameB c.ws c.vs && noB c.ls
def rightB (c : Cfg) : Bool :=
  if rowB c.vs && rowB c.os && rowB c.ls && rowB c.ws then
    if noB c.vs then noB c.os && noB c.ls && noB c.ws else (noB c.os || !noB c.ws) && wantB c
  else false
def agreesB (c : Cfg) (s : List Int) : Bool :=
  if rightB c && !noB c.vs then mostB c.vs s && (noB c.os || mostB c.os s) else false
def nextC (c : Cfg) : Option Cfg :=
  if rightB c && !noB c.ws then (if noB c.os then some ⟨c.ws, c.vs, [], c.ws⟩ else some ⟨c.vs, [], [], []⟩) else none
def bothB (l a b : List Int) : Bool := l.any fun x => inB x a && inB x b
def beginE (c : Cfg) (want : List Int) : Int :=
  if !rightB c || noB c.vs || noB want || !rowB want then 2 else if !noB c.ws then 25 else if sameB want c.vs then 7 else 0
def beginC (c : Cfg) (want : List Int) : Cfg := if beginE c want = 0 then ⟨c.vs, [], newsL c.vs want, want⟩ else ⟨[], [], [], []⟩
def sameC (a b : Cfg) : Bool := sameB a.vs b.vs && sameB a.os b.os && sameB a.ls b.ls && sameB a.ws b.ws

theorem cnt_both (l a b : List Int) (h : bothB l a b = false) : cnt l a + cnt l b ≤ l.length := by
  induction l with
  | nil => simp [cnt]
  | cons x r ih =>
    simp only [bothB, List.any_cons, Bool.or_eq_false_iff] at h
    have := ih h.2
    have h1 := h.1
    unfold cnt at this ⊢
    cases ha : inB x a <;> cases hb : inB x b <;> simp [ha, hb] at h1 ⊢ <;> omega
theorem most_both (l a b : List Int) (h1 : mostB l a = true) (h2 : mostB l b = true) : bothB l a b = true := by
  cases h : bothB l a b with
  | true => rfl
  | false =>
    have := cnt_both l a b h
    simp only [mostB, decide_eq_true_eq] at h1 h2
    omega
theorem agrees_parts {c : Cfg} {s : List Int} (h : agreesB c s = true) : rightB c = true ∧ noB c.vs = false ∧ mostB c.vs s = true ∧ (noB c.os = false → mostB c.os s = true) := by
  unfold agreesB at h
  cases h1 : rightB c <;> cases h2 : noB c.vs <;> cases h3 : noB c.os <;> simp_all
theorem agrees_both {c : Cfg} {a b : List Int} (h1 : agreesB c a = true) (h2 : agreesB c b = true) : bothB c.vs a b = true ∧ (noB c.os = false → bothB c.os a b = true) :=
  ⟨most_both _ _ _ (agrees_parts h1).2.2.1 (agrees_parts h2).2.2.1, fun h => most_both _ _ _ ((agrees_parts h1).2.2.2 h) ((agrees_parts h2).2.2.2 h)⟩
theorem agrees_next {c d : Cfg} {a b : List Int} (h1 : agreesB c a = true) (hd : nextC c = some d) (h2 : agreesB d b = true) : bothB c.vs a b = true := by
  obtain ⟨hr, hv, hm, _⟩ := agrees_parts h1
  obtain ⟨_, _, hm2, hm3⟩ := agrees_parts h2
  unfold nextC at hd
  refine most_both _ _ _ hm ?_
  cases hw : noB c.ws <;> cases ho : noB c.os <;> simp [hr, hw, ho] at hd
  · subst hd; exact hm2
  · subst hd; exact hm3 hv

theorem rowF_mono (k m : Int) (l : List Int) (h : rowF k l = true) (hm : m ≤ k) : rowF m l = true := by
  cases l with
  | nil => rfl
  | cons x r =>
    simp only [rowF, Bool.and_eq_true, Bool.not_eq_true', Bool.or_eq_false_iff, decide_eq_false_iff_not] at h ⊢
    exact ⟨⟨by omega, h.1.2⟩, h.2⟩
theorem rowF_filter (p : Int → Bool) (k : Int) (l : List Int) (h : rowF k l = true) : rowF k (l.filter p) = true := by
  induction l generalizing k with
  | nil => rfl
  | cons x r ih =>
    simp only [rowF, Bool.and_eq_true, Bool.not_eq_true', Bool.or_eq_false_iff, decide_eq_false_iff_not] at h
    rw [List.filter_cons]
    split
    · simp only [rowF, Bool.and_eq_true, Bool.not_eq_true', Bool.or_eq_false_iff, decide_eq_false_iff_not]
      exact ⟨h.1, ih _ h.2⟩
    · exact rowF_mono _ _ _ (ih _ h.2) (by omega)
theorem rowF_len (k : Int) (l : List Int) (h : rowF k l = true) (hk : k ≤ 5) : (l.length : Int) ≤ 5 - k := by
  induction l generalizing k with
  | nil => simp; omega
  | cons x r ih =>
    simp only [rowF, Bool.and_eq_true, Bool.not_eq_true', Bool.or_eq_false_iff, decide_eq_false_iff_not] at h
    have := ih x h.2 (by omega)
    simp only [List.length_cons]; omega
theorem rowB_len (l : List Int) (h : rowB l = true) : l.length ≤ 5 := by have := rowF_len 0 l h (by omega); omega

theorem sameB_refl (a : List Int) : sameB a a = true := decide_eq_true rfl
theorem cnt_self (l : List Int) : cnt l l = l.length := by
  have : ∀ r : List Int, (∀ x ∈ r, x ∈ l) → (r.filter fun x => inB x l).length = r.length := by
    intro r hr
    rw [show (r.filter fun x => inB x l) = r from List.filter_eq_self.2 (fun x hx => decide_eq_true (hr x hx))]
  exact this l (fun _ h => h)
theorem noB_nil : noB [] = true := rfl
theorem noB_cons (x : Int) (l : List Int) : noB (x :: l) = false := rfl
theorem most_self (l : List Int) (h : noB l = false) : mostB l l = true := by
  have : l.length ≠ 0 := by simpa [noB] using h
  simp only [mostB, cnt_self, decide_eq_true_eq]; omega
theorem begin_parts {c : Cfg} {want : List Int} (h : beginE c want = 0) : rightB c = true ∧ noB c.vs = false ∧ noB want = false ∧ rowB want = true ∧ noB c.ws = true ∧ sameB want c.vs = false := by
  unfold beginE at h
  cases h1 : rightB c <;> cases h2 : noB c.vs <;> cases h3 : noB want <;> cases h4 : rowB want <;> cases h5 : noB c.ws <;> cases h6 : sameB want c.vs <;> simp_all
theorem right_rows {c : Cfg} (h : rightB c = true) : rowB c.vs = true ∧ rowB c.os = true ∧ rowB c.ls = true ∧ rowB c.ws = true := by
  unfold rightB at h
  cases h1 : rowB c.vs <;> cases h2 : rowB c.os <;> cases h3 : rowB c.ls <;> cases h4 : rowB c.ws <;> simp_all
theorem right_os {c : Cfg} (h : rightB c = true) (hv : noB c.vs = false) (hw : noB c.ws = true) : noB c.os = true := by
  have hr := right_rows h
  unfold rightB at h
  cases ho : noB c.os <;> simp_all
/-- What a change becomes, and that each of it is right. -/
theorem steps {c : Cfg} {want : List Int} (h : beginE c want = 0) :
    beginC c want = ⟨c.vs, [], newsL c.vs want, want⟩ ∧ rightB ⟨c.vs, [], newsL c.vs want, want⟩ = true ∧ nextC ⟨c.vs, [], newsL c.vs want, want⟩ = some ⟨want, c.vs, [], want⟩ ∧
    rightB ⟨want, c.vs, [], want⟩ = true ∧ nextC ⟨want, c.vs, [], want⟩ = some ⟨want, [], [], []⟩ ∧ rightB ⟨want, [], [], []⟩ = true ∧ nextC ⟨want, [], [], []⟩ = none ∧
    agreesB ⟨want, [], [], []⟩ want = true ∧ agreesB c c.vs = true ∧ agreesB ⟨want, [], [], []⟩ [] = false := by
  obtain ⟨hr, hv, hw, hrow, hcw, hs⟩ := begin_parts h
  obtain ⟨rv, ro, rl, rw'⟩ := right_rows hr
  have hos := right_os hr hv hcw
  have hn : rowB (newsL c.vs want) = true := rowF_filter _ _ _ hrow
  have hnil : rowB [] = true := rfl
  have e1 : rightB ⟨c.vs, [], newsL c.vs want, want⟩ = true := by simp [rightB, rv, hnil, hn, hrow, hv, noB_nil, wantB, hw, hs, sameB_refl]
  have e2 : rightB ⟨want, c.vs, [], want⟩ = true := by simp [rightB, rv, hnil, hrow, hv, noB_nil, wantB, hw, sameB_refl]
  have e3 : rightB ⟨want, [], [], []⟩ = true := by simp [rightB, hnil, hrow, noB_nil, wantB, hw]
  have hm0 : mostB want [] = false := by
    have : cnt want [] = 0 := by rw [cnt, show (want.filter fun x => inB x []) = [] from List.filter_eq_nil_iff.2 (fun x _ => by simp [inB])]; rfl
    simp [mostB, this]
  refine ⟨by simp [beginC, h], e1, by simp [nextC, e1, hw, noB_nil], e2, by simp [nextC, e2, hw, hv], e3, by simp [nextC, e3, noB_nil], ?_, ?_, ?_⟩
  · simp [agreesB, e3, hw, noB_nil, most_self _ hw]
  · simp [agreesB, hr, hv, hos, most_self _ hv]
  · simp [agreesB, e3, hw, hm0]
end Go.Proofs.Ytolfdncmlfnbdaa
