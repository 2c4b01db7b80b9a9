/- Disks: Rename. -/
import Derived.Test.YtfchjdhjbepocaaNa
namespace Go.Proofs.Ytfchjdhjbepocaa
open Go Go.RowKit

theorem Tb.del_ne {α : Type} {l : Tb α} (ho : Once l) {k : Str} {q : Str × α} (hq : q ∈ l.del k) : q.1 ≠ k := fun e => by
  have h2 : (l.del k).at? k = some q.2 := by rw [← e]; exact Tb.mem_at (ho.del q.1) (by rw [e]; exact hq)
  rw [Tb.at_del ho, if_pos rfl] at h2
  cases h2
theorem DkAt.moveF {p : Nat} {D : Dk} {pv : Sl} {mb : Nat} {vs : Tb Sl} {W w' : World} (h : DkAt p D pv mb vs W) (a b : Str) (s : Sl) (pv' : Sl) (ps' : List Pc) (hs : (a, s) ∈ vs)
    (ho : OwnN w' s.v (D.file a)) (hm : MapV w' mb (((mvs vs).del a).put b s.v)) (hst : w'.heap[p]? = some (.cells #[pv'.v, .int .i64 D.size, .map (some mb)] 57 (0, 0))) (hps : OwnPc w' pv' ps')
    (hk : ∀ q, q ∈ vs → ∀ g, q.2.v.ownBlock = some g → w'.heap[g]? = W.heap[g]?) (hi : Dk.Inv ⟨D.size, ps', (D.fs.del a).put b (D.file a)⟩) :
    DkAt p ⟨D.size, ps', (D.fs.del a).put b (D.file a)⟩ pv' mb ((vs.del a).put b s) w' := by
  have ho1 := once_mvs h.mp.1
  refine ⟨hst, hps, by rw [mvs_put, mvs_del]; exact hm, (h.fs.del a).put (ho1.del a) b s _ ho (fun q hq _ => ?_) (fun q hq _ => hk q (Tb.mem_del hq)), hi⟩
  exact apart_of h.fs.apart ho1 hs (Tb.mem_del hq) (Tb.del_ne ho1 hq)
theorem blk_move {p : Nat} {pv pv' : Sl} {mb : Nat} {vs : Tb Sl} {a b : Str} {s : Sl} {W : World} (h1 : From W pv.v pv'.v) (hs : (a, s) ∈ vs) {g : Nat} (h : Blk p pv' mb ((vs.del a).put b s) g) : New (Blk p pv mb vs) W g := by
  rcases h with e | e | e | ⟨q, hq, e⟩
  · exact .inl (.inl e)
  · exact .inl (.inr (.inl e))
  · rcases h1 g e with r | r
    · exact .inl (.inr (.inr (.inl r)))
    · exact .inr r
  · rcases Tb.mem_put hq with rfl | hq
    · exact .inl (.inr (.inr (.inr ⟨_, hs, e⟩)))
    · exact .inl (.inr (.inr (.inr ⟨q, Tb.mem_del hq, e⟩)))
def Dk.moveR (D : Dk) (a b : Str) : Dk × Int := if (D.fs.at? a).isSome = true then (if namedB b = true then (if a = b then (D, 0) else (D.move a b, 0)) else (D, 2)) else (D, 6)
set_option maxRecDepth 100000 in
set_option maxHeartbeats 2000000 in
theorem rename_f (p : Nat) (D : Dk) (pv : Sl) (mb : Nat) (vs : Tb Sl) (a b : Str) (W : World) (h : DkAt p D pv mb vs W) (hs : Small D) :
    Calls Try.prog 30 #[.pointer (some ⟨p, 0, none⟩), .string a, .string b] W (AppP p mb (Blk p pv mb vs) (D.moveR a b) W) := by
  have hno := none_f p mb W h.c2
  have hnm := named_f b W
  have c2 := h.c2
  obtain ⟨s, hs0, hs1, hs2, hs3, hs4, hs5⟩ := h.file a
  have hg := run_get (t := 55) (k := 9) Try.underlying55 Try.underlying9 W (zero48 W) mb (mvs vs) h.mp a true
  rw [hs1, hs2] at hg
  simp only [if_true] at hg
  unfold Sl.v at hg
  have HD := Lib.hid h
  have HSM := Lib.hid hs
  have HOW := Lib.hid hs3
  have HS1 := Lib.hid hs1
  have HS2 := Lib.hid hs2
  have HSI : Hid ((D.fs.at? a).isSome = true → (a, s) ∈ vs) := Lib.hid fun e => by
    rcases h.fs.at a with ⟨_, q⟩ | ⟨s', _, q1, _, _, q2, _⟩
    · rw [q] at e; cases e
    · rw [q1] at hs0
      simp only [Option.getD_some] at hs0
      rw [← hs0]; exact q2
  obtain ⟨is, his⟩ : ∃ is, (D.fs.at? a).isSome = is := ⟨_, rfl⟩
  rw [his] at hg
  have HIS := Lib.hid his
  clear h hs hs0 hs1 hs2 hs3 hs4 hs5 his
  go_enter Try.func30, Try.ntmps30
  go_wp2_with fail
  refine hno.mono ?_
  rintro _ w1 ⟨rfl, rfl⟩
  clear hno
  cases is with
  | false =>
    have HR : Hid (D.moveR a b = (D, 6)) := Lib.hid (if_neg (by rw [HIS.out]; decide))
    clear hnm
    go_wp2_with fail
    go_ret
    unfold AppP
    rw [HR.out]
    exact ⟨rfl, pv, vs, HD.out, fun b e => .inl e, Kp.refl _ _⟩
  | true =>
  go_wp2_with fail
  refine hnm.mono ?_
  rintro _ w1 ⟨rfl, rfl⟩
  clear hnm
  obtain ⟨nb, hnb⟩ : ∃ nb, namedB b = nb := ⟨_, rfl⟩
  rw [hnb]
  have HNB := Lib.hid hnb
  clear hnb
  cases nb with
  | false =>
    have HR : Hid (D.moveR a b = (D, 2)) := Lib.hid (by unfold Dk.moveR; rw [if_pos HIS.out, if_neg (by rw [HNB.out]; decide)])
    go_wp2_with fail
    go_ret
    unfold AppP
    rw [HR.out]
    exact ⟨rfl, pv, vs, HD.out, fun b e => .inl e, Kp.refl _ _⟩
  | true =>
  have HE := Lib.hid (str_list a b)
  by_cases he : a = b
  · have HR : Hid (D.moveR a b = (D, 0)) := Lib.hid (by unfold Dk.moveR; rw [if_pos HIS.out, if_pos HNB.out, if_pos he])
    have dd : decide (a = b) = true := decide_eq_true he
    rw [dd] at HE
    clear dd he
    have HSE := HE.out
    go_wp2_with fail
    go_ret
    unfold AppP
    rw [HR.out]
    exact ⟨rfl, pv, vs, HD.out, fun b e => .inl e, Kp.refl _ _⟩
  · have HR : Hid (D.moveR a b = (D.move a b, 0)) := Lib.hid (by unfold Dk.moveR; rw [if_pos HIS.out, if_pos HNB.out, if_neg he])
    have HNE := Lib.hid he
    have dd : decide (a = b) = false := decide_eq_false he
    rw [dd] at HE
    clear dd he
    have HSE := HE.out
    have hmv := move_f p mb D.size pv D.ps a b W HD.out.st HD.out.ps HSM.out.ps
    go_wp2_with fail
    refine hmv.mono ?_
    clear hmv
    rintro _ w2 ⟨pv', rfl, h1, h2, h3, h4⟩
    have H1 := Lib.hid h1
    have H2 := Lib.hid h2
    have H3 := Lib.hid h3
    have H4 := Lib.hid h4
    clear h1 h2 h3 h4 hg c2 HSE
    have HMV : Hid (MapV w2 mb (mvs vs)) := Lib.hid (HD.out.mp.block (H4.out.block mb HD.out.mp.lt (fun q => by rcases q with q | q; exact HD.out.p_mb q.symm; exact HD.out.mb_ps q)))
    have c2 : w2.cell? ⟨p, 2, none⟩ = some (.map (some mb)) := by unfold World.cell?; simp only [H1.out]; rfl
    obtain ⟨w3, hdel, hm3, hg3, -⟩ := run_del (t := 55) (k := 9) Try.underlying55 Try.underlying9 w2 mb (mvs vs) HMV.out a #[55, 9] rfl 0
    have HM3 := Lib.hid hm3
    have HG3 := Lib.hid hg3
    clear hm3 hg3
    go_upto_region 12 with fail
    clear hdel
    have hst3 : w3.heap[p]? = some (.cells #[pv'.v, .int .i64 D.size, .map (some mb)] 57 (0, 0)) := by
      have hl := (Array.getElem?_eq_some_iff.1 H1.out).1
      rw [HG3.out.block p hl (fun e => HD.out.p_mb (by simpa using e))]
      exact H1.out
    have HST3 := Lib.hid hst3
    have c2' : w3.cell? ⟨p, 2, none⟩ = some (.map (some mb)) := by unfold World.cell?; simp only [hst3]; rfl
    clear c2 hst3
    go_wp2_with (at_mapUpdate; go_must (refine wpList_map_put rfl 55 (.tmp 42) (.tmp 43) (.tmp 44) rfl Try.underlying55 Try.underlying9 mb ((mvs vs).del a) rfl HM3.out b rfl ?_; intro w5 hm5 hg5 hs5; have HM5 : Hid (MapV w5 mb (((mvs vs).del a).put b (.slice s.A s.n s.c))) := Lib.hid hm5; have HG5 := Lib.hid hg5; clear hm5 hg5 hs5))
    go_ret
    have hG := grown_trans HG3.out HG5.out
    have hkk : ∀ g, g ≠ p → g ≠ mb → pv.v.ownBlock ≠ some g → g < W.heap.size → w5.heap[g]? = W.heap[g]? := fun g h1 h2 h3 h4 => by
      rw [hG.block g (Nat.lt_of_lt_of_le h4 H4.out.size) (fun e => h2 (by simpa using e)), H4.out.block g h4 (fun q => by rcases q with q | q; exact h1 q; exact h3 q)]
    have hst5 : w5.heap[p]? = some (.cells #[pv'.v, .int .i64 D.size, .map (some mb)] 57 (0, 0)) := by
      have hl := (Array.getElem?_eq_some_iff.1 H1.out).1
      rw [hG.block p hl (fun e => HD.out.p_mb (by simpa using e))]
      exact H1.out
    have hps5 : OwnPc w5 pv' (mvP a b (settle D.ps b)) := blk_eq H2.out fun g e => hG.block g (owns_lt H2.out e) (fun q => by
      rcases H3.out g e with r | r
      · exact HD.out.mb_ps (by rw [r]; simpa using q)
      · have := HD.out.mp.lt; have : g = mb := (by simpa using q); omega)
    have hfl : ∀ q, q ∈ vs → ∀ g, q.2.v.ownBlock = some g → w5.heap[g]? = W.heap[g]? := fun q hq g e => by
      have := HD.out.file_ne hq e
      exact hkk g this.1 this.2.1 this.2.2 (HD.out.lt (.inr (.inr (.inr ⟨q, hq, e⟩))))
    have hin := HSI.out HIS.out
    unfold AppP
    rw [HR.out]
    refine ⟨rfl, pv', (vs.del a).put b s, HD.out.moveF a b s pv' _ hin (OwnN.kept HOW.out (hfl _ hin)) HM5.out hst5 hps5 hfl (HD.out.inv.move a b HNE.out), fun g hb => blk_move H3.out hin hb, ?_⟩
    exact (H4.out.mono (S' := Blk p pv mb vs) (fun j _ e => e.elim .inl (fun q => .inr (.inr (.inl q))))).then (Kp.grown (S := Blk p pv mb vs) hG (fun j e => .inl (.inr (.inl (by simpa using e.symm))))) (fun _ _ e => e)
end Go.Proofs.Ytfchjdhjbepocaa
