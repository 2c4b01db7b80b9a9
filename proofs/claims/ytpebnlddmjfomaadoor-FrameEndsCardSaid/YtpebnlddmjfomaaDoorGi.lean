/- The document's frames as bytes; frames turned. -/
import Derived.Test.YtpebnlddmjfomaaDoorGh
namespace Go.Proofs.YtpebnlddmjfomaaDoor
open Go.RowKit
theorem right_k0 {f : Fr} (h : f.kind < 0) : rightFB f = 2 := by unfold rightFB; rw [if_pos h]
theorem right_k1 {f : Fr} (h : 255 < f.kind) : rightFB f = 2 := by unfold rightFB; rw [if_neg (by omega), if_pos h]
theorem right_k2 {f : Fr} (h0 : ¬ f.kind < 0) (h1 : ¬ 255 < f.kind) (h2 : 262144 < f.data.length) : rightFB f = 3 := by unfold rightFB; rw [if_neg h0, if_neg h1, if_pos h2]
theorem right_k3 {f : Fr} (h0 : ¬ f.kind < 0) (h1 : ¬ 255 < f.kind) (h2 : ¬ 262144 < f.data.length) : rightFB f = 0 := by unfold rightFB; rw [if_neg h0, if_neg h1, if_neg h2]
set_option maxRecDepth 100000 in
set_option maxHeartbeats 4000000 in
theorem rput_w (A : Option Addr) (n c : Nat) (l : List Fr) (hn : l.length = n) (hn6 : n ≤ 1000000) (hlen : (putL l).length ≤ 1000000000) (w : World) (hI : FramesAt w A l) :
    Calls Tryd.prog 11 #[.slice A n c] w (PutP w l) := by
  have HI := Lib.hid hI
  have HN := Lib.hid hn
  have HL := Lib.hid hlen
  clear hI hn hlen
  go_enter Tryd.func11, Tryd.ntmps11
  go_wp2_with fail
  go_loopw [4, 5] (fun v i wr => ∃ (k : Nat) (A' : Option Addr) (n' c' : Nat), k ≤ n ∧ i = .int .i64 k ∧ v = .slice A' n' c' ∧ (∀ j, j < k → rightFB (atF l j) = 0) ∧ OwnN wr w.heap.size (.slice A' n' c') (putL (l.take k)) ∧ Ok w wr) (fun _ i _ => n - (intOf i).toNat)
  case atStart => exact ⟨0, none, 0, 0, Nat.zero_le _, rfl, rfl, fun j hj => absurd hj (Nat.not_lt_zero _), OwnN.nil _ _, Ok.refl _⟩
  case round =>
    obtain ⟨k, A', n', c', hk, rfl, rfl, hg, hown, okr⟩ := hrel
    have HOKR := Lib.hid okr
    have HOW := Lib.hid hown
    have HNL := Lib.hid hown.len
    have HG := Lib.hid hg
    clear okr hg hown
    by_cases hlt : k < n
    · have d1 : decide ((k : Int) < (n : Int)) = true := decide_eq_true (by omega)
      obtain ⟨b, off, rfl, C0, v, C1, hB⟩ := (HI.out.ok HOKR.out) k (by rw [HN.out]; exact hlt)
      obtain ⟨A2, c2, rfl, -⟩ := hB.form
      have hi0 : (0 : Int) ≤ (k : Int) := Int.natCast_nonneg _
      have hi1 : (k : Int) < (n : Int) := by omega
      have HBAD := Lib.hid (fun h => putErr_bad l k (by rw [HN.out]; exact hlt) HG.out h)
      have HB := Lib.hid hB
      clear hB
      by_cases h0 : (atF l k).kind < 0
      · have d2 : decide ((atF l k).kind < 0) = true := decide_eq_true h0
        have he := right_k0 h0
        have HPE : Hid (putErr l = 2) := Lib.hid ((HBAD.out (by rw [he]; decide)).trans he)
        clear HBAD HB C1 h0 he
        generalize (atF l k).data.length = m at *
        generalize (atF l k).kind = kd at *
        go_wp2_with fail
        go_ret2
        exact PutP.bad (by rw [HPE.out]; decide) HPE.out HOKR.out
      · have d2 : decide ((atF l k).kind < 0) = false := decide_eq_false h0
        by_cases h1 : 255 < (atF l k).kind
        · have d3 : decide (255 < (atF l k).kind) = true := decide_eq_true h1
          have he := right_k1 h1
          have HPE : Hid (putErr l = 2) := Lib.hid ((HBAD.out (by rw [he]; decide)).trans he)
          clear HBAD HB C1 h0 h1 he
          generalize (atF l k).data.length = m at *
          generalize (atF l k).kind = kd at *
          go_wp2_with fail
          go_ret2
          exact PutP.bad (by rw [HPE.out]; decide) HPE.out HOKR.out
        · have d3 : decide (255 < (atF l k).kind) = false := decide_eq_false h1
          by_cases h2 : 262144 < (atF l k).data.length
          · have he := right_k2 h0 h1 h2
            have HPE : Hid (putErr l = 3) := Lib.hid ((HBAD.out (by rw [he]; decide)).trans he)
            clear HBAD HB h0 h1 he
            generalize (atF l k).data.length = m at *
            generalize (atF l k).kind = kd at *
            have d4 : decide ((262144 : Int) < (m : Int)) = true := decide_eq_true (by omega)
            go_wp2_with fail
            go_ret2
            exact PutP.bad (by rw [HPE.out]; decide) HPE.out HOKR.out
          · have he := right_k3 h0 h1 h2
            have HGS : Hid (∀ j, j < k + 1 → rightFB (atF l j) = 0) := Lib.hid fun j hj => by
              rcases Nat.lt_succ_iff_lt_or_eq.1 hj with h3 | rfl
              · exact HG.out j h3
              · exact he
            have hpt := put_take l k (by rw [HN.out]; exact hlt)
            have hle := put_take_len l (k + 1)
            rw [hpt, List.length_append] at hle
            obtain ⟨kn, hkn, hkd⟩ : ∃ kn : Nat, kn < 256 ∧ (atF l k).kind = (kn : Int) := ⟨(atF l k).kind.toNat, by omega, by omega⟩
            have hat : atF l k = ⟨(kn : Int), (atF l k).data⟩ := by rw [← hkd]
            rw [hat] at hpt hle
            rw [hkd] at C0 d2 d3
            have HPT := Lib.hid hpt
            have HLE := Lib.hid hle
            clear HBAD HG h0 h1 he hpt hle hat hkd
            have HDL : Hid ((atF l k).data.length = (atF l k).data.length) := Lib.hid rfl
            generalize (atF l k).data = d at *
            obtain ⟨m, hm⟩ : ∃ m, d.length = m := ⟨_, rfl⟩
            have HM := Lib.hid hm
            rw [hm] at C1 h2 HB
            clear HDL hm
            have d4 : decide ((262144 : Int) < (m : Int)) = false := decide_eq_false (by omega)
            have HONE := Lib.hid (fun V (o : Ok wr V) => rone_w kn hkn A2 m c2 d HM.out (by omega) V (o.bytes HB.out))
            clear hkn h2
            go_wp2_with fail
            (with_reducible refine (HONE.out _ (Ok.refl _)).mono ?_)
            rintro _ w2 ⟨A3, n3, c3, rfl, ho3, hk3⟩
            have HO3 := Lib.hid ho3
            have HOK2 := Lib.hid (Ok.trans HOKR.out hk3)
            have HOW2 := Lib.hid (HOW.out.ok hk3)
            have HXL : Hid ((putL (l.take k)).length + (bytesF ⟨(kn : Int), d⟩).length ≤ 140737488351232) := Lib.hid (by have := HL.out; have := HLE.out; omega)
            have HBI := Lib.hid (ho3.bytes (by have := HXL.out; omega))
            clear ho3 hk3 HO3
            go_wp2_with (at_builtin; go_must (refine wpList_appG rfl (.tmp 33) (.tmp 38) rfl w.heap.size _ (putL (l.take k)) (bytesF ⟨(kn : Int), d⟩) _ rfl rfl HOW2.out HBI.out HXL.out HOK2.out.size ?_; intro A4 n4 c4 w4 ho4 hb4 hg4; have HO4 := Lib.hid ho4; have HOK4 : Hid (Ok w w4) := Lib.hid (Below.trans HOK2.out hb4); clear ho4 hb4 hg4))
            refine ⟨⟨k + 1, A4, n4, c4, hlt, by go_num, rfl, HGS.out, ?_, HOK4.out⟩, by simp [intOf]; omega⟩
            rw [HPT.out]
            exact HO4.out
    · have d1 : decide ((k : Int) < (n : Int)) = false := decide_eq_false (by omega)
      have HALL : Hid (∀ f ∈ l, RightF f) := Lib.hid (right_all fun j hj => HG.out j (by rw [HN.out] at hj; omega))
      have htk : l.take k = l := List.take_of_length_le (by rw [HN.out]; omega)
      have HOF : Hid (OwnN wr w.heap.size (.slice A' n' c') (putL l)) := Lib.hid (by have := HOW.out; rw [htk] at this; exact this)
      have HNF : Hid ((putL l).length = n') := Lib.hid (by have := HNL.out; rw [htk] at this; exact this.symm)
      clear HOW HNL htk HG
      go_wp2_with fail
      go_ret2
      exact PutP.good HALL.out HNF.out HOF.out HOKR.out
end Go.Proofs.YtpebnlddmjfomaaDoor
