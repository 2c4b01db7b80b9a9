/- The law SharesKeys, walked. -/
import Derived.Test.YtneipmgkphdfkaaSs
import Derived.Test.YtneipmgkphdfkaaSn
namespace Go.Proofs.Ytneipmgkphdfkaa
open Go.RowKit

set_option maxRecDepth 100000 in
set_option maxHeartbeats 20000000 in
theorem sharesKeys_w (ep : Int) (A : Option Addr) (n c : Nat) (xs : List Sh) (i : Sp) (k o : Str) (hn : xs.length = n) (w : World) (hI : SharesAt w A xs) :
    Calls Try.prog 10 #[.agg #[.int .i64 ep, .slice A n c], spV i, .string k, .string o] w (Ret w (.bool true)) := by
  have HI := Lib.hid hI
  have HN := Lib.hid hn
  clear hI hn
  have HOF := Lib.hid (fun k hn6 => of_w k ep A n c xs HN.out hn6)
  have HIN := Lib.hid (fun hn6 => in_w2 i ep A n c xs HN.out hn6)
  have HRI := Lib.hid (fun hn6 => sharesRight_w ep A n c xs HN.out hn6)
  have HGR := Lib.hid (fun v b hn6 hk6 w' hI' hz => groups_w ep A n c xs v [k, o] b HN.out hn6 hk6 w' hI' hz)
  have HHAS := Lib.hid (has_w i k)
  have HALL := Lib.hid (groups_all ep xs k o)
  have HTWO := Lib.hid (fun h a b => @groups_two ep xs k o h a b)
  have HNONE := Lib.hid (fun h => @groups_none ep xs [k, o] h)
  obtain ⟨ra, hra⟩ : ∃ r, firstM ep xs (fun x => hasB x.sp k) = r := ⟨_, rfl⟩
  obtain ⟨rb, hrb⟩ : ∃ r, firstM ep xs (fun x => withinB i x.sp) = r := ⟨_, rfl⟩
  obtain ⟨rc, hrc⟩ : ∃ r, firstM ep xs (fun x => hasB x.sp o) = r := ⟨_, rfl⟩
  have F1 := of_some ep xs k
  have F2 := @first_has ep xs (fun x => hasB x.sp k)
  have F3 := @first_has ep xs (fun x => withinB i x.sp)
  have F4 := @in_of ep xs i k
  have HOA := Lib.hid (HOF.out k)
  have HOC := Lib.hid (HOF.out o)
  clear HOF
  rw [hra] at HOA HALL HTWO F1 F2 F4
  rw [hrb] at HIN F3 F4
  rw [hrc] at HOC HALL HTWO
  clear hra hrb hrc
  obtain ⟨xa, ba, hva, ea, ea2⟩ : ∃ (x : Sh) (b : Bool), shareV ra = .tuple #[shV x, .bool b] ∧ ra.getD sh0 = x ∧ ra.isSome = b := ⟨_, _, rfl, rfl, rfl⟩
  obtain ⟨xb, bb, hvb, eb, eb2⟩ : ∃ (x : Sh) (b : Bool), shareV rb = .tuple #[shV x, .bool b] ∧ rb.getD sh0 = x ∧ rb.isSome = b := ⟨_, _, rfl, rfl, rfl⟩
  obtain ⟨xc, bc, hvc, ec, ec2⟩ : ∃ (x : Sh) (b : Bool), shareV rc = .tuple #[shV x, .bool b] ∧ rc.getD sh0 = x ∧ rc.isSome = b := ⟨_, _, rfl, rfl, rfl⟩
  rw [hva] at HOA
  rw [hvb] at HIN
  rw [hvc] at HOC
  rw [ea, ea2] at F2
  rw [ea2] at F1
  rw [eb, eb2] at F3
  rw [ea, eb, eb2] at F4
  rw [ea2, ec2] at HALL
  rw [ea, ec] at HTWO
  clear hva hvb hvc ea ea2 eb eb2 ec ec2
  generalize groupsM ep xs [k, o] = R at HALL HTWO HNONE HGR
  generalize sharesB ep xs = sr at F1 HRI
  generalize hasB i k = hik at HHAS F4
  have HHA := Lib.hid (has_w xa.sp k)
  have HWI := Lib.hid (within_w i xb.sp)
  have HKY := Lib.hid (key_w k)
  generalize hasB xa.sp k = hxa at F2 HHA
  generalize withinB i xb.sp = wib at F3 HWI
  generalize keyB k = kb at F1 HKY
  have HF1 := Lib.hid F1
  have HF2 := Lib.hid F2
  have HF3 := Lib.hid F3
  have HF4 := Lib.hid F4
  clear F1 F2 F3 F4
  obtain ⟨⟨al, ah⟩, ag, ae⟩ := xa
  obtain ⟨⟨bl, bh⟩, bg, be⟩ := xb
  obtain ⟨⟨cl, ch⟩, cg, ce⟩ := xc
  obtain ⟨il, ih⟩ := i
  unfold spV shV at *
  simp only at *
  go_enter Try.func10, Try.ntmps10
  go_wp2_with fail
  refine (awake2_w _).mono ?_
  rintro _ w1 ⟨rfl, o1⟩
  have B0 : w1.cell? ⟨w.heap.size, 0, none⟩ = some (.int .i64 ep) := Ok.cell o1 (by go_cell)
  have B1 : w1.cell? ⟨w.heap.size, 1, none⟩ = some (.slice A n c) := Ok.cell o1 (by go_cell)
  have I0 : w1.cell? ⟨w.heap.size + 1, 0, none⟩ = some (.string il) := Ok.cell o1 (by go_cell)
  have I1 : w1.cell? ⟨w.heap.size + 1, 1, none⟩ = some (.string ih) := Ok.cell o1 (by go_cell)
  have ok1 := Lib.hid (Ok.call (Ok.alloc (Ok.alloc (Ok.refl w) _) _) o1)
  clear o1
  have HOW := Lib.hid (four_own w1 il ih k o)
  go_wp2_with fail
  have hg := great_w ep A n c xs _ _ _ HN.out _ (HI.out.ok (Ok.alloc ok1.out (.cells #[.string il, .string ih, .string k, .string o] 9))) HOW.out.strs
  refine hg.mono ?_
  rintro _ w2 ⟨⟨r, rfl, hr1⟩, o2⟩
  have oa := Ok.call (Ok.alloc (Ok.refl w1) (.cells #[.string il, .string ih, .string k, .string o] 9)) o2
  have B0 := Ok.cell oa B0
  have B1 := Ok.cell oa B1
  have I0 := Ok.cell oa I0
  have I1 := Ok.cell oa I1
  have ok2 := Lib.hid (Ok.call ok1.out oa)
  clear oa o2 hg HOW ok1
  cases r with
  | true =>
    go_wp2
    go_ret
    exact ⟨rfl, ok2.out⟩
  | false =>
    obtain ⟨hn60, _⟩ := hr1 rfl
    clear hr1
    go_wp2_with fail
    refine (HOA.out (by omega) _ (HI.out.ok ok2.out)).mono ?_
    rintro _ w3 ⟨rfl, o3⟩
    have B0 := Ok.cell o3 B0
    have B1 := Ok.cell o3 B1
    have I0 := Ok.cell o3 I0
    have I1 := Ok.cell o3 I1
    have ok3 := Lib.hid (Ok.call ok2.out o3)
    clear o3 ok2
    obtain ⟨pa, hpa⟩ : ∃ p, w3.heap.size = p := ⟨_, rfl⟩
    have A0 : (w3.alloc (.cells #[.string al, .string ah, .int .i64 ag, .int .i64 ae] 60)).cell? ⟨pa, 0, none⟩ = some (.string al) := by subst hpa; go_cell
    have A1 : (w3.alloc (.cells #[.string al, .string ah, .int .i64 ag, .int .i64 ae] 60)).cell? ⟨pa, 1, none⟩ = some (.string ah) := by subst hpa; go_cell
    have A2 : (w3.alloc (.cells #[.string al, .string ah, .int .i64 ag, .int .i64 ae] 60)).cell? ⟨pa, 2, none⟩ = some (.int .i64 ag) := by subst hpa; go_cell
    have A3 : (w3.alloc (.cells #[.string al, .string ah, .int .i64 ag, .int .i64 ae] 60)).cell? ⟨pa, 3, none⟩ = some (.int .i64 ae) := by subst hpa; go_cell
    have oa := Ok.alloc (Ok.refl w3) (.cells #[.string al, .string ah, .int .i64 ag, .int .i64 ae] 60)
    have B0 := Ok.cell oa B0
    have B1 := Ok.cell oa B1
    have I0 := Ok.cell oa I0
    have I1 := Ok.cell oa I1
    have ok4 := Lib.hid (Ok.call ok3.out oa)
    clear oa ok3
    go_wp2_with fail
    generalize w3.alloc (.cells #[.string al, .string ah, .int .i64 ag, .int .i64 ae] 60) = w4 at *
    clear hpa
    refine (HIN.out (by omega) _ (HI.out.ok ok4.out)).mono ?_
    rintro _ w5 ⟨rfl, o5⟩
    have B0 := Ok.cell o5 B0
    have B1 := Ok.cell o5 B1
    have I0 := Ok.cell o5 I0
    have I1 := Ok.cell o5 I1
    have A0 := Ok.cell o5 A0
    have A1 := Ok.cell o5 A1
    have A2 := Ok.cell o5 A2
    have A3 := Ok.cell o5 A3
    have ok5 := Lib.hid (Ok.call ok4.out o5)
    clear o5 ok4
    obtain ⟨pb, hpb⟩ : ∃ p, w5.heap.size = p := ⟨_, rfl⟩
    have C0 : (w5.alloc (.cells #[.string bl, .string bh, .int .i64 bg, .int .i64 be] 60)).cell? ⟨pb, 0, none⟩ = some (.string bl) := by subst hpb; go_cell
    have C1 : (w5.alloc (.cells #[.string bl, .string bh, .int .i64 bg, .int .i64 be] 60)).cell? ⟨pb, 1, none⟩ = some (.string bh) := by subst hpb; go_cell
    have C2 : (w5.alloc (.cells #[.string bl, .string bh, .int .i64 bg, .int .i64 be] 60)).cell? ⟨pb, 2, none⟩ = some (.int .i64 bg) := by subst hpb; go_cell
    have C3 : (w5.alloc (.cells #[.string bl, .string bh, .int .i64 bg, .int .i64 be] 60)).cell? ⟨pb, 3, none⟩ = some (.int .i64 be) := by subst hpb; go_cell
    have oa := Ok.alloc (Ok.refl w5) (.cells #[.string bl, .string bh, .int .i64 bg, .int .i64 be] 60)
    have B0 := Ok.cell oa B0
    have B1 := Ok.cell oa B1
    have I0 := Ok.cell oa I0
    have I1 := Ok.cell oa I1
    have A0 := Ok.cell oa A0
    have A1 := Ok.cell oa A1
    have A2 := Ok.cell oa A2
    have A3 := Ok.cell oa A3
    have ok6 := Lib.hid (Ok.call ok5.out oa)
    clear oa ok5
    go_upto_region 7 with fail
    generalize w5.alloc (.cells #[.string bl, .string bh, .int .i64 bg, .int .i64 be] 60) = w6 at *
    clear hpb
    go_cut [80] from 40 to 80 (fun v wx => v = .bool false ∧ Ok w6 wx)
    case first =>
      cases ba with
      | true =>
        have hx := HF2.out rfl
        subst hx
        have hsk := HF1.out
        obtain ⟨rfl, rfl⟩ : sr = true ∧ kb = true := by cases sr <;> cases kb <;> simp at hsk ⊢
        clear hsk
        go_wp2_with fail
        refine (HHA.out _).mono ?_
        rintro _ x1 ⟨rfl, p1⟩
        have B0 := Ok.cell p1 B0
        have B1 := Ok.cell p1 B1
        have I0 := Ok.cell p1 I0
        have I1 := Ok.cell p1 I1
        have A0 := Ok.cell p1 A0
        have A1 := Ok.cell p1 A1
        have A2 := Ok.cell p1 A2
        have A3 := Ok.cell p1 A3
        have C0 := Ok.cell p1 C0
        have C1 := Ok.cell p1 C1
        have C2 := Ok.cell p1 C2
        have C3 := Ok.cell p1 C3
        go_wp2_with fail
        refine (HRI.out (by omega) _ (HI.out.ok (Ok.call ok6.out p1))).mono ?_
        rintro _ x2 ⟨rfl, p2⟩
        have B0 := Ok.cell p2 B0
        have B1 := Ok.cell p2 B1
        have I0 := Ok.cell p2 I0
        have I1 := Ok.cell p2 I1
        have A0 := Ok.cell p2 A0
        have A1 := Ok.cell p2 A1
        have A2 := Ok.cell p2 A2
        have A3 := Ok.cell p2 A3
        have C0 := Ok.cell p2 C0
        have C1 := Ok.cell p2 C1
        have C2 := Ok.cell p2 C2
        have C3 := Ok.cell p2 C3
        go_wp2_with fail
        refine (HKY.out _).mono ?_
        rintro _ x3 ⟨rfl, p3⟩
        have B0 := Ok.cell p3 B0
        have B1 := Ok.cell p3 B1
        have I0 := Ok.cell p3 I0
        have I1 := Ok.cell p3 I1
        have A0 := Ok.cell p3 A0
        have A1 := Ok.cell p3 A1
        have A2 := Ok.cell p3 A2
        have A3 := Ok.cell p3 A3
        have C0 := Ok.cell p3 C0
        have C1 := Ok.cell p3 C1
        have C2 := Ok.cell p3 C2
        have C3 := Ok.cell p3 C3
        have q3 := Ok.call (Ok.call p1 p2) p3
        cases bb with
        | false =>
          go_wp2
          go_meet
          exact ⟨rfl, q3⟩
        | true =>
          have hwi := HF3.out rfl
          subst hwi
          cases hik with
          | false =>
            go_wp2_with fail
            refine (HHAS.out _).mono ?_
            rintro _ w8 ⟨rfl, o8⟩
            have B0 := Ok.cell o8 B0
            have B1 := Ok.cell o8 B1
            have I0 := Ok.cell o8 I0
            have I1 := Ok.cell o8 I1
            have A0 := Ok.cell o8 A0
            have A1 := Ok.cell o8 A1
            have A2 := Ok.cell o8 A2
            have A3 := Ok.cell o8 A3
            have C0 := Ok.cell o8 C0
            have C1 := Ok.cell o8 C1
            have C2 := Ok.cell o8 C2
            have C3 := Ok.cell o8 C3
            go_wp2_with fail
            refine (HWI.out _).mono ?_
            rintro _ w9 ⟨rfl, o9⟩
            go_wp2
            go_meet
            exact ⟨rfl, Ok.call (Ok.call q3 o8) o9⟩
          | true =>
            have hab := HF4.out rfl rfl
            simp only [Sh.mk.injEq, Sp.mk.injEq] at hab
            obtain ⟨⟨rfl, rfl⟩, rfl, rfl⟩ := hab
            go_wp2_with fail
            refine (HHAS.out _).mono ?_
            rintro _ w8 ⟨rfl, o8⟩
            have B0 := Ok.cell o8 B0
            have B1 := Ok.cell o8 B1
            have I0 := Ok.cell o8 I0
            have I1 := Ok.cell o8 I1
            have A0 := Ok.cell o8 A0
            have A1 := Ok.cell o8 A1
            have A2 := Ok.cell o8 A2
            have A3 := Ok.cell o8 A3
            have C0 := Ok.cell o8 C0
            have C1 := Ok.cell o8 C1
            have C2 := Ok.cell o8 C2
            have C3 := Ok.cell o8 C3
            go_wp2_with fail
            refine (HWI.out _).mono ?_
            rintro _ w9 ⟨rfl, o9⟩
            go_wp2
            go_meet
            exact ⟨rfl, Ok.call (Ok.call q3 o8) o9⟩
      | false =>
        cases sr with
        | true =>
          have hsk := HF1.out
          obtain rfl : kb = false := by cases kb <;> simp at hsk ⊢
          clear hsk
          go_wp2_with fail
          refine (HRI.out (by omega) _ (HI.out.ok ok6.out)).mono ?_
          rintro _ x2 ⟨rfl, p2⟩
          have B0 := Ok.cell p2 B0
          have B1 := Ok.cell p2 B1
          have I0 := Ok.cell p2 I0
          have I1 := Ok.cell p2 I1
          have A0 := Ok.cell p2 A0
          have A1 := Ok.cell p2 A1
          have A2 := Ok.cell p2 A2
          have A3 := Ok.cell p2 A3
          have C0 := Ok.cell p2 C0
          have C1 := Ok.cell p2 C1
          have C2 := Ok.cell p2 C2
          have C3 := Ok.cell p2 C3
          go_wp2_with fail
          refine (HKY.out _).mono ?_
          rintro _ x3 ⟨rfl, p3⟩
          have B0 := Ok.cell p3 B0
          have B1 := Ok.cell p3 B1
          have I0 := Ok.cell p3 I0
          have I1 := Ok.cell p3 I1
          have A0 := Ok.cell p3 A0
          have A1 := Ok.cell p3 A1
          have A2 := Ok.cell p3 A2
          have A3 := Ok.cell p3 A3
          have C0 := Ok.cell p3 C0
          have C1 := Ok.cell p3 C1
          have C2 := Ok.cell p3 C2
          have C3 := Ok.cell p3 C3
          have q3 := Ok.call p2 p3
          cases bb with
          | false =>
            go_wp2
            go_meet
            exact ⟨rfl, q3⟩
          | true =>
            have hwi := HF3.out rfl
            subst hwi
            cases hik with
            | false =>
              go_wp2_with fail
              refine (HHAS.out _).mono ?_
              rintro _ w8 ⟨rfl, o8⟩
              have B0 := Ok.cell o8 B0
              have B1 := Ok.cell o8 B1
              have I0 := Ok.cell o8 I0
              have I1 := Ok.cell o8 I1
              have A0 := Ok.cell o8 A0
              have A1 := Ok.cell o8 A1
              have A2 := Ok.cell o8 A2
              have A3 := Ok.cell o8 A3
              have C0 := Ok.cell o8 C0
              have C1 := Ok.cell o8 C1
              have C2 := Ok.cell o8 C2
              have C3 := Ok.cell o8 C3
              go_wp2_with fail
              refine (HWI.out _).mono ?_
              rintro _ w9 ⟨rfl, o9⟩
              go_wp2
              go_meet
              exact ⟨rfl, Ok.call (Ok.call q3 o8) o9⟩
            | true =>
              have hab := HF4.out rfl rfl
              simp only [Sh.mk.injEq, Sp.mk.injEq] at hab
              obtain ⟨⟨rfl, rfl⟩, rfl, rfl⟩ := hab
              go_wp2_with fail
              refine (HHAS.out _).mono ?_
              rintro _ w8 ⟨rfl, o8⟩
              have B0 := Ok.cell o8 B0
              have B1 := Ok.cell o8 B1
              have I0 := Ok.cell o8 I0
              have I1 := Ok.cell o8 I1
              have A0 := Ok.cell o8 A0
              have A1 := Ok.cell o8 A1
              have A2 := Ok.cell o8 A2
              have A3 := Ok.cell o8 A3
              have C0 := Ok.cell o8 C0
              have C1 := Ok.cell o8 C1
              have C2 := Ok.cell o8 C2
              have C3 := Ok.cell o8 C3
              go_wp2_with fail
              refine (HWI.out _).mono ?_
              rintro _ w9 ⟨rfl, o9⟩
              go_wp2
              go_meet
              exact ⟨rfl, Ok.call (Ok.call q3 o8) o9⟩
        | false =>
          go_wp2_with fail
          refine (HRI.out (by omega) _ (HI.out.ok ok6.out)).mono ?_
          rintro _ x2 ⟨rfl, p2⟩
          have B0 := Ok.cell p2 B0
          have B1 := Ok.cell p2 B1
          have I0 := Ok.cell p2 I0
          have I1 := Ok.cell p2 I1
          have A0 := Ok.cell p2 A0
          have A1 := Ok.cell p2 A1
          have A2 := Ok.cell p2 A2
          have A3 := Ok.cell p2 A3
          have C0 := Ok.cell p2 C0
          have C1 := Ok.cell p2 C1
          have C2 := Ok.cell p2 C2
          have C3 := Ok.cell p2 C3
          cases bb with
          | false =>
            go_wp2
            go_meet
            exact ⟨rfl, p2⟩
          | true =>
            have hwi := HF3.out rfl
            subst hwi
            cases hik with
            | false =>
              go_wp2_with fail
              refine (HHAS.out _).mono ?_
              rintro _ w8 ⟨rfl, o8⟩
              have B0 := Ok.cell o8 B0
              have B1 := Ok.cell o8 B1
              have I0 := Ok.cell o8 I0
              have I1 := Ok.cell o8 I1
              have A0 := Ok.cell o8 A0
              have A1 := Ok.cell o8 A1
              have A2 := Ok.cell o8 A2
              have A3 := Ok.cell o8 A3
              have C0 := Ok.cell o8 C0
              have C1 := Ok.cell o8 C1
              have C2 := Ok.cell o8 C2
              have C3 := Ok.cell o8 C3
              go_wp2_with fail
              refine (HWI.out _).mono ?_
              rintro _ w9 ⟨rfl, o9⟩
              go_wp2
              go_meet
              exact ⟨rfl, Ok.call (Ok.call p2 o8) o9⟩
            | true =>
              have hab := HF4.out rfl rfl
              simp only [Sh.mk.injEq, Sp.mk.injEq] at hab
              obtain ⟨⟨rfl, rfl⟩, rfl, rfl⟩ := hab
              go_wp2_with fail
              refine (HHAS.out _).mono ?_
              rintro _ w8 ⟨rfl, o8⟩
              have B0 := Ok.cell o8 B0
              have B1 := Ok.cell o8 B1
              have I0 := Ok.cell o8 I0
              have I1 := Ok.cell o8 I1
              have A0 := Ok.cell o8 A0
              have A1 := Ok.cell o8 A1
              have A2 := Ok.cell o8 A2
              have A3 := Ok.cell o8 A3
              have C0 := Ok.cell o8 C0
              have C1 := Ok.cell o8 C1
              have C2 := Ok.cell o8 C2
              have C3 := Ok.cell o8 C3
              go_wp2_with fail
              refine (HWI.out _).mono ?_
              rintro _ w9 ⟨rfl, o9⟩
              go_wp2
              go_meet
              exact ⟨rfl, Ok.call (Ok.call p2 o8) o9⟩
    case rest =>
      obtain ⟨rfl, o7⟩ := hcut
      have B0 := Ok.cell o7 B0
      have B1 := Ok.cell o7 B1
      have A0 := Ok.cell o7 A0
      have A1 := Ok.cell o7 A1
      have A2 := Ok.cell o7 A2
      have A3 := Ok.cell o7 A3
      have ok7 := Lib.hid (Ok.call ok6.out o7)
      clear o7 ok6 I0 I1 C0 C1 C2 C3 HWI HKY HHA HHAS HRI HIN HOA HF1 HF2 HF3 HF4
      go_wp2_with fail
      refine (HOC.out (by omega) _ (HI.out.ok ok7.out)).mono ?_
      rintro _ x1 ⟨rfl, p1⟩
      have B0 := Ok.cell p1 B0
      have B1 := Ok.cell p1 B1
      have A0 := Ok.cell p1 A0
      have A1 := Ok.cell p1 A1
      have A2 := Ok.cell p1 A2
      have A3 := Ok.cell p1 A3
      have ok8 := Lib.hid (Ok.call ok7.out p1)
      clear p1 ok7
      obtain ⟨pc, hpc⟩ : ∃ p, x1.heap.size = p := ⟨_, rfl⟩
      have C0 : (x1.alloc (.cells #[.string cl, .string ch, .int .i64 cg, .int .i64 ce] 60)).cell? ⟨pc, 0, none⟩ = some (.string cl) := by subst hpc; go_cell
      have C1 : (x1.alloc (.cells #[.string cl, .string ch, .int .i64 cg, .int .i64 ce] 60)).cell? ⟨pc, 1, none⟩ = some (.string ch) := by subst hpc; go_cell
      have C2 : (x1.alloc (.cells #[.string cl, .string ch, .int .i64 cg, .int .i64 ce] 60)).cell? ⟨pc, 2, none⟩ = some (.int .i64 cg) := by subst hpc; go_cell
      have C3 : (x1.alloc (.cells #[.string cl, .string ch, .int .i64 cg, .int .i64 ce] 60)).cell? ⟨pc, 3, none⟩ = some (.int .i64 ce) := by subst hpc; go_cell
      have oa := Ok.alloc (Ok.refl x1) (.cells #[.string cl, .string ch, .int .i64 cg, .int .i64 ce] 60)
      have B0 := Ok.cell oa B0
      have B1 := Ok.cell oa B1
      have A0 := Ok.cell oa A0
      have A1 := Ok.cell oa A1
      have A2 := Ok.cell oa A2
      have A3 := Ok.cell oa A3
      have ok9 := Lib.hid (Ok.call ok8.out oa)
      clear oa ok8
      go_upto_region 10 with fail
      generalize x1.alloc (.cells #[.string cl, .string ch, .int .i64 cg, .int .i64 ce] 60) = x2 at *
      clear hpc
      have HOW := Lib.hid (two_own x2 k o)
      go_wp2_with fail
      have hg := HGR.out _ _ (by omega) (by simp) _ (HI.out.ok (Ok.alloc ok9.out (.cells #[.string k, .string o] 9))) HOW.out.strs
      refine hg.mono ?_
      rintro _ x3 ⟨A3', c3, rfl, hown, p3⟩
      have p4 := Ok.call (Ok.alloc (Ok.refl x2) (.cells #[.string k, .string o] 9)) p3
      have A0 := Ok.cell p4 A0
      have A1 := Ok.cell p4 A1
      have A2 := Ok.cell p4 A2
      have A3 := Ok.cell p4 A3
      have C0 := Ok.cell p4 C0
      have C1 := Ok.cell p4 C1
      have C2 := Ok.cell p4 C2
      have C3 := Ok.cell p4 C3
      have ok10 := Lib.hid (Ok.call ok9.out p4)
      have HOWN := Lib.hid hown.cell
      clear p3 p4 ok9 hown hg HOW HGR HOC HI
      have hall := HALL.out
      cases hR : R.2 with
      | false =>
        rw [hR] at hall
        obtain rfl := HNONE.out hR
        clear hR HALL HNONE HTWO
        simp only [List.length_nil]
        cases ba with
        | true =>
          obtain rfl : bc = false := by simpa using hall.symm
          clear hall
          go_wp2
          go_ret
          exact ⟨rfl, ok10.out⟩
        | false =>
          clear hall
          go_wp2
          go_ret
          exact ⟨rfl, ok10.out⟩
      | true =>
        rw [hR] at hall
        have ht := HTWO.out hR ag cg rfl rfl
        subst ht
        clear hR HALL HNONE HTWO
        obtain ⟨rfl, rfl⟩ : ba = true ∧ bc = true := by simpa using hall.symm
        clear hall
        simp only at HOWN ⊢
        by_cases h1 : ag = cg
        · subst h1
          simp only [if_true] at HOWN ⊢
          obtain ⟨lb, rfl, L0⟩ := HOWN.out 0 (by simp)
          simp only [List.getElem?_cons_zero, Option.getD_some] at L0
          simp only [List.length_cons, List.length_nil]
          have z0 : IntKind.i64.wrap 0 = 0 := by decide
          have kA2 := cell_regrown A2
          have kC2 := cell_regrown C2
          have kL0 := cell_regrown L0
          go_wp2_with fail
          refine wp_region_quiet_below (by kernel_rfl) (by kernel_rfl) ?_
          refine HeldU.out ?_
          repeat (
            refine hqU_step (fun K hK => ?_)
            go_simp
            (refine hK _ ?_; clear hK K))
          refine HeldU.mk (wpQuiet_nil ?_)
          intro _ hw'
          obtain ⟨⟨dq, osq⟩, hw''⟩ := hw'
          subst hw''
          go_wp2
          go_ret
          exact ⟨rfl, Ok.call ok10.out (below_regrown x3 dq osq)⟩
        · rw [if_neg h1] at HOWN ⊢
          by_cases h2 : ag < cg
          · rw [if_pos h2] at HOWN ⊢
            obtain ⟨lb, rfl, L0⟩ := HOWN.out 0 (by simp)
            obtain ⟨lb', e, L1⟩ := HOWN.out 1 (by simp)
            obtain rfl : lb = lb' := by simpa using e
            simp only [List.getElem?_cons_zero, List.getElem?_cons_succ, Option.getD_some] at L0 L1
            clear e
            simp only [List.length_cons, List.length_nil]
            have z1 : IntKind.i64.wrap 1 = 1 := by decide
            have kA2 := cell_regrown A2
            have kC2 := cell_regrown C2
            have kL0 := cell_regrown L0
            have kL1 := cell_regrown L1
            have d1 : (ag == cg) = false := beq_eq_false_iff_ne.2 h1
            have d2 : decide (ag = cg) = false := decide_eq_false h1
            have m1 : min ag cg = ag := by omega
            have m2 : max ag cg = cg := by omega
            go_wp2_with fail
            refine wp_region_quiet_below (by kernel_rfl) (by kernel_rfl) ?_
            refine HeldU.out ?_
            repeat (
              refine hqU_step (fun K hK => ?_)
              go_simp
              (refine hK _ ?_; clear hK K))
            refine HeldU.mk (wpQuiet_nil ?_)
            intro _ hw'
            obtain ⟨⟨dq, osq⟩, hw''⟩ := hw'
            subst hw''
            go_wp2
            go_ret
            exact ⟨rfl, Ok.call ok10.out (below_regrown x3 dq osq)⟩
          · rw [if_neg h2] at HOWN ⊢
            obtain ⟨lb, rfl, L0⟩ := HOWN.out 0 (by simp)
            obtain ⟨lb', e, L1⟩ := HOWN.out 1 (by simp)
            obtain rfl : lb = lb' := by simpa using e
            simp only [List.getElem?_cons_zero, List.getElem?_cons_succ, Option.getD_some] at L0 L1
            clear e
            simp only [List.length_cons, List.length_nil]
            have z1 : IntKind.i64.wrap 1 = 1 := by decide
            have kA2 := cell_regrown A2
            have kC2 := cell_regrown C2
            have kL0 := cell_regrown L0
            have kL1 := cell_regrown L1
            have d1 : (ag == cg) = false := beq_eq_false_iff_ne.2 h1
            have d2 : decide (ag = cg) = false := decide_eq_false h1
            have m1 : min ag cg = cg := by omega
            have m2 : max ag cg = ag := by omega
            go_wp2_with fail
            refine wp_region_quiet_below (by kernel_rfl) (by kernel_rfl) ?_
            refine HeldU.out ?_
            repeat (
              refine hqU_step (fun K hK => ?_)
              go_simp
              (refine hK _ ?_; clear hK K))
            refine HeldU.mk (wpQuiet_nil ?_)
            intro _ hw'
            obtain ⟨⟨dq, osq⟩, hw''⟩ := hw'
            subst hw''
            go_wp2
            go_ret
            exact ⟨rfl, Ok.call ok10.out (below_regrown x3 dq osq)⟩
end Go.Proofs.Ytneipmgkphdfkaa
