/- Marks. -/
import Derived.Test.YthbbbjkgfdnkhaaDoorAt
namespace Go.Proofs.YthbbbjkgfdnkhaaDoor
open Go.RowKit
def mkTx (m i : Nat) : Str := ⟨#[35, UInt8.ofNat m, 0, 0, 47, UInt8.ofNat i, 0, 0]⟩
def markA (m i : Nat) : Ac := ⟨0, mkTx m i, ⟨#[]⟩, 0⟩
theorem mk_at (a b : Nat) (j : Nat) (hj : j < 8) (ha : a ≤ 255) (hb : b ≤ 255) : (#[Value.int .u8 35, .int .u8 (a : Int), .int .u8 0, .int .u8 0, .int .u8 47, .int .u8 (b : Int), .int .u8 0, .int .u8 0] : Array Value)[j]? = some (Value.int .u8 ((([35, UInt8.ofNat a, 0, 0, 47, UInt8.ofNat b, 0, 0] : List UInt8).getD j 0).toNat : Int)) := by
  have h1 : (UInt8.ofNat a).toNat = a := by rw [UInt8.toNat_ofNat', Nat.mod_eq_of_lt (by omega)]
  have h2 : (UInt8.ofNat b).toNat = b := by rw [UInt8.toNat_ofNat', Nat.mod_eq_of_lt (by omega)]
  match j, hj with
  | 0, _ => rfl
  | 1, _ => show some (Value.int .u8 (a : Int)) = some (Value.int .u8 ((UInt8.ofNat a).toNat : Int)); rw [h1]
  | 2, _ => rfl
  | 3, _ => rfl
  | 4, _ => rfl
  | 5, _ => show some (Value.int .u8 (b : Int)) = some (Value.int .u8 ((UInt8.ofNat b).toNat : Int)); rw [h2]
  | 6, _ => rfl
  | 7, _ => rfl
theorem mk_cv (w : World) (a b : Nat) (ha : a ≤ 255) (hb : b ≤ 255) : (convert 73 9 (.slice (some ⟨w.heap.size, 0, none⟩) 8 8)).run Tryd.prog (w.alloc (.cells #[.int .u8 35, .int .u8 (a : Int), .int .u8 0, .int .u8 0, .int .u8 47, .int .u8 (b : Int), .int .u8 0, .int .u8 0] 5)) = .ok (.string (mkTx a b)) (w.alloc (.cells #[.int .u8 35, .int .u8 (a : Int), .int .u8 0, .int .u8 0, .int .u8 47, .int .u8 (b : Int), .int .u8 0, .int .u8 0] 5)) := by
  have := run_convert_bytes_back (P := Tryd.prog) (w.alloc (.cells #[.int .u8 35, .int .u8 (a : Int), .int .u8 0, .int .u8 0, .int .u8 47, .int .u8 (b : Int), .int .u8 0, .int .u8 0] 5)) 73 9 5 ⟨w.heap.size, 0, none⟩ 8 [35, UInt8.ofNat a, 0, 0, 47, UInt8.ofNat b, 0, 0] Tryd.underlying73 Tryd.underlying5 Tryd.underlying9 (fun j hj => by
    have hj8 : j < 8 := hj
    rw [Addr.add_lit, World.cell?_alloc_at _ _ _ _ rfl, Nat.zero_add, mk_at a b j hj8 ha hb]
    simp [List.getD, hj8])
  exact this
set_option maxRecDepth 100000 in
set_option maxHeartbeats 1000000 in
theorem markText_w (m i : Nat) (hm : m ≤ 2) (hi : i ≤ 200) (w : World) : Calls Tryd.prog 46 #[.int .i64 (m : Int), .int .i64 (i : Int)] w (Ret w (.string (mkTx m i))) := by
  have e1 : (m : Int) / 256 = 0 := by omega
  have e2 : (m : Int) / 65536 = 0 := by omega
  have e3 : (i : Int) / 256 = 0 := by omega
  have e4 : (i : Int) / 65536 = 0 := by omega
  have hcv : (convert 73 9 (.slice (some ⟨w.heap.size, 0, none⟩) 8 8)).run Tryd.prog (w.alloc (.cells #[.int .u8 35, .int .u8 (m : Int), .int .u8 ((m : Int) / 256), .int .u8 ((m : Int) / 65536), .int .u8 47, .int .u8 (i : Int), .int .u8 ((i : Int) / 256), .int .u8 ((i : Int) / 65536)] 5)) = .ok (.string (mkTx m i)) (w.alloc (.cells #[.int .u8 35, .int .u8 (m : Int), .int .u8 ((m : Int) / 256), .int .u8 ((m : Int) / 65536), .int .u8 47, .int .u8 (i : Int), .int .u8 ((i : Int) / 256), .int .u8 ((i : Int) / 65536)] 5)) := by
    rw [e1, e2, e3, e4]
    exact mk_cv w m i (by omega) (by omega)
  have w1 : IntKind.u8.wrap (m : Int) = (m : Int) := by rw [IntKind.wrap_u8]; omega
  have w2 : IntKind.u8.wrap (i : Int) = (i : Int) := by rw [IntKind.wrap_u8]; omega
  clear e1 e2 e3 e4
  go_enter Tryd.func46, Tryd.ntmps46
  go_wp2_with fail
  go_ret
  exact ⟨rfl, (Ok.refl w).alloc _⟩
set_option maxHeartbeats 1000000 in
theorem markA_w (m i : Nat) (hm : m ≤ 2) (hi : i ≤ 200) (w : World) : Calls Tryd.prog 33 #[.int .i64 (m : Int), .int .i64 (i : Int)] w (Ret w (acV (markA m i))) := by
  have HT := Lib.hid (fun V => markText_w m i hm hi V)
  unfold acV markA
  simp only
  generalize mkTx m i = t at *
  have hO := Lib.hid ((Ok.refl w).alloc (.cells #[.int .u8 0, .string ⟨#[]⟩, .string ⟨#[]⟩, .int .i64 0] 52))
  go_enter Tryd.func33, Tryd.ntmps33
  go_wp2_with fail
  (with_reducible refine (HT.out _).mono ?_)
  rintro _ w1 ⟨rfl, o1⟩
  have hb : w1.heap[w.heap.size]? = some (.cells #[.int .u8 0, .string ⟨#[]⟩, .string ⟨#[]⟩, .int .i64 0] 52 (0, 0)) := (Below.block o1 w.heap.size (by simp)).trans (blk_new rfl)
  have K0 : w1.cell? ⟨w.heap.size, 0, none⟩ = some (.int .u8 0) := by rw [cell_of_heap hb]; rfl
  have K1 : w1.cell? ⟨w.heap.size, 1, none⟩ = some (.string ⟨#[]⟩) := by rw [cell_of_heap hb]; rfl
  have K2 : w1.cell? ⟨w.heap.size, 2, none⟩ = some (.string ⟨#[]⟩) := by rw [cell_of_heap hb]; rfl
  have K3 : w1.cell? ⟨w.heap.size, 3, none⟩ = some (.int .i64 0) := by rw [cell_of_heap hb]; rfl
  have F0 : w1.frozen? ⟨w.heap.size, 0, none⟩ = false := frz_raw hb 0
  have F1 : w1.frozen? ⟨w.heap.size, 1, none⟩ = false := frz_raw hb 1
  have F2 : w1.frozen? ⟨w.heap.size, 2, none⟩ = false := frz_raw hb 2
  have F3 : w1.frozen? ⟨w.heap.size, 3, none⟩ = false := frz_raw hb 3
  have HB : Hid (Below w.heap.size w w1) := Lib.hid (Below.trans (Ok.alloc (Ok.refl w) _) (Below.mono o1 (by simp)))
  clear o1 hb hO HT
  generalize hp : w.heap.size = p at *
  go_wp2_with fail
  have Z0 : ((((w1.setCell ⟨p, 0, none⟩ (.int .u8 0)).setCell ⟨p, 1, none⟩ (.string t)).setCell ⟨p, 2, none⟩ (.string ⟨#[]⟩)).setCell ⟨p, 3, none⟩ (.int .i64 0)).cell? ⟨p, 0, none⟩ = some (.int .u8 0) := by go_simp
  have Z1 : ((((w1.setCell ⟨p, 0, none⟩ (.int .u8 0)).setCell ⟨p, 1, none⟩ (.string t)).setCell ⟨p, 2, none⟩ (.string ⟨#[]⟩)).setCell ⟨p, 3, none⟩ (.int .i64 0)).cell? ⟨p, 1, none⟩ = some (.string t) := by go_simp
  have Z2 : ((((w1.setCell ⟨p, 0, none⟩ (.int .u8 0)).setCell ⟨p, 1, none⟩ (.string t)).setCell ⟨p, 2, none⟩ (.string ⟨#[]⟩)).setCell ⟨p, 3, none⟩ (.int .i64 0)).cell? ⟨p, 2, none⟩ = some (.string ⟨#[]⟩) := by go_simp
  have Z3 : ((((w1.setCell ⟨p, 0, none⟩ (.int .u8 0)).setCell ⟨p, 1, none⟩ (.string t)).setCell ⟨p, 2, none⟩ (.string ⟨#[]⟩)).setCell ⟨p, 3, none⟩ (.int .i64 0)).cell? ⟨p, 3, none⟩ = some (.int .i64 0) := by go_simp
  have HZ : Hid (Below p w ((((w1.setCell ⟨p, 0, none⟩ (.int .u8 0)).setCell ⟨p, 1, none⟩ (.string t)).setCell ⟨p, 2, none⟩ (.string ⟨#[]⟩)).setCell ⟨p, 3, none⟩ (.int .i64 0))) := Lib.hid (by subst hp; exact ((((Below.setCell HB.out (Nat.le_refl _) _).setCell (Nat.le_refl _) _).setCell (Nat.le_refl _) _).setCell (Nat.le_refl _) _))
  clear K0 K1 K2 K3 F0 F1 F2 F3 HB
  generalize ((((w1.setCell ⟨p, 0, none⟩ (.int .u8 0)).setCell ⟨p, 1, none⟩ (.string t)).setCell ⟨p, 2, none⟩ (.string ⟨#[]⟩)).setCell ⟨p, 3, none⟩ (.int .i64 0)) = Z at *
  refine bodyPost_ret (by simp [results, Tryd.results33, go_sem, Z0, Z1, Z2, Z3]; try rfl) rfl ?_
  exact ⟨rfl, by subst hp; exact HZ.out⟩
end Go.Proofs.YthbbbjkgfdnkhaaDoor
