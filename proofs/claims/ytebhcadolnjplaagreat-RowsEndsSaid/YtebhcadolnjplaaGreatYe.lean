/- Lists of nothing lie apart: of each kind. -/
import Derived.Test.YtebhcadolnjplaaGreatVf
namespace Go.Proofs.YtebhcadolnjplaaGreat
open Go.RowKit

set_option maxRecDepth 100000 in
set_option maxHeartbeats 1000000 in
theorem flatLimbs_nil (w : World) : Calls Tryz.prog 57 #[.slice none 0 0] w (Ret w (.bool true)) := by
  have hmk : ∀ w : World, (Instr.makeSlice 65 (.int .i64 0) (.int .i64 0)).run Tryz.prog w = .ok (.slice (some ⟨w.heap.size, 0, none⟩) 0 0) (w.alloc (.cells #[] 165)) := fun _ => by kernel_rfl
  go_enter Tryz.func57, Tryz.ntmps57
  go_wp2_with fail
  go_loopw [3] (fun i wr => i = .int .i64 0 ∧ Ok w wr) (fun _ _ => 0)
  case atStart => exact ⟨rfl, Ok.refl _⟩
  case round =>
    obtain ⟨rfl, hok⟩ := hrel
    have HK := Lib.hid hok
    clear hok
    go_wp2_with fail
    go_loopw [6] (fun i wr => i = .int .i64 0 ∧ Ok w wr) (fun _ _ => 0)
    case atStart => exact ⟨rfl, Ok.alloc HK.out _⟩
    case round =>
      obtain ⟨rfl, hok⟩ := hrel
      have HK := Lib.hid hok
      clear hok
      go_wp2_with fail
      go_loopw [9] (fun i wr => i = .int .i64 0 ∧ Ok w wr) (fun _ _ => 0)
      case atStart => exact ⟨rfl, HK.out⟩
      case round =>
        obtain ⟨rfl, hok⟩ := hrel
        have HK := Lib.hid hok
        clear hok
        go_wp2_with fail
        go_loopw [11] (fun i wr => i = .int .i64 0 ∧ Ok w wr) (fun _ _ => 0)
        case atStart => exact ⟨rfl, HK.out⟩
        case round =>
          obtain ⟨rfl, hok⟩ := hrel
          have HK := Lib.hid hok
          clear hok
          go_wp2_with fail
          go_loopw [14] (fun i wr => i = .int .i64 0 ∧ Ok w wr) (fun _ _ => 0)
          case atStart => exact ⟨rfl, HK.out⟩
          case round =>
            obtain ⟨rfl, hok⟩ := hrel
            have HK := Lib.hid hok
            clear hok
            go_wp2_with fail
            go_ret
            exact ⟨rfl, HK.out⟩
set_option maxRecDepth 100000 in
set_option maxHeartbeats 1000000 in
theorem flatWords_nil (w : World) : Calls Tryz.prog 58 #[.slice none 0 0] w (Ret w (.bool true)) := by
  have hmk : ∀ w : World, (Instr.makeSlice 66 (.int .i64 0) (.int .i64 0)).run Tryz.prog w = .ok (.slice (some ⟨w.heap.size, 0, none⟩) 0 0) (w.alloc (.cells #[] 167)) := fun _ => by kernel_rfl
  go_enter Tryz.func58, Tryz.ntmps58
  go_wp2_with fail
  go_loopw [3] (fun i wr => i = .int .i64 0 ∧ Ok w wr) (fun _ _ => 0)
  case atStart => exact ⟨rfl, Ok.refl _⟩
  case round =>
    obtain ⟨rfl, hok⟩ := hrel
    have HK := Lib.hid hok
    clear hok
    go_wp2_with fail
    go_loopw [6] (fun i wr => i = .int .i64 0 ∧ Ok w wr) (fun _ _ => 0)
    case atStart => exact ⟨rfl, Ok.alloc HK.out _⟩
    case round =>
      obtain ⟨rfl, hok⟩ := hrel
      have HK := Lib.hid hok
      clear hok
      go_wp2_with fail
      go_loopw [9] (fun i wr => i = .int .i64 0 ∧ Ok w wr) (fun _ _ => 0)
      case atStart => exact ⟨rfl, HK.out⟩
      case round =>
        obtain ⟨rfl, hok⟩ := hrel
        have HK := Lib.hid hok
        clear hok
        go_wp2_with fail
        go_loopw [11] (fun i wr => i = .int .i64 0 ∧ Ok w wr) (fun _ _ => 0)
        case atStart => exact ⟨rfl, HK.out⟩
        case round =>
          obtain ⟨rfl, hok⟩ := hrel
          have HK := Lib.hid hok
          clear hok
          go_wp2_with fail
          go_loopw [14] (fun i wr => i = .int .i64 0 ∧ Ok w wr) (fun _ _ => 0)
          case atStart => exact ⟨rfl, HK.out⟩
          case round =>
            obtain ⟨rfl, hok⟩ := hrel
            have HK := Lib.hid hok
            clear hok
            go_wp2_with fail
            go_ret
            exact ⟨rfl, HK.out⟩
set_option maxRecDepth 100000 in
set_option maxHeartbeats 1000000 in
theorem flatInts_nil (w : World) : Calls Tryz.prog 59 #[.slice none 0 0] w (Ret w (.bool true)) := by
  have hmk : ∀ w : World, (Instr.makeSlice 67 (.int .i64 0) (.int .i64 0)).run Tryz.prog w = .ok (.slice (some ⟨w.heap.size, 0, none⟩) 0 0) (w.alloc (.cells #[] 111)) := fun _ => by kernel_rfl
  go_enter Tryz.func59, Tryz.ntmps59
  go_wp2_with fail
  go_loopw [3] (fun i wr => i = .int .i64 0 ∧ Ok w wr) (fun _ _ => 0)
  case atStart => exact ⟨rfl, Ok.refl _⟩
  case round =>
    obtain ⟨rfl, hok⟩ := hrel
    have HK := Lib.hid hok
    clear hok
    go_wp2_with fail
    go_loopw [6] (fun i wr => i = .int .i64 0 ∧ Ok w wr) (fun _ _ => 0)
    case atStart => exact ⟨rfl, Ok.alloc HK.out _⟩
    case round =>
      obtain ⟨rfl, hok⟩ := hrel
      have HK := Lib.hid hok
      clear hok
      go_wp2_with fail
      go_loopw [9] (fun i wr => i = .int .i64 0 ∧ Ok w wr) (fun _ _ => 0)
      case atStart => exact ⟨rfl, HK.out⟩
      case round =>
        obtain ⟨rfl, hok⟩ := hrel
        have HK := Lib.hid hok
        clear hok
        go_wp2_with fail
        go_loopw [11] (fun i wr => i = .int .i64 0 ∧ Ok w wr) (fun _ _ => 0)
        case atStart => exact ⟨rfl, HK.out⟩
        case round =>
          obtain ⟨rfl, hok⟩ := hrel
          have HK := Lib.hid hok
          clear hok
          go_wp2_with fail
          go_loopw [14] (fun i wr => i = .int .i64 0 ∧ Ok w wr) (fun _ _ => 0)
          case atStart => exact ⟨rfl, HK.out⟩
          case round =>
            obtain ⟨rfl, hok⟩ := hrel
            have HK := Lib.hid hok
            clear hok
            go_wp2_with fail
            go_ret
            exact ⟨rfl, HK.out⟩
set_option maxRecDepth 100000 in
set_option maxHeartbeats 1000000 in
theorem flatLongs_nil (w : World) : Calls Tryz.prog 60 #[.slice none 0 0] w (Ret w (.bool true)) := by
  have hmk : ∀ w : World, (Instr.makeSlice 68 (.int .i64 0) (.int .i64 0)).run Tryz.prog w = .ok (.slice (some ⟨w.heap.size, 0, none⟩) 0 0) (w.alloc (.cells #[] 169)) := fun _ => by kernel_rfl
  go_enter Tryz.func60, Tryz.ntmps60
  go_wp2_with fail
  go_loopw [3] (fun i wr => i = .int .i64 0 ∧ Ok w wr) (fun _ _ => 0)
  case atStart => exact ⟨rfl, Ok.refl _⟩
  case round =>
    obtain ⟨rfl, hok⟩ := hrel
    have HK := Lib.hid hok
    clear hok
    go_wp2_with fail
    go_loopw [6] (fun i wr => i = .int .i64 0 ∧ Ok w wr) (fun _ _ => 0)
    case atStart => exact ⟨rfl, Ok.alloc HK.out _⟩
    case round =>
      obtain ⟨rfl, hok⟩ := hrel
      have HK := Lib.hid hok
      clear hok
      go_wp2_with fail
      go_loopw [9] (fun i wr => i = .int .i64 0 ∧ Ok w wr) (fun _ _ => 0)
      case atStart => exact ⟨rfl, HK.out⟩
      case round =>
        obtain ⟨rfl, hok⟩ := hrel
        have HK := Lib.hid hok
        clear hok
        go_wp2_with fail
        go_loopw [11] (fun i wr => i = .int .i64 0 ∧ Ok w wr) (fun _ _ => 0)
        case atStart => exact ⟨rfl, HK.out⟩
        case round =>
          obtain ⟨rfl, hok⟩ := hrel
          have HK := Lib.hid hok
          clear hok
          go_wp2_with fail
          go_loopw [14] (fun i wr => i = .int .i64 0 ∧ Ok w wr) (fun _ _ => 0)
          case atStart => exact ⟨rfl, HK.out⟩
          case round =>
            obtain ⟨rfl, hok⟩ := hrel
            have HK := Lib.hid hok
            clear hok
            go_wp2_with fail
            go_ret
            exact ⟨rfl, HK.out⟩
set_option maxRecDepth 100000 in
set_option maxHeartbeats 1000000 in
theorem flatTexts_nil (w : World) : Calls Tryz.prog 61 #[.slice none 0 0] w (Ret w (.bool true)) := by
  have hmk : ∀ w : World, (Instr.makeSlice 69 (.int .i64 0) (.int .i64 0)).run Tryz.prog w = .ok (.slice (some ⟨w.heap.size, 0, none⟩) 0 0) (w.alloc (.cells #[] 23)) := fun _ => by kernel_rfl
  go_enter Tryz.func61, Tryz.ntmps61
  go_wp2_with fail
  go_loopw [3] (fun i wr => i = .int .i64 0 ∧ Ok w wr) (fun _ _ => 0)
  case atStart => exact ⟨rfl, Ok.refl _⟩
  case round =>
    obtain ⟨rfl, hok⟩ := hrel
    have HK := Lib.hid hok
    clear hok
    go_wp2_with fail
    go_loopw [6] (fun i wr => i = .int .i64 0 ∧ Ok w wr) (fun _ _ => 0)
    case atStart => exact ⟨rfl, Ok.alloc HK.out _⟩
    case round =>
      obtain ⟨rfl, hok⟩ := hrel
      have HK := Lib.hid hok
      clear hok
      go_wp2_with fail
      go_loopw [9] (fun i wr => i = .int .i64 0 ∧ Ok w wr) (fun _ _ => 0)
      case atStart => exact ⟨rfl, HK.out⟩
      case round =>
        obtain ⟨rfl, hok⟩ := hrel
        have HK := Lib.hid hok
        clear hok
        go_wp2_with fail
        go_loopw [11] (fun i wr => i = .int .i64 0 ∧ Ok w wr) (fun _ _ => 0)
        case atStart => exact ⟨rfl, HK.out⟩
        case round =>
          obtain ⟨rfl, hok⟩ := hrel
          have HK := Lib.hid hok
          clear hok
          go_wp2_with fail
          go_loopw [14] (fun i wr => i = .int .i64 0 ∧ Ok w wr) (fun _ _ => 0)
          case atStart => exact ⟨rfl, HK.out⟩
          case round =>
            obtain ⟨rfl, hok⟩ := hrel
            have HK := Lib.hid hok
            clear hok
            go_wp2_with fail
            go_ret
            exact ⟨rfl, HK.out⟩
set_option maxRecDepth 100000 in
set_option maxHeartbeats 1000000 in
theorem flatTruths_nil (w : World) : Calls Tryz.prog 63 #[.slice none 0 0] w (Ret w (.bool true)) := by
  have hmk : ∀ w : World, (Instr.makeSlice 71 (.int .i64 0) (.int .i64 0)).run Tryz.prog w = .ok (.slice (some ⟨w.heap.size, 0, none⟩) 0 0) (w.alloc (.cells #[] 157)) := fun _ => by kernel_rfl
  go_enter Tryz.func63, Tryz.ntmps63
  go_wp2_with fail
  go_loopw [3] (fun i wr => i = .int .i64 0 ∧ Ok w wr) (fun _ _ => 0)
  case atStart => exact ⟨rfl, Ok.refl _⟩
  case round =>
    obtain ⟨rfl, hok⟩ := hrel
    have HK := Lib.hid hok
    clear hok
    go_wp2_with fail
    go_loopw [6] (fun i wr => i = .int .i64 0 ∧ Ok w wr) (fun _ _ => 0)
    case atStart => exact ⟨rfl, Ok.alloc HK.out _⟩
    case round =>
      obtain ⟨rfl, hok⟩ := hrel
      have HK := Lib.hid hok
      clear hok
      go_wp2_with fail
      go_loopw [9] (fun i wr => i = .int .i64 0 ∧ Ok w wr) (fun _ _ => 0)
      case atStart => exact ⟨rfl, HK.out⟩
      case round =>
        obtain ⟨rfl, hok⟩ := hrel
        have HK := Lib.hid hok
        clear hok
        go_wp2_with fail
        go_loopw [11] (fun i wr => i = .int .i64 0 ∧ Ok w wr) (fun _ _ => 0)
        case atStart => exact ⟨rfl, HK.out⟩
        case round =>
          obtain ⟨rfl, hok⟩ := hrel
          have HK := Lib.hid hok
          clear hok
          go_wp2_with fail
          go_loopw [14] (fun i wr => i = .int .i64 0 ∧ Ok w wr) (fun _ _ => 0)
          case atStart => exact ⟨rfl, HK.out⟩
          case round =>
            obtain ⟨rfl, hok⟩ := hrel
            have HK := Lib.hid hok
            clear hok
            go_wp2_with fail
            go_ret
            exact ⟨rfl, HK.out⟩
set_option maxRecDepth 100000 in
set_option maxHeartbeats 1000000 in
theorem flatSpans_nil (w : World) : Calls Tryz.prog 64 #[.slice none 0 0] w (Ret w (.bool true)) := by
  have hmk : ∀ w : World, (Instr.makeSlice 72 (.int .i64 0) (.int .i64 0)).run Tryz.prog w = .ok (.slice (some ⟨w.heap.size, 0, none⟩) 0 0) (w.alloc (.cells #[] 46)) := fun _ => by kernel_rfl
  go_enter Tryz.func64, Tryz.ntmps64
  go_wp2_with fail
  go_loopw [3] (fun i wr => i = .int .i64 0 ∧ Ok w wr) (fun _ _ => 0)
  case atStart => exact ⟨rfl, Ok.refl _⟩
  case round =>
    obtain ⟨rfl, hok⟩ := hrel
    have HK := Lib.hid hok
    clear hok
    go_wp2_with fail
    go_loopw [6] (fun i wr => i = .int .i64 0 ∧ Ok w wr) (fun _ _ => 0)
    case atStart => exact ⟨rfl, Ok.alloc HK.out _⟩
    case round =>
      obtain ⟨rfl, hok⟩ := hrel
      have HK := Lib.hid hok
      clear hok
      go_wp2_with fail
      go_loopw [9] (fun i wr => i = .int .i64 0 ∧ Ok w wr) (fun _ _ => 0)
      case atStart => exact ⟨rfl, HK.out⟩
      case round =>
        obtain ⟨rfl, hok⟩ := hrel
        have HK := Lib.hid hok
        clear hok
        go_wp2_with fail
        go_loopw [11] (fun i wr => i = .int .i64 0 ∧ Ok w wr) (fun _ _ => 0)
        case atStart => exact ⟨rfl, HK.out⟩
        case round =>
          obtain ⟨rfl, hok⟩ := hrel
          have HK := Lib.hid hok
          clear hok
          go_wp2_with fail
          go_loopw [14] (fun i wr => i = .int .i64 0 ∧ Ok w wr) (fun _ _ => 0)
          case atStart => exact ⟨rfl, HK.out⟩
          case round =>
            obtain ⟨rfl, hok⟩ := hrel
            have HK := Lib.hid hok
            clear hok
            go_wp2_with fail
            go_ret
            exact ⟨rfl, HK.out⟩
set_option maxRecDepth 100000 in
set_option maxHeartbeats 1000000 in
theorem flatShareRows_nil (w : World) : Calls Tryz.prog 65 #[.slice none 0 0] w (Ret w (.bool true)) := by
  have hmk : ∀ w : World, (Instr.makeSlice 73 (.int .i64 0) (.int .i64 0)).run Tryz.prog w = .ok (.slice (some ⟨w.heap.size, 0, none⟩) 0 0) (w.alloc (.cells #[] 172)) := fun _ => by kernel_rfl
  go_enter Tryz.func65, Tryz.ntmps65
  go_wp2_with fail
  go_loopw [3] (fun i wr => i = .int .i64 0 ∧ Ok w wr) (fun _ _ => 0)
  case atStart => exact ⟨rfl, Ok.refl _⟩
  case round =>
    obtain ⟨rfl, hok⟩ := hrel
    have HK := Lib.hid hok
    clear hok
    go_wp2_with fail
    go_loopw [6] (fun i wr => i = .int .i64 0 ∧ Ok w wr) (fun _ _ => 0)
    case atStart => exact ⟨rfl, Ok.alloc HK.out _⟩
    case round =>
      obtain ⟨rfl, hok⟩ := hrel
      have HK := Lib.hid hok
      clear hok
      go_wp2_with fail
      go_loopw [9] (fun i wr => i = .int .i64 0 ∧ Ok w wr) (fun _ _ => 0)
      case atStart => exact ⟨rfl, HK.out⟩
      case round =>
        obtain ⟨rfl, hok⟩ := hrel
        have HK := Lib.hid hok
        clear hok
        go_wp2_with fail
        go_loopw [11] (fun i wr => i = .int .i64 0 ∧ Ok w wr) (fun _ _ => 0)
        case atStart => exact ⟨rfl, HK.out⟩
        case round =>
          obtain ⟨rfl, hok⟩ := hrel
          have HK := Lib.hid hok
          clear hok
          go_wp2_with fail
          go_loopw [14] (fun i wr => i = .int .i64 0 ∧ Ok w wr) (fun _ _ => 0)
          case atStart => exact ⟨rfl, HK.out⟩
          case round =>
            obtain ⟨rfl, hok⟩ := hrel
            have HK := Lib.hid hok
            clear hok
            go_wp2_with fail
            go_ret
            exact ⟨rfl, HK.out⟩
set_option maxRecDepth 100000 in
set_option maxHeartbeats 1000000 in
theorem flatSharesRows_nil (w : World) : Calls Tryz.prog 66 #[.slice none 0 0] w (Ret w (.bool true)) := by
  have hmk : ∀ w : World, (Instr.makeSlice 74 (.int .i64 0) (.int .i64 0)).run Tryz.prog w = .ok (.slice (some ⟨w.heap.size, 0, none⟩) 0 0) (w.alloc (.cells #[] 176)) := fun _ => by kernel_rfl
  go_enter Tryz.func66, Tryz.ntmps66
  go_wp2_with fail
  go_loopw [3] (fun i wr => i = .int .i64 0 ∧ Ok w wr) (fun _ _ => 0)
  case atStart => exact ⟨rfl, Ok.refl _⟩
  case round =>
    obtain ⟨rfl, hok⟩ := hrel
    have HK := Lib.hid hok
    clear hok
    go_wp2_with fail
    go_loopw [6] (fun i wr => i = .int .i64 0 ∧ Ok w wr) (fun _ _ => 0)
    case atStart => exact ⟨rfl, Ok.alloc HK.out _⟩
    case round =>
      obtain ⟨rfl, hok⟩ := hrel
      have HK := Lib.hid hok
      clear hok
      go_wp2_with fail
      go_loopw [9] (fun i wr => i = .int .i64 0 ∧ Ok w wr) (fun _ _ => 0)
      case atStart => exact ⟨rfl, HK.out⟩
      case round =>
        obtain ⟨rfl, hok⟩ := hrel
        have HK := Lib.hid hok
        clear hok
        go_wp2_with fail
        go_loopw [11] (fun i wr => i = .int .i64 0 ∧ Ok w wr) (fun _ _ => 0)
        case atStart => exact ⟨rfl, HK.out⟩
        case round =>
          obtain ⟨rfl, hok⟩ := hrel
          have HK := Lib.hid hok
          clear hok
          go_wp2_with fail
          go_loopw [14] (fun i wr => i = .int .i64 0 ∧ Ok w wr) (fun _ _ => 0)
          case atStart => exact ⟨rfl, HK.out⟩
          case round =>
            obtain ⟨rfl, hok⟩ := hrel
            have HK := Lib.hid hok
            clear hok
            go_wp2_with fail
            go_ret
            exact ⟨rfl, HK.out⟩
set_option maxRecDepth 100000 in
set_option maxHeartbeats 1000000 in
theorem flatNames_nil (w : World) : Calls Tryz.prog 67 #[.slice none 0 0] w (Ret w (.bool true)) := by
  have hmk : ∀ w : World, (Instr.makeSlice 75 (.int .i64 0) (.int .i64 0)).run Tryz.prog w = .ok (.slice (some ⟨w.heap.size, 0, none⟩) 0 0) (w.alloc (.cells #[] 181)) := fun _ => by kernel_rfl
  go_enter Tryz.func67, Tryz.ntmps67
  go_wp2_with fail
  go_loopw [3] (fun i wr => i = .int .i64 0 ∧ Ok w wr) (fun _ _ => 0)
  case atStart => exact ⟨rfl, Ok.refl _⟩
  case round =>
    obtain ⟨rfl, hok⟩ := hrel
    have HK := Lib.hid hok
    clear hok
    go_wp2_with fail
    go_loopw [6] (fun i wr => i = .int .i64 0 ∧ Ok w wr) (fun _ _ => 0)
    case atStart => exact ⟨rfl, Ok.alloc HK.out _⟩
    case round =>
      obtain ⟨rfl, hok⟩ := hrel
      have HK := Lib.hid hok
      clear hok
      go_wp2_with fail
      go_loopw [9] (fun i wr => i = .int .i64 0 ∧ Ok w wr) (fun _ _ => 0)
      case atStart => exact ⟨rfl, HK.out⟩
      case round =>
        obtain ⟨rfl, hok⟩ := hrel
        have HK := Lib.hid hok
        clear hok
        go_wp2_with fail
        go_loopw [11] (fun i wr => i = .int .i64 0 ∧ Ok w wr) (fun _ _ => 0)
        case atStart => exact ⟨rfl, HK.out⟩
        case round =>
          obtain ⟨rfl, hok⟩ := hrel
          have HK := Lib.hid hok
          clear hok
          go_wp2_with fail
          go_loopw [14] (fun i wr => i = .int .i64 0 ∧ Ok w wr) (fun _ _ => 0)
          case atStart => exact ⟨rfl, HK.out⟩
          case round =>
            obtain ⟨rfl, hok⟩ := hrel
            have HK := Lib.hid hok
            clear hok
            go_wp2_with fail
            go_ret
            exact ⟨rfl, HK.out⟩
set_option maxRecDepth 100000 in
set_option maxHeartbeats 1000000 in
theorem flatActs_nil (w : World) : Calls Tryz.prog 68 #[.slice none 0 0] w (Ret w (.bool true)) := by
  have hmk : ∀ w : World, (Instr.makeSlice 76 (.int .i64 0) (.int .i64 0)).run Tryz.prog w = .ok (.slice (some ⟨w.heap.size, 0, none⟩) 0 0) (w.alloc (.cells #[] 185)) := fun _ => by kernel_rfl
  go_enter Tryz.func68, Tryz.ntmps68
  go_wp2_with fail
  go_loopw [3] (fun i wr => i = .int .i64 0 ∧ Ok w wr) (fun _ _ => 0)
  case atStart => exact ⟨rfl, Ok.refl _⟩
  case round =>
    obtain ⟨rfl, hok⟩ := hrel
    have HK := Lib.hid hok
    clear hok
    go_wp2_with fail
    go_loopw [6] (fun i wr => i = .int .i64 0 ∧ Ok w wr) (fun _ _ => 0)
    case atStart => exact ⟨rfl, Ok.alloc HK.out _⟩
    case round =>
      obtain ⟨rfl, hok⟩ := hrel
      have HK := Lib.hid hok
      clear hok
      go_wp2_with fail
      go_loopw [9] (fun i wr => i = .int .i64 0 ∧ Ok w wr) (fun _ _ => 0)
      case atStart => exact ⟨rfl, HK.out⟩
      case round =>
        obtain ⟨rfl, hok⟩ := hrel
        have HK := Lib.hid hok
        clear hok
        go_wp2_with fail
        go_loopw [11] (fun i wr => i = .int .i64 0 ∧ Ok w wr) (fun _ _ => 0)
        case atStart => exact ⟨rfl, HK.out⟩
        case round =>
          obtain ⟨rfl, hok⟩ := hrel
          have HK := Lib.hid hok
          clear hok
          go_wp2_with fail
          go_loopw [14] (fun i wr => i = .int .i64 0 ∧ Ok w wr) (fun _ _ => 0)
          case atStart => exact ⟨rfl, HK.out⟩
          case round =>
            obtain ⟨rfl, hok⟩ := hrel
            have HK := Lib.hid hok
            clear hok
            go_wp2_with fail
            go_ret
            exact ⟨rfl, HK.out⟩
set_option maxRecDepth 100000 in
set_option maxHeartbeats 1000000 in
theorem flatReads_nil (w : World) : Calls Tryz.prog 69 #[.slice none 0 0] w (Ret w (.bool true)) := by
  have hmk : ∀ w : World, (Instr.makeSlice 77 (.int .i64 0) (.int .i64 0)).run Tryz.prog w = .ok (.slice (some ⟨w.heap.size, 0, none⟩) 0 0) (w.alloc (.cells #[] 190)) := fun _ => by kernel_rfl
  go_enter Tryz.func69, Tryz.ntmps69
  go_wp2_with fail
  go_loopw [3] (fun i wr => i = .int .i64 0 ∧ Ok w wr) (fun _ _ => 0)
  case atStart => exact ⟨rfl, Ok.refl _⟩
  case round =>
    obtain ⟨rfl, hok⟩ := hrel
    have HK := Lib.hid hok
    clear hok
    go_wp2_with fail
    go_loopw [6] (fun i wr => i = .int .i64 0 ∧ Ok w wr) (fun _ _ => 0)
    case atStart => exact ⟨rfl, Ok.alloc HK.out _⟩
    case round =>
      obtain ⟨rfl, hok⟩ := hrel
      have HK := Lib.hid hok
      clear hok
      go_wp2_with fail
      go_loopw [9] (fun i wr => i = .int .i64 0 ∧ Ok w wr) (fun _ _ => 0)
      case atStart => exact ⟨rfl, HK.out⟩
      case round =>
        obtain ⟨rfl, hok⟩ := hrel
        have HK := Lib.hid hok
        clear hok
        go_wp2_with fail
        go_loopw [11] (fun i wr => i = .int .i64 0 ∧ Ok w wr) (fun _ _ => 0)
        case atStart => exact ⟨rfl, HK.out⟩
        case round =>
          obtain ⟨rfl, hok⟩ := hrel
          have HK := Lib.hid hok
          clear hok
          go_wp2_with fail
          go_loopw [14] (fun i wr => i = .int .i64 0 ∧ Ok w wr) (fun _ _ => 0)
          case atStart => exact ⟨rfl, HK.out⟩
          case round =>
            obtain ⟨rfl, hok⟩ := hrel
            have HK := Lib.hid hok
            clear hok
            go_wp2_with fail
            go_ret
            exact ⟨rfl, HK.out⟩
set_option maxRecDepth 100000 in
set_option maxHeartbeats 1000000 in
theorem flatBytes_nil (w : World) : Calls Tryz.prog 62 #[.slice none 0 0] w (Ret w (.bool true)) := by
  have hmk : ∀ w : World, (Instr.makeSlice 70 (.int .i64 0) (.int .i64 0)).run Tryz.prog w = .ok (.slice (some ⟨w.heap.size, 0, none⟩) 0 0) (w.alloc (.cells #[] 50)) := fun _ => by kernel_rfl
  go_enter Tryz.func62, Tryz.ntmps62
  go_wp2_with fail
  go_loopw [3] (fun i wr => i = .int .i64 0 ∧ Ok w wr) (fun _ _ => 0)
  case atStart => exact ⟨rfl, Ok.refl _⟩
  case round =>
    obtain ⟨rfl, hok⟩ := hrel
    have HK := Lib.hid hok
    clear hok
    go_wp2_with fail
    go_loopw [6] (fun i wr => i = .int .i64 0 ∧ Ok w wr) (fun _ _ => 0)
    case atStart => exact ⟨rfl, Ok.alloc HK.out _⟩
    case round =>
      obtain ⟨rfl, hok⟩ := hrel
      have HK := Lib.hid hok
      clear hok
      go_wp2_with fail
      go_loopw [9] (fun i wr => i = .int .i64 0 ∧ Ok w wr) (fun _ _ => 0)
      case atStart => exact ⟨rfl, HK.out⟩
      case round =>
        obtain ⟨rfl, hok⟩ := hrel
        have HK := Lib.hid hok
        clear hok
        go_wp2_with fail
        go_loopw [11] (fun i wr => i = .int .i64 0 ∧ Ok w wr) (fun _ _ => 0)
        case atStart => exact ⟨rfl, HK.out⟩
        case round =>
          obtain ⟨rfl, hok⟩ := hrel
          have HK := Lib.hid hok
          clear hok
          go_wp2_with fail
          go_loopw [14] (fun i wr => i = .int .i64 0 ∧ Ok w wr) (fun _ _ => 0)
          case atStart => exact ⟨rfl, HK.out⟩
          case round =>
            obtain ⟨rfl, hok⟩ := hrel
            have HK := Lib.hid hok
            clear hok
            go_wp2_with fail
            go_ret
            exact ⟨rfl, HK.out⟩
set_option maxRecDepth 100000 in
set_option maxHeartbeats 1000000 in
theorem flatHolds_nil (w : World) : Calls Tryz.prog 71 #[.slice none 0 0] w (Ret w (.bool true)) := by
  have hmk : ∀ w : World, (Instr.makeSlice 78 (.int .i64 0) (.int .i64 0)).run Tryz.prog w = .ok (.slice (some ⟨w.heap.size, 0, none⟩) 0 0) (w.alloc (.cells #[] 194)) := fun _ => by kernel_rfl
  go_enter Tryz.func71, Tryz.ntmps71
  go_wp2_with fail
  go_loopw [3] (fun i wr => i = .int .i64 0 ∧ Ok w wr) (fun _ _ => 0)
  case atStart => exact ⟨rfl, Ok.refl _⟩
  case round =>
    obtain ⟨rfl, hok⟩ := hrel
    have HK := Lib.hid hok
    clear hok
    go_wp2_with fail
    go_loopw [6] (fun i wr => i = .int .i64 0 ∧ Ok w wr) (fun _ _ => 0)
    case atStart => exact ⟨rfl, Ok.alloc HK.out _⟩
    case round =>
      obtain ⟨rfl, hok⟩ := hrel
      have HK := Lib.hid hok
      clear hok
      go_wp2_with fail
      go_loopw [9] (fun i wr => i = .int .i64 0 ∧ Ok w wr) (fun _ _ => 0)
      case atStart => exact ⟨rfl, HK.out⟩
      case round =>
        obtain ⟨rfl, hok⟩ := hrel
        have HK := Lib.hid hok
        clear hok
        go_wp2_with fail
        go_loopw [11] (fun i wr => i = .int .i64 0 ∧ Ok w wr) (fun _ _ => 0)
        case atStart => exact ⟨rfl, HK.out⟩
        case round =>
          obtain ⟨rfl, hok⟩ := hrel
          have HK := Lib.hid hok
          clear hok
          go_wp2_with fail
          go_loopw [14] (fun i wr => i = .int .i64 0 ∧ Ok w wr) (fun _ _ => 0)
          case atStart => exact ⟨rfl, HK.out⟩
          case round =>
            obtain ⟨rfl, hok⟩ := hrel
            have HK := Lib.hid hok
            clear hok
            go_wp2_with fail
            go_ret
            exact ⟨rfl, HK.out⟩
set_option maxRecDepth 100000 in
set_option maxHeartbeats 1000000 in
theorem flatConfigs_nil (w : World) : Calls Tryz.prog 72 #[.slice none 0 0] w (Ret w (.bool true)) := by
  have hmk : ∀ w : World, (Instr.makeSlice 79 (.int .i64 0) (.int .i64 0)).run Tryz.prog w = .ok (.slice (some ⟨w.heap.size, 0, none⟩) 0 0) (w.alloc (.cells #[] 199)) := fun _ => by kernel_rfl
  go_enter Tryz.func72, Tryz.ntmps72
  go_wp2_with fail
  go_loopw [3] (fun i wr => i = .int .i64 0 ∧ Ok w wr) (fun _ _ => 0)
  case atStart => exact ⟨rfl, Ok.refl _⟩
  case round =>
    obtain ⟨rfl, hok⟩ := hrel
    have HK := Lib.hid hok
    clear hok
    go_wp2_with fail
    go_loopw [6] (fun i wr => i = .int .i64 0 ∧ Ok w wr) (fun _ _ => 0)
    case atStart => exact ⟨rfl, Ok.alloc HK.out _⟩
    case round =>
      obtain ⟨rfl, hok⟩ := hrel
      have HK := Lib.hid hok
      clear hok
      go_wp2_with fail
      go_loopw [9] (fun i wr => i = .int .i64 0 ∧ Ok w wr) (fun _ _ => 0)
      case atStart => exact ⟨rfl, HK.out⟩
      case round =>
        obtain ⟨rfl, hok⟩ := hrel
        have HK := Lib.hid hok
        clear hok
        go_wp2_with fail
        go_loopw [11] (fun i wr => i = .int .i64 0 ∧ Ok w wr) (fun _ _ => 0)
        case atStart => exact ⟨rfl, HK.out⟩
        case round =>
          obtain ⟨rfl, hok⟩ := hrel
          have HK := Lib.hid hok
          clear hok
          go_wp2_with fail
          go_loopw [14] (fun i wr => i = .int .i64 0 ∧ Ok w wr) (fun _ _ => 0)
          case atStart => exact ⟨rfl, HK.out⟩
          case round =>
            obtain ⟨rfl, hok⟩ := hrel
            have HK := Lib.hid hok
            clear hok
            go_wp2_with fail
            go_ret
            exact ⟨rfl, HK.out⟩
set_option maxRecDepth 100000 in
set_option maxHeartbeats 1000000 in
theorem flatEntries_nil (w : World) : Calls Tryz.prog 73 #[.slice none 0 0] w (Ret w (.bool true)) := by
  have hmk : ∀ w : World, (Instr.makeSlice 80 (.int .i64 0) (.int .i64 0)).run Tryz.prog w = .ok (.slice (some ⟨w.heap.size, 0, none⟩) 0 0) (w.alloc (.cells #[] 204)) := fun _ => by kernel_rfl
  go_enter Tryz.func73, Tryz.ntmps73
  go_wp2_with fail
  go_loopw [3] (fun i wr => i = .int .i64 0 ∧ Ok w wr) (fun _ _ => 0)
  case atStart => exact ⟨rfl, Ok.refl _⟩
  case round =>
    obtain ⟨rfl, hok⟩ := hrel
    have HK := Lib.hid hok
    clear hok
    go_wp2_with fail
    go_loopw [6] (fun i wr => i = .int .i64 0 ∧ Ok w wr) (fun _ _ => 0)
    case atStart => exact ⟨rfl, Ok.alloc HK.out _⟩
    case round =>
      obtain ⟨rfl, hok⟩ := hrel
      have HK := Lib.hid hok
      clear hok
      go_wp2_with fail
      go_loopw [9] (fun i wr => i = .int .i64 0 ∧ Ok w wr) (fun _ _ => 0)
      case atStart => exact ⟨rfl, HK.out⟩
      case round =>
        obtain ⟨rfl, hok⟩ := hrel
        have HK := Lib.hid hok
        clear hok
        go_wp2_with fail
        go_loopw [11] (fun i wr => i = .int .i64 0 ∧ Ok w wr) (fun _ _ => 0)
        case atStart => exact ⟨rfl, HK.out⟩
        case round =>
          obtain ⟨rfl, hok⟩ := hrel
          have HK := Lib.hid hok
          clear hok
          go_wp2_with fail
          go_loopw [14] (fun i wr => i = .int .i64 0 ∧ Ok w wr) (fun _ _ => 0)
          case atStart => exact ⟨rfl, HK.out⟩
          case round =>
            obtain ⟨rfl, hok⟩ := hrel
            have HK := Lib.hid hok
            clear hok
            go_wp2_with fail
            go_ret
            exact ⟨rfl, HK.out⟩
set_option maxRecDepth 100000 in
set_option maxHeartbeats 1000000 in
theorem flatBases_nil (w : World) : Calls Tryz.prog 74 #[.slice none 0 0] w (Ret w (.bool true)) := by
  have hmk : ∀ w : World, (Instr.makeSlice 81 (.int .i64 0) (.int .i64 0)).run Tryz.prog w = .ok (.slice (some ⟨w.heap.size, 0, none⟩) 0 0) (w.alloc (.cells #[] 210)) := fun _ => by kernel_rfl
  go_enter Tryz.func74, Tryz.ntmps74
  go_wp2_with fail
  go_loopw [3] (fun i wr => i = .int .i64 0 ∧ Ok w wr) (fun _ _ => 0)
  case atStart => exact ⟨rfl, Ok.refl _⟩
  case round =>
    obtain ⟨rfl, hok⟩ := hrel
    have HK := Lib.hid hok
    clear hok
    go_wp2_with fail
    go_loopw [6] (fun i wr => i = .int .i64 0 ∧ Ok w wr) (fun _ _ => 0)
    case atStart => exact ⟨rfl, Ok.alloc HK.out _⟩
    case round =>
      obtain ⟨rfl, hok⟩ := hrel
      have HK := Lib.hid hok
      clear hok
      go_wp2_with fail
      go_loopw [9] (fun i wr => i = .int .i64 0 ∧ Ok w wr) (fun _ _ => 0)
      case atStart => exact ⟨rfl, HK.out⟩
      case round =>
        obtain ⟨rfl, hok⟩ := hrel
        have HK := Lib.hid hok
        clear hok
        go_wp2_with fail
        go_loopw [11] (fun i wr => i = .int .i64 0 ∧ Ok w wr) (fun _ _ => 0)
        case atStart => exact ⟨rfl, HK.out⟩
        case round =>
          obtain ⟨rfl, hok⟩ := hrel
          have HK := Lib.hid hok
          clear hok
          go_wp2_with fail
          go_loopw [14] (fun i wr => i = .int .i64 0 ∧ Ok w wr) (fun _ _ => 0)
          case atStart => exact ⟨rfl, HK.out⟩
          case round =>
            obtain ⟨rfl, hok⟩ := hrel
            have HK := Lib.hid hok
            clear hok
            go_wp2_with fail
            go_ret
            exact ⟨rfl, HK.out⟩
set_option maxRecDepth 100000 in
set_option maxHeartbeats 1000000 in
theorem flatImages_nil (w : World) : Calls Tryz.prog 75 #[.slice none 0 0] w (Ret w (.bool true)) := by
  have hmk : ∀ w : World, (Instr.makeSlice 82 (.int .i64 0) (.int .i64 0)).run Tryz.prog w = .ok (.slice (some ⟨w.heap.size, 0, none⟩) 0 0) (w.alloc (.cells #[] 215)) := fun _ => by kernel_rfl
  go_enter Tryz.func75, Tryz.ntmps75
  go_wp2_with fail
  go_loopw [3] (fun i wr => i = .int .i64 0 ∧ Ok w wr) (fun _ _ => 0)
  case atStart => exact ⟨rfl, Ok.refl _⟩
  case round =>
    obtain ⟨rfl, hok⟩ := hrel
    have HK := Lib.hid hok
    clear hok
    go_wp2_with fail
    go_loopw [6] (fun i wr => i = .int .i64 0 ∧ Ok w wr) (fun _ _ => 0)
    case atStart => exact ⟨rfl, Ok.alloc HK.out _⟩
    case round =>
      obtain ⟨rfl, hok⟩ := hrel
      have HK := Lib.hid hok
      clear hok
      go_wp2_with fail
      go_loopw [9] (fun i wr => i = .int .i64 0 ∧ Ok w wr) (fun _ _ => 0)
      case atStart => exact ⟨rfl, HK.out⟩
      case round =>
        obtain ⟨rfl, hok⟩ := hrel
        have HK := Lib.hid hok
        clear hok
        go_wp2_with fail
        go_loopw [11] (fun i wr => i = .int .i64 0 ∧ Ok w wr) (fun _ _ => 0)
        case atStart => exact ⟨rfl, HK.out⟩
        case round =>
          obtain ⟨rfl, hok⟩ := hrel
          have HK := Lib.hid hok
          clear hok
          go_wp2_with fail
          go_loopw [14] (fun i wr => i = .int .i64 0 ∧ Ok w wr) (fun _ _ => 0)
          case atStart => exact ⟨rfl, HK.out⟩
          case round =>
            obtain ⟨rfl, hok⟩ := hrel
            have HK := Lib.hid hok
            clear hok
            go_wp2_with fail
            go_ret
            exact ⟨rfl, HK.out⟩
set_option maxRecDepth 100000 in
set_option maxHeartbeats 1000000 in
theorem flatLetters_nil (w : World) : Calls Tryz.prog 76 #[.slice none 0 0] w (Ret w (.bool true)) := by
  have hmk : ∀ w : World, (Instr.makeSlice 83 (.int .i64 0) (.int .i64 0)).run Tryz.prog w = .ok (.slice (some ⟨w.heap.size, 0, none⟩) 0 0) (w.alloc (.cells #[] 220)) := fun _ => by kernel_rfl
  go_enter Tryz.func76, Tryz.ntmps76
  go_wp2_with fail
  go_loopw [3] (fun i wr => i = .int .i64 0 ∧ Ok w wr) (fun _ _ => 0)
  case atStart => exact ⟨rfl, Ok.refl _⟩
  case round =>
    obtain ⟨rfl, hok⟩ := hrel
    have HK := Lib.hid hok
    clear hok
    go_wp2_with fail
    go_loopw [6] (fun i wr => i = .int .i64 0 ∧ Ok w wr) (fun _ _ => 0)
    case atStart => exact ⟨rfl, Ok.alloc HK.out _⟩
    case round =>
      obtain ⟨rfl, hok⟩ := hrel
      have HK := Lib.hid hok
      clear hok
      go_wp2_with fail
      go_loopw [9] (fun i wr => i = .int .i64 0 ∧ Ok w wr) (fun _ _ => 0)
      case atStart => exact ⟨rfl, HK.out⟩
      case round =>
        obtain ⟨rfl, hok⟩ := hrel
        have HK := Lib.hid hok
        clear hok
        go_wp2_with fail
        go_loopw [11] (fun i wr => i = .int .i64 0 ∧ Ok w wr) (fun _ _ => 0)
        case atStart => exact ⟨rfl, HK.out⟩
        case round =>
          obtain ⟨rfl, hok⟩ := hrel
          have HK := Lib.hid hok
          clear hok
          go_wp2_with fail
          go_loopw [14] (fun i wr => i = .int .i64 0 ∧ Ok w wr) (fun _ _ => 0)
          case atStart => exact ⟨rfl, HK.out⟩
          case round =>
            obtain ⟨rfl, hok⟩ := hrel
            have HK := Lib.hid hok
            clear hok
            go_wp2_with fail
            go_ret
            exact ⟨rfl, HK.out⟩
set_option maxRecDepth 100000 in
set_option maxHeartbeats 1000000 in
theorem flatStretches_nil (w : World) : Calls Tryz.prog 77 #[.slice none 0 0] w (Ret w (.bool true)) := by
  have hmk : ∀ w : World, (Instr.makeSlice 84 (.int .i64 0) (.int .i64 0)).run Tryz.prog w = .ok (.slice (some ⟨w.heap.size, 0, none⟩) 0 0) (w.alloc (.cells #[] 226)) := fun _ => by kernel_rfl
  go_enter Tryz.func77, Tryz.ntmps77
  go_wp2_with fail
  go_loopw [3] (fun i wr => i = .int .i64 0 ∧ Ok w wr) (fun _ _ => 0)
  case atStart => exact ⟨rfl, Ok.refl _⟩
  case round =>
    obtain ⟨rfl, hok⟩ := hrel
    have HK := Lib.hid hok
    clear hok
    go_wp2_with fail
    go_loopw [6] (fun i wr => i = .int .i64 0 ∧ Ok w wr) (fun _ _ => 0)
    case atStart => exact ⟨rfl, Ok.alloc HK.out _⟩
    case round =>
      obtain ⟨rfl, hok⟩ := hrel
      have HK := Lib.hid hok
      clear hok
      go_wp2_with fail
      go_loopw [9] (fun i wr => i = .int .i64 0 ∧ Ok w wr) (fun _ _ => 0)
      case atStart => exact ⟨rfl, HK.out⟩
      case round =>
        obtain ⟨rfl, hok⟩ := hrel
        have HK := Lib.hid hok
        clear hok
        go_wp2_with fail
        go_loopw [11] (fun i wr => i = .int .i64 0 ∧ Ok w wr) (fun _ _ => 0)
        case atStart => exact ⟨rfl, HK.out⟩
        case round =>
          obtain ⟨rfl, hok⟩ := hrel
          have HK := Lib.hid hok
          clear hok
          go_wp2_with fail
          go_loopw [14] (fun i wr => i = .int .i64 0 ∧ Ok w wr) (fun _ _ => 0)
          case atStart => exact ⟨rfl, HK.out⟩
          case round =>
            obtain ⟨rfl, hok⟩ := hrel
            have HK := Lib.hid hok
            clear hok
            go_wp2_with fail
            go_ret
            exact ⟨rfl, HK.out⟩
set_option maxRecDepth 100000 in
set_option maxHeartbeats 1000000 in
theorem flatPeers_nil (w : World) : Calls Tryz.prog 78 #[.slice none 0 0] w (Ret w (.bool true)) := by
  have hmk : ∀ w : World, (Instr.makeSlice 85 (.int .i64 0) (.int .i64 0)).run Tryz.prog w = .ok (.slice (some ⟨w.heap.size, 0, none⟩) 0 0) (w.alloc (.cells #[] 231)) := fun _ => by kernel_rfl
  go_enter Tryz.func78, Tryz.ntmps78
  go_wp2_with fail
  go_loopw [3] (fun i wr => i = .int .i64 0 ∧ Ok w wr) (fun _ _ => 0)
  case atStart => exact ⟨rfl, Ok.refl _⟩
  case round =>
    obtain ⟨rfl, hok⟩ := hrel
    have HK := Lib.hid hok
    clear hok
    go_wp2_with fail
    go_loopw [6] (fun i wr => i = .int .i64 0 ∧ Ok w wr) (fun _ _ => 0)
    case atStart => exact ⟨rfl, Ok.alloc HK.out _⟩
    case round =>
      obtain ⟨rfl, hok⟩ := hrel
      have HK := Lib.hid hok
      clear hok
      go_wp2_with fail
      go_loopw [9] (fun i wr => i = .int .i64 0 ∧ Ok w wr) (fun _ _ => 0)
      case atStart => exact ⟨rfl, HK.out⟩
      case round =>
        obtain ⟨rfl, hok⟩ := hrel
        have HK := Lib.hid hok
        clear hok
        go_wp2_with fail
        go_loopw [11] (fun i wr => i = .int .i64 0 ∧ Ok w wr) (fun _ _ => 0)
        case atStart => exact ⟨rfl, HK.out⟩
        case round =>
          obtain ⟨rfl, hok⟩ := hrel
          have HK := Lib.hid hok
          clear hok
          go_wp2_with fail
          go_loopw [14] (fun i wr => i = .int .i64 0 ∧ Ok w wr) (fun _ _ => 0)
          case atStart => exact ⟨rfl, HK.out⟩
          case round =>
            obtain ⟨rfl, hok⟩ := hrel
            have HK := Lib.hid hok
            clear hok
            go_wp2_with fail
            go_ret
            exact ⟨rfl, HK.out⟩
end Go.Proofs.YtebhcadolnjplaaGreat
