/- Lists of nothing lie apart: of each kind. -/
import Derived.Test.YtolfdncmlfnbdaaGa
namespace Go.Proofs.Ytolfdncmlfnbdaa
open Go.RowKit

set_option maxRecDepth 100000 in
set_option maxHeartbeats 1000000 in
theorem flatLimbs_nil (w : World) : Calls Try.prog 140 #[.slice none 0 0] w (Ret w (.bool true)) := by
  have hmk : ∀ w : World, (Instr.makeSlice 128 (.int .i64 0) (.int .i64 0)).run Try.prog w = .ok (.slice (some ⟨w.heap.size, 0, none⟩) 0 0) (w.alloc (.cells #[] 214)) := fun _ => by kernel_rfl
  go_enter Try.func140, Try.ntmps140
  go_wp2_with fail
  go_loopw [3] (fun i wr => i = .int .i64 0 ∧ Ok w wr) (fun _ _ => 0)
  case atStart => exact ⟨rfl, Ok.refl _⟩
  case round =>
    obtain ⟨rfl, hok⟩ := hrel
    have HK := Lib.hid hok
    clear hok
    go_wp2_with fail
    go_loopw [6] (fun i wr => i = .int .i64 0 ∧ Ok w wr) (fun _ _ => 0)
    case atStart => exact ⟨rfl, Ok.alloc HK.out _⟩
    case round =>
      obtain ⟨rfl, hok⟩ := hrel
      have HK := Lib.hid hok
      clear hok
      go_wp2_with fail
      go_loopw [9] (fun i wr => i = .int .i64 0 ∧ Ok w wr) (fun _ _ => 0)
      case atStart => exact ⟨rfl, HK.out⟩
      case round =>
        obtain ⟨rfl, hok⟩ := hrel
        have HK := Lib.hid hok
        clear hok
        go_wp2_with fail
        go_loopw [11] (fun i wr => i = .int .i64 0 ∧ Ok w wr) (fun _ _ => 0)
        case atStart => exact ⟨rfl, HK.out⟩
        case round =>
          obtain ⟨rfl, hok⟩ := hrel
          have HK := Lib.hid hok
          clear hok
          go_wp2_with fail
          go_loopw [14] (fun i wr => i = .int .i64 0 ∧ Ok w wr) (fun _ _ => 0)
          case atStart => exact ⟨rfl, HK.out⟩
          case round =>
            obtain ⟨rfl, hok⟩ := hrel
            have HK := Lib.hid hok
            clear hok
            go_wp2_with fail
            go_ret
            exact ⟨rfl, HK.out⟩
set_option maxRecDepth 100000 in
set_option maxHeartbeats 1000000 in
theorem flatWords_nil (w : World) : Calls Try.prog 141 #[.slice none 0 0] w (Ret w (.bool true)) := by
  have hmk : ∀ w : World, (Instr.makeSlice 129 (.int .i64 0) (.int .i64 0)).run Try.prog w = .ok (.slice (some ⟨w.heap.size, 0, none⟩) 0 0) (w.alloc (.cells #[] 216)) := fun _ => by kernel_rfl
  go_enter Try.func141, Try.ntmps141
  go_wp2_with fail
  go_loopw [3] (fun i wr => i = .int .i64 0 ∧ Ok w wr) (fun _ _ => 0)
  case atStart => exact ⟨rfl, Ok.refl _⟩
  case round =>
    obtain ⟨rfl, hok⟩ := hrel
    have HK := Lib.hid hok
    clear hok
    go_wp2_with fail
    go_loopw [6] (fun i wr => i = .int .i64 0 ∧ Ok w wr) (fun _ _ => 0)
    case atStart => exact ⟨rfl, Ok.alloc HK.out _⟩
    case round =>
      obtain ⟨rfl, hok⟩ := hrel
      have HK := Lib.hid hok
      clear hok
      go_wp2_with fail
      go_loopw [9] (fun i wr => i = .int .i64 0 ∧ Ok w wr) (fun _ _ => 0)
      case atStart => exact ⟨rfl, HK.out⟩
      case round =>
        obtain ⟨rfl, hok⟩ := hrel
        have HK := Lib.hid hok
        clear hok
        go_wp2_with fail
        go_loopw [11] (fun i wr => i = .int .i64 0 ∧ Ok w wr) (fun _ _ => 0)
        case atStart => exact ⟨rfl, HK.out⟩
        case round =>
          obtain ⟨rfl, hok⟩ := hrel
          have HK := Lib.hid hok
          clear hok
          go_wp2_with fail
          go_loopw [14] (fun i wr => i = .int .i64 0 ∧ Ok w wr) (fun _ _ => 0)
          case atStart => exact ⟨rfl, HK.out⟩
          case round =>
            obtain ⟨rfl, hok⟩ := hrel
            have HK := Lib.hid hok
            clear hok
            go_wp2_with fail
            go_ret
            exact ⟨rfl, HK.out⟩
set_option maxRecDepth 100000 in
set_option maxHeartbeats 1000000 in
theorem flatInts_nil (w : World) : Calls Try.prog 142 #[.slice none 0 0] w (Ret w (.bool true)) := by
  have hmk : ∀ w : World, (Instr.makeSlice 130 (.int .i64 0) (.int .i64 0)).run Try.prog w = .ok (.slice (some ⟨w.heap.size, 0, none⟩) 0 0) (w.alloc (.cells #[] 22)) := fun _ => by kernel_rfl
  go_enter Try.func142, Try.ntmps142
  go_wp2_with fail
  go_loopw [3] (fun i wr => i = .int .i64 0 ∧ Ok w wr) (fun _ _ => 0)
  case atStart => exact ⟨rfl, Ok.refl _⟩
  case round =>
    obtain ⟨rfl, hok⟩ := hrel
    have HK := Lib.hid hok
    clear hok
    go_wp2_with fail
    go_loopw [6] (fun i wr => i = .int .i64 0 ∧ Ok w wr) (fun _ _ => 0)
    case atStart => exact ⟨rfl, Ok.alloc HK.out _⟩
    case round =>
      obtain ⟨rfl, hok⟩ := hrel
      have HK := Lib.hid hok
      clear hok
      go_wp2_with fail
      go_loopw [9] (fun i wr => i = .int .i64 0 ∧ Ok w wr) (fun _ _ => 0)
      case atStart => exact ⟨rfl, HK.out⟩
      case round =>
        obtain ⟨rfl, hok⟩ := hrel
        have HK := Lib.hid hok
        clear hok
        go_wp2_with fail
        go_loopw [11] (fun i wr => i = .int .i64 0 ∧ Ok w wr) (fun _ _ => 0)
        case atStart => exact ⟨rfl, HK.out⟩
        case round =>
          obtain ⟨rfl, hok⟩ := hrel
          have HK := Lib.hid hok
          clear hok
          go_wp2_with fail
          go_loopw [14] (fun i wr => i = .int .i64 0 ∧ Ok w wr) (fun _ _ => 0)
          case atStart => exact ⟨rfl, HK.out⟩
          case round =>
            obtain ⟨rfl, hok⟩ := hrel
            have HK := Lib.hid hok
            clear hok
            go_wp2_with fail
            go_ret
            exact ⟨rfl, HK.out⟩
set_option maxRecDepth 100000 in
set_option maxHeartbeats 1000000 in
theorem flatLongs_nil (w : World) : Calls Try.prog 143 #[.slice none 0 0] w (Ret w (.bool true)) := by
  have hmk : ∀ w : World, (Instr.makeSlice 131 (.int .i64 0) (.int .i64 0)).run Try.prog w = .ok (.slice (some ⟨w.heap.size, 0, none⟩) 0 0) (w.alloc (.cells #[] 217)) := fun _ => by kernel_rfl
  go_enter Try.func143, Try.ntmps143
  go_wp2_with fail
  go_loopw [3] (fun i wr => i = .int .i64 0 ∧ Ok w wr) (fun _ _ => 0)
  case atStart => exact ⟨rfl, Ok.refl _⟩
  case round =>
    obtain ⟨rfl, hok⟩ := hrel
    have HK := Lib.hid hok
    clear hok
    go_wp2_with fail
    go_loopw [6] (fun i wr => i = .int .i64 0 ∧ Ok w wr) (fun _ _ => 0)
    case atStart => exact ⟨rfl, Ok.alloc HK.out _⟩
    case round =>
      obtain ⟨rfl, hok⟩ := hrel
      have HK := Lib.hid hok
      clear hok
      go_wp2_with fail
      go_loopw [9] (fun i wr => i = .int .i64 0 ∧ Ok w wr) (fun _ _ => 0)
      case atStart => exact ⟨rfl, HK.out⟩
      case round =>
        obtain ⟨rfl, hok⟩ := hrel
        have HK := Lib.hid hok
        clear hok
        go_wp2_with fail
        go_loopw [11] (fun i wr => i = .int .i64 0 ∧ Ok w wr) (fun _ _ => 0)
        case atStart => exact ⟨rfl, HK.out⟩
        case round =>
          obtain ⟨rfl, hok⟩ := hrel
          have HK := Lib.hid hok
          clear hok
          go_wp2_with fail
          go_loopw [14] (fun i wr => i = .int .i64 0 ∧ Ok w wr) (fun _ _ => 0)
          case atStart => exact ⟨rfl, HK.out⟩
          case round =>
            obtain ⟨rfl, hok⟩ := hrel
            have HK := Lib.hid hok
            clear hok
            go_wp2_with fail
            go_ret
            exact ⟨rfl, HK.out⟩
set_option maxRecDepth 100000 in
set_option maxHeartbeats 1000000 in
theorem flatTexts_nil (w : World) : Calls Try.prog 144 #[.slice none 0 0] w (Ret w (.bool true)) := by
  have hmk : ∀ w : World, (Instr.makeSlice 132 (.int .i64 0) (.int .i64 0)).run Try.prog w = .ok (.slice (some ⟨w.heap.size, 0, none⟩) 0 0) (w.alloc (.cells #[] 24)) := fun _ => by kernel_rfl
  go_enter Try.func144, Try.ntmps144
  go_wp2_with fail
  go_loopw [3] (fun i wr => i = .int .i64 0 ∧ Ok w wr) (fun _ _ => 0)
  case atStart => exact ⟨rfl, Ok.refl _⟩
  case round =>
    obtain ⟨rfl, hok⟩ := hrel
    have HK := Lib.hid hok
    clear hok
    go_wp2_with fail
    go_loopw [6] (fun i wr => i = .int .i64 0 ∧ Ok w wr) (fun _ _ => 0)
    case atStart => exact ⟨rfl, Ok.alloc HK.out _⟩
    case round =>
      obtain ⟨rfl, hok⟩ := hrel
      have HK := Lib.hid hok
      clear hok
      go_wp2_with fail
      go_loopw [9] (fun i wr => i = .int .i64 0 ∧ Ok w wr) (fun _ _ => 0)
      case atStart => exact ⟨rfl, HK.out⟩
      case round =>
        obtain ⟨rfl, hok⟩ := hrel
        have HK := Lib.hid hok
        clear hok
        go_wp2_with fail
        go_loopw [11] (fun i wr => i = .int .i64 0 ∧ Ok w wr) (fun _ _ => 0)
        case atStart => exact ⟨rfl, HK.out⟩
        case round =>
          obtain ⟨rfl, hok⟩ := hrel
          have HK := Lib.hid hok
          clear hok
          go_wp2_with fail
          go_loopw [14] (fun i wr => i = .int .i64 0 ∧ Ok w wr) (fun _ _ => 0)
          case atStart => exact ⟨rfl, HK.out⟩
          case round =>
            obtain ⟨rfl, hok⟩ := hrel
            have HK := Lib.hid hok
            clear hok
            go_wp2_with fail
            go_ret
            exact ⟨rfl, HK.out⟩
set_option maxRecDepth 100000 in
set_option maxHeartbeats 1000000 in
theorem flatTruths_nil (w : World) : Calls Try.prog 146 #[.slice none 0 0] w (Ret w (.bool true)) := by
  have hmk : ∀ w : World, (Instr.makeSlice 133 (.int .i64 0) (.int .i64 0)).run Try.prog w = .ok (.slice (some ⟨w.heap.size, 0, none⟩) 0 0) (w.alloc (.cells #[] 23)) := fun _ => by kernel_rfl
  go_enter Try.func146, Try.ntmps146
  go_wp2_with fail
  go_loopw [3] (fun i wr => i = .int .i64 0 ∧ Ok w wr) (fun _ _ => 0)
  case atStart => exact ⟨rfl, Ok.refl _⟩
  case round =>
    obtain ⟨rfl, hok⟩ := hrel
    have HK := Lib.hid hok
    clear hok
    go_wp2_with fail
    go_loopw [6] (fun i wr => i = .int .i64 0 ∧ Ok w wr) (fun _ _ => 0)
    case atStart => exact ⟨rfl, Ok.alloc HK.out _⟩
    case round =>
      obtain ⟨rfl, hok⟩ := hrel
      have HK := Lib.hid hok
      clear hok
      go_wp2_with fail
      go_loopw [9] (fun i wr => i = .int .i64 0 ∧ Ok w wr) (fun _ _ => 0)
      case atStart => exact ⟨rfl, HK.out⟩
      case round =>
        obtain ⟨rfl, hok⟩ := hrel
        have HK := Lib.hid hok
        clear hok
        go_wp2_with fail
        go_loopw [11] (fun i wr => i = .int .i64 0 ∧ Ok w wr) (fun _ _ => 0)
        case atStart => exact ⟨rfl, HK.out⟩
        case round =>
          obtain ⟨rfl, hok⟩ := hrel
          have HK := Lib.hid hok
          clear hok
          go_wp2_with fail
          go_loopw [14] (fun i wr => i = .int .i64 0 ∧ Ok w wr) (fun _ _ => 0)
          case atStart => exact ⟨rfl, HK.out⟩
          case round =>
            obtain ⟨rfl, hok⟩ := hrel
            have HK := Lib.hid hok
            clear hok
            go_wp2_with fail
            go_ret
            exact ⟨rfl, HK.out⟩
set_option maxRecDepth 100000 in
set_option maxHeartbeats 1000000 in
theorem flatSpans_nil (w : World) : Calls Try.prog 147 #[.slice none 0 0] w (Ret w (.bool true)) := by
  have hmk : ∀ w : World, (Instr.makeSlice 134 (.int .i64 0) (.int .i64 0)).run Try.prog w = .ok (.slice (some ⟨w.heap.size, 0, none⟩) 0 0) (w.alloc (.cells #[] 219)) := fun _ => by kernel_rfl
  go_enter Try.func147, Try.ntmps147
  go_wp2_with fail
  go_loopw [3] (fun i wr => i = .int .i64 0 ∧ Ok w wr) (fun _ _ => 0)
  case atStart => exact ⟨rfl, Ok.refl _⟩
  case round =>
    obtain ⟨rfl, hok⟩ := hrel
    have HK := Lib.hid hok
    clear hok
    go_wp2_with fail
    go_loopw [6] (fun i wr => i = .int .i64 0 ∧ Ok w wr) (fun _ _ => 0)
    case atStart => exact ⟨rfl, Ok.alloc HK.out _⟩
    case round =>
      obtain ⟨rfl, hok⟩ := hrel
      have HK := Lib.hid hok
      clear hok
      go_wp2_with fail
      go_loopw [9] (fun i wr => i = .int .i64 0 ∧ Ok w wr) (fun _ _ => 0)
      case atStart => exact ⟨rfl, HK.out⟩
      case round =>
        obtain ⟨rfl, hok⟩ := hrel
        have HK := Lib.hid hok
        clear hok
        go_wp2_with fail
        go_loopw [11] (fun i wr => i = .int .i64 0 ∧ Ok w wr) (fun _ _ => 0)
        case atStart => exact ⟨rfl, HK.out⟩
        case round =>
          obtain ⟨rfl, hok⟩ := hrel
          have HK := Lib.hid hok
          clear hok
          go_wp2_with fail
          go_loopw [14] (fun i wr => i = .int .i64 0 ∧ Ok w wr) (fun _ _ => 0)
          case atStart => exact ⟨rfl, HK.out⟩
          case round =>
            obtain ⟨rfl, hok⟩ := hrel
            have HK := Lib.hid hok
            clear hok
            go_wp2_with fail
            go_ret
            exact ⟨rfl, HK.out⟩
set_option maxRecDepth 100000 in
set_option maxHeartbeats 1000000 in
theorem flatShareRows_nil (w : World) : Calls Try.prog 148 #[.slice none 0 0] w (Ret w (.bool true)) := by
  have hmk : ∀ w : World, (Instr.makeSlice 135 (.int .i64 0) (.int .i64 0)).run Try.prog w = .ok (.slice (some ⟨w.heap.size, 0, none⟩) 0 0) (w.alloc (.cells #[] 223)) := fun _ => by kernel_rfl
  go_enter Try.func148, Try.ntmps148
  go_wp2_with fail
  go_loopw [3] (fun i wr => i = .int .i64 0 ∧ Ok w wr) (fun _ _ => 0)
  case atStart => exact ⟨rfl, Ok.refl _⟩
  case round =>
    obtain ⟨rfl, hok⟩ := hrel
    have HK := Lib.hid hok
    clear hok
    go_wp2_with fail
    go_loopw [6] (fun i wr => i = .int .i64 0 ∧ Ok w wr) (fun _ _ => 0)
    case atStart => exact ⟨rfl, Ok.alloc HK.out _⟩
    case round =>
      obtain ⟨rfl, hok⟩ := hrel
      have HK := Lib.hid hok
      clear hok
      go_wp2_with fail
      go_loopw [9] (fun i wr => i = .int .i64 0 ∧ Ok w wr) (fun _ _ => 0)
      case atStart => exact ⟨rfl, HK.out⟩
      case round =>
        obtain ⟨rfl, hok⟩ := hrel
        have HK := Lib.hid hok
        clear hok
        go_wp2_with fail
        go_loopw [11] (fun i wr => i = .int .i64 0 ∧ Ok w wr) (fun _ _ => 0)
        case atStart => exact ⟨rfl, HK.out⟩
        case round =>
          obtain ⟨rfl, hok⟩ := hrel
          have HK := Lib.hid hok
          clear hok
          go_wp2_with fail
          go_loopw [14] (fun i wr => i = .int .i64 0 ∧ Ok w wr) (fun _ _ => 0)
          case atStart => exact ⟨rfl, HK.out⟩
          case round =>
            obtain ⟨rfl, hok⟩ := hrel
            have HK := Lib.hid hok
            clear hok
            go_wp2_with fail
            go_ret
            exact ⟨rfl, HK.out⟩
set_option maxRecDepth 100000 in
set_option maxHeartbeats 1000000 in
theorem flatSharesRows_nil (w : World) : Calls Try.prog 149 #[.slice none 0 0] w (Ret w (.bool true)) := by
  have hmk : ∀ w : World, (Instr.makeSlice 136 (.int .i64 0) (.int .i64 0)).run Try.prog w = .ok (.slice (some ⟨w.heap.size, 0, none⟩) 0 0) (w.alloc (.cells #[] 227)) := fun _ => by kernel_rfl
  go_enter Try.func149, Try.ntmps149
  go_wp2_with fail
  go_loopw [3] (fun i wr => i = .int .i64 0 ∧ Ok w wr) (fun _ _ => 0)
  case atStart => exact ⟨rfl, Ok.refl _⟩
  case round =>
    obtain ⟨rfl, hok⟩ := hrel
    have HK := Lib.hid hok
    clear hok
    go_wp2_with fail
    go_loopw [6] (fun i wr => i = .int .i64 0 ∧ Ok w wr) (fun _ _ => 0)
    case atStart => exact ⟨rfl, Ok.alloc HK.out _⟩
    case round =>
      obtain ⟨rfl, hok⟩ := hrel
      have HK := Lib.hid hok
      clear hok
      go_wp2_with fail
      go_loopw [9] (fun i wr => i = .int .i64 0 ∧ Ok w wr) (fun _ _ => 0)
      case atStart => exact ⟨rfl, HK.out⟩
      case round =>
        obtain ⟨rfl, hok⟩ := hrel
        have HK := Lib.hid hok
        clear hok
        go_wp2_with fail
        go_loopw [11] (fun i wr => i = .int .i64 0 ∧ Ok w wr) (fun _ _ => 0)
        case atStart => exact ⟨rfl, HK.out⟩
        case round =>
          obtain ⟨rfl, hok⟩ := hrel
          have HK := Lib.hid hok
          clear hok
          go_wp2_with fail
          go_loopw [14] (fun i wr => i = .int .i64 0 ∧ Ok w wr) (fun _ _ => 0)
          case atStart => exact ⟨rfl, HK.out⟩
          case round =>
            obtain ⟨rfl, hok⟩ := hrel
            have HK := Lib.hid hok
            clear hok
            go_wp2_with fail
            go_ret
            exact ⟨rfl, HK.out⟩
set_option maxRecDepth 100000 in
set_option maxHeartbeats 1000000 in
theorem flatNames_nil (w : World) : Calls Try.prog 150 #[.slice none 0 0] w (Ret w (.bool true)) := by
  have hmk : ∀ w : World, (Instr.makeSlice 137 (.int .i64 0) (.int .i64 0)).run Try.prog w = .ok (.slice (some ⟨w.heap.size, 0, none⟩) 0 0) (w.alloc (.cells #[] 232)) := fun _ => by kernel_rfl
  go_enter Try.func150, Try.ntmps150
  go_wp2_with fail
  go_loopw [3] (fun i wr => i = .int .i64 0 ∧ Ok w wr) (fun _ _ => 0)
  case atStart => exact ⟨rfl, Ok.refl _⟩
  case round =>
    obtain ⟨rfl, hok⟩ := hrel
    have HK := Lib.hid hok
    clear hok
    go_wp2_with fail
    go_loopw [6] (fun i wr => i = .int .i64 0 ∧ Ok w wr) (fun _ _ => 0)
    case atStart => exact ⟨rfl, Ok.alloc HK.out _⟩
    case round =>
      obtain ⟨rfl, hok⟩ := hrel
      have HK := Lib.hid hok
      clear hok
      go_wp2_with fail
      go_loopw [9] (fun i wr => i = .int .i64 0 ∧ Ok w wr) (fun _ _ => 0)
      case atStart => exact ⟨rfl, HK.out⟩
      case round =>
        obtain ⟨rfl, hok⟩ := hrel
        have HK := Lib.hid hok
        clear hok
        go_wp2_with fail
        go_loopw [11] (fun i wr => i = .int .i64 0 ∧ Ok w wr) (fun _ _ => 0)
        case atStart => exact ⟨rfl, HK.out⟩
        case round =>
          obtain ⟨rfl, hok⟩ := hrel
          have HK := Lib.hid hok
          clear hok
          go_wp2_with fail
          go_loopw [14] (fun i wr => i = .int .i64 0 ∧ Ok w wr) (fun _ _ => 0)
          case atStart => exact ⟨rfl, HK.out⟩
          case round =>
            obtain ⟨rfl, hok⟩ := hrel
            have HK := Lib.hid hok
            clear hok
            go_wp2_with fail
            go_ret
            exact ⟨rfl, HK.out⟩
set_option maxRecDepth 100000 in
set_option maxHeartbeats 1000000 in
theorem flatActs_nil (w : World) : Calls Try.prog 151 #[.slice none 0 0] w (Ret w (.bool true)) := by
  have hmk : ∀ w : World, (Instr.makeSlice 138 (.int .i64 0) (.int .i64 0)).run Try.prog w = .ok (.slice (some ⟨w.heap.size, 0, none⟩) 0 0) (w.alloc (.cells #[] 236)) := fun _ => by kernel_rfl
  go_enter Try.func151, Try.ntmps151
  go_wp2_with fail
  go_loopw [3] (fun i wr => i = .int .i64 0 ∧ Ok w wr) (fun _ _ => 0)
  case atStart => exact ⟨rfl, Ok.refl _⟩
  case round =>
    obtain ⟨rfl, hok⟩ := hrel
    have HK := Lib.hid hok
    clear hok
    go_wp2_with fail
    go_loopw [6] (fun i wr => i = .int .i64 0 ∧ Ok w wr) (fun _ _ => 0)
    case atStart => exact ⟨rfl, Ok.alloc HK.out _⟩
    case round =>
      obtain ⟨rfl, hok⟩ := hrel
      have HK := Lib.hid hok
      clear hok
      go_wp2_with fail
      go_loopw [9] (fun i wr => i = .int .i64 0 ∧ Ok w wr) (fun _ _ => 0)
      case atStart => exact ⟨rfl, HK.out⟩
      case round =>
        obtain ⟨rfl, hok⟩ := hrel
        have HK := Lib.hid hok
        clear hok
        go_wp2_with fail
        go_loopw [11] (fun i wr => i = .int .i64 0 ∧ Ok w wr) (fun _ _ => 0)
        case atStart => exact ⟨rfl, HK.out⟩
        case round =>
          obtain ⟨rfl, hok⟩ := hrel
          have HK := Lib.hid hok
          clear hok
          go_wp2_with fail
          go_loopw [14] (fun i wr => i = .int .i64 0 ∧ Ok w wr) (fun _ _ => 0)
          case atStart => exact ⟨rfl, HK.out⟩
          case round =>
            obtain ⟨rfl, hok⟩ := hrel
            have HK := Lib.hid hok
            clear hok
            go_wp2_with fail
            go_ret
            exact ⟨rfl, HK.out⟩
set_option maxRecDepth 100000 in
set_option maxHeartbeats 1000000 in
theorem flatReads_nil (w : World) : Calls Try.prog 152 #[.slice none 0 0] w (Ret w (.bool true)) := by
  have hmk : ∀ w : World, (Instr.makeSlice 139 (.int .i64 0) (.int .i64 0)).run Try.prog w = .ok (.slice (some ⟨w.heap.size, 0, none⟩) 0 0) (w.alloc (.cells #[] 241)) := fun _ => by kernel_rfl
  go_enter Try.func152, Try.ntmps152
  go_wp2_with fail
  go_loopw [3] (fun i wr => i = .int .i64 0 ∧ Ok w wr) (fun _ _ => 0)
  case atStart => exact ⟨rfl, Ok.refl _⟩
  case round =>
    obtain ⟨rfl, hok⟩ := hrel
    have HK := Lib.hid hok
    clear hok
    go_wp2_with fail
    go_loopw [6] (fun i wr => i = .int .i64 0 ∧ Ok w wr) (fun _ _ => 0)
    case atStart => exact ⟨rfl, Ok.alloc HK.out _⟩
    case round =>
      obtain ⟨rfl, hok⟩ := hrel
      have HK := Lib.hid hok
      clear hok
      go_wp2_with fail
      go_loopw [9] (fun i wr => i = .int .i64 0 ∧ Ok w wr) (fun _ _ => 0)
      case atStart => exact ⟨rfl, HK.out⟩
      case round =>
        obtain ⟨rfl, hok⟩ := hrel
        have HK := Lib.hid hok
        clear hok
        go_wp2_with fail
        go_loopw [11] (fun i wr => i = .int .i64 0 ∧ Ok w wr) (fun _ _ => 0)
        case atStart => exact ⟨rfl, HK.out⟩
        case round =>
          obtain ⟨rfl, hok⟩ := hrel
          have HK := Lib.hid hok
          clear hok
          go_wp2_with fail
          go_loopw [14] (fun i wr => i = .int .i64 0 ∧ Ok w wr) (fun _ _ => 0)
          case atStart => exact ⟨rfl, HK.out⟩
          case round =>
            obtain ⟨rfl, hok⟩ := hrel
            have HK := Lib.hid hok
            clear hok
            go_wp2_with fail
            go_ret
            exact ⟨rfl, HK.out⟩
set_option maxRecDepth 100000 in
set_option maxHeartbeats 1000000 in
theorem flatLines_nil (w : World) : Calls Try.prog 153 #[.slice none 0 0] w (Ret w (.bool true)) := by
  have hmk : ∀ w : World, (Instr.makeSlice 140 (.int .i64 0) (.int .i64 0)).run Try.prog w = .ok (.slice (some ⟨w.heap.size, 0, none⟩) 0 0) (w.alloc (.cells #[] 245)) := fun _ => by kernel_rfl
  go_enter Try.func153, Try.ntmps153
  go_wp2_with fail
  go_loopw [3] (fun i wr => i = .int .i64 0 ∧ Ok w wr) (fun _ _ => 0)
  case atStart => exact ⟨rfl, Ok.refl _⟩
  case round =>
    obtain ⟨rfl, hok⟩ := hrel
    have HK := Lib.hid hok
    clear hok
    go_wp2_with fail
    go_loopw [6] (fun i wr => i = .int .i64 0 ∧ Ok w wr) (fun _ _ => 0)
    case atStart => exact ⟨rfl, Ok.alloc HK.out _⟩
    case round =>
      obtain ⟨rfl, hok⟩ := hrel
      have HK := Lib.hid hok
      clear hok
      go_wp2_with fail
      go_loopw [9] (fun i wr => i = .int .i64 0 ∧ Ok w wr) (fun _ _ => 0)
      case atStart => exact ⟨rfl, HK.out⟩
      case round =>
        obtain ⟨rfl, hok⟩ := hrel
        have HK := Lib.hid hok
        clear hok
        go_wp2_with fail
        go_loopw [11] (fun i wr => i = .int .i64 0 ∧ Ok w wr) (fun _ _ => 0)
        case atStart => exact ⟨rfl, HK.out⟩
        case round =>
          obtain ⟨rfl, hok⟩ := hrel
          have HK := Lib.hid hok
          clear hok
          go_wp2_with fail
          go_loopw [14] (fun i wr => i = .int .i64 0 ∧ Ok w wr) (fun _ _ => 0)
          case atStart => exact ⟨rfl, HK.out⟩
          case round =>
            obtain ⟨rfl, hok⟩ := hrel
            have HK := Lib.hid hok
            clear hok
            go_wp2_with fail
            go_ret
            exact ⟨rfl, HK.out⟩
set_option maxRecDepth 100000 in
set_option maxHeartbeats 1000000 in
theorem flatHolds_nil (w : World) : Calls Try.prog 154 #[.slice none 0 0] w (Ret w (.bool true)) := by
  have hmk : ∀ w : World, (Instr.makeSlice 141 (.int .i64 0) (.int .i64 0)).run Try.prog w = .ok (.slice (some ⟨w.heap.size, 0, none⟩) 0 0) (w.alloc (.cells #[] 249)) := fun _ => by kernel_rfl
  go_enter Try.func154, Try.ntmps154
  go_wp2_with fail
  go_loopw [3] (fun i wr => i = .int .i64 0 ∧ Ok w wr) (fun _ _ => 0)
  case atStart => exact ⟨rfl, Ok.refl _⟩
  case round =>
    obtain ⟨rfl, hok⟩ := hrel
    have HK := Lib.hid hok
    clear hok
    go_wp2_with fail
    go_loopw [6] (fun i wr => i = .int .i64 0 ∧ Ok w wr) (fun _ _ => 0)
    case atStart => exact ⟨rfl, Ok.alloc HK.out _⟩
    case round =>
      obtain ⟨rfl, hok⟩ := hrel
      have HK := Lib.hid hok
      clear hok
      go_wp2_with fail
      go_loopw [9] (fun i wr => i = .int .i64 0 ∧ Ok w wr) (fun _ _ => 0)
      case atStart => exact ⟨rfl, HK.out⟩
      case round =>
        obtain ⟨rfl, hok⟩ := hrel
        have HK := Lib.hid hok
        clear hok
        go_wp2_with fail
        go_loopw [11] (fun i wr => i = .int .i64 0 ∧ Ok w wr) (fun _ _ => 0)
        case atStart => exact ⟨rfl, HK.out⟩
        case round =>
          obtain ⟨rfl, hok⟩ := hrel
          have HK := Lib.hid hok
          clear hok
          go_wp2_with fail
          go_loopw [14] (fun i wr => i = .int .i64 0 ∧ Ok w wr) (fun _ _ => 0)
          case atStart => exact ⟨rfl, HK.out⟩
          case round =>
            obtain ⟨rfl, hok⟩ := hrel
            have HK := Lib.hid hok
            clear hok
            go_wp2_with fail
            go_ret
            exact ⟨rfl, HK.out⟩
set_option maxRecDepth 100000 in
set_option maxHeartbeats 1000000 in
theorem flatConfigs_nil (w : World) : Calls Try.prog 155 #[.slice none 0 0] w (Ret w (.bool true)) := by
  have hmk : ∀ w : World, (Instr.makeSlice 142 (.int .i64 0) (.int .i64 0)).run Try.prog w = .ok (.slice (some ⟨w.heap.size, 0, none⟩) 0 0) (w.alloc (.cells #[] 89)) := fun _ => by kernel_rfl
  go_enter Try.func155, Try.ntmps155
  go_wp2_with fail
  go_loopw [3] (fun i wr => i = .int .i64 0 ∧ Ok w wr) (fun _ _ => 0)
  case atStart => exact ⟨rfl, Ok.refl _⟩
  case round =>
    obtain ⟨rfl, hok⟩ := hrel
    have HK := Lib.hid hok
    clear hok
    go_wp2_with fail
    go_loopw [6] (fun i wr => i = .int .i64 0 ∧ Ok w wr) (fun _ _ => 0)
    case atStart => exact ⟨rfl, Ok.alloc HK.out _⟩
    case round =>
      obtain ⟨rfl, hok⟩ := hrel
      have HK := Lib.hid hok
      clear hok
      go_wp2_with fail
      go_loopw [9] (fun i wr => i = .int .i64 0 ∧ Ok w wr) (fun _ _ => 0)
      case atStart => exact ⟨rfl, HK.out⟩
      case round =>
        obtain ⟨rfl, hok⟩ := hrel
        have HK := Lib.hid hok
        clear hok
        go_wp2_with fail
        go_loopw [11] (fun i wr => i = .int .i64 0 ∧ Ok w wr) (fun _ _ => 0)
        case atStart => exact ⟨rfl, HK.out⟩
        case round =>
          obtain ⟨rfl, hok⟩ := hrel
          have HK := Lib.hid hok
          clear hok
          go_wp2_with fail
          go_loopw [14] (fun i wr => i = .int .i64 0 ∧ Ok w wr) (fun _ _ => 0)
          case atStart => exact ⟨rfl, HK.out⟩
          case round =>
            obtain ⟨rfl, hok⟩ := hrel
            have HK := Lib.hid hok
            clear hok
            go_wp2_with fail
            go_ret
            exact ⟨rfl, HK.out⟩
set_option maxRecDepth 100000 in
set_option maxHeartbeats 1000000 in
theorem flatEntries_nil (w : World) : Calls Try.prog 156 #[.slice none 0 0] w (Ret w (.bool true)) := by
  have hmk : ∀ w : World, (Instr.makeSlice 143 (.int .i64 0) (.int .i64 0)).run Try.prog w = .ok (.slice (some ⟨w.heap.size, 0, none⟩) 0 0) (w.alloc (.cells #[] 91)) := fun _ => by kernel_rfl
  go_enter Try.func156, Try.ntmps156
  go_wp2_with fail
  go_loopw [3] (fun i wr => i = .int .i64 0 ∧ Ok w wr) (fun _ _ => 0)
  case atStart => exact ⟨rfl, Ok.refl _⟩
  case round =>
    obtain ⟨rfl, hok⟩ := hrel
    have HK := Lib.hid hok
    clear hok
    go_wp2_with fail
    go_loopw [6] (fun i wr => i = .int .i64 0 ∧ Ok w wr) (fun _ _ => 0)
    case atStart => exact ⟨rfl, Ok.alloc HK.out _⟩
    case round =>
      obtain ⟨rfl, hok⟩ := hrel
      have HK := Lib.hid hok
      clear hok
      go_wp2_with fail
      go_loopw [9] (fun i wr => i = .int .i64 0 ∧ Ok w wr) (fun _ _ => 0)
      case atStart => exact ⟨rfl, HK.out⟩
      case round =>
        obtain ⟨rfl, hok⟩ := hrel
        have HK := Lib.hid hok
        clear hok
        go_wp2_with fail
        go_loopw [11] (fun i wr => i = .int .i64 0 ∧ Ok w wr) (fun _ _ => 0)
        case atStart => exact ⟨rfl, HK.out⟩
        case round =>
          obtain ⟨rfl, hok⟩ := hrel
          have HK := Lib.hid hok
          clear hok
          go_wp2_with fail
          go_loopw [14] (fun i wr => i = .int .i64 0 ∧ Ok w wr) (fun _ _ => 0)
          case atStart => exact ⟨rfl, HK.out⟩
          case round =>
            obtain ⟨rfl, hok⟩ := hrel
            have HK := Lib.hid hok
            clear hok
            go_wp2_with fail
            go_ret
            exact ⟨rfl, HK.out⟩
set_option maxRecDepth 100000 in
set_option maxHeartbeats 1000000 in
theorem flatBases_nil (w : World) : Calls Try.prog 157 #[.slice none 0 0] w (Ret w (.bool true)) := by
  have hmk : ∀ w : World, (Instr.makeSlice 144 (.int .i64 0) (.int .i64 0)).run Try.prog w = .ok (.slice (some ⟨w.heap.size, 0, none⟩) 0 0) (w.alloc (.cells #[] 255)) := fun _ => by kernel_rfl
  go_enter Try.func157, Try.ntmps157
  go_wp2_with fail
  go_loopw [3] (fun i wr => i = .int .i64 0 ∧ Ok w wr) (fun _ _ => 0)
  case atStart => exact ⟨rfl, Ok.refl _⟩
  case round =>
    obtain ⟨rfl, hok⟩ := hrel
    have HK := Lib.hid hok
    clear hok
    go_wp2_with fail
    go_loopw [6] (fun i wr => i = .int .i64 0 ∧ Ok w wr) (fun _ _ => 0)
    case atStart => exact ⟨rfl, Ok.alloc HK.out _⟩
    case round =>
      obtain ⟨rfl, hok⟩ := hrel
      have HK := Lib.hid hok
      clear hok
      go_wp2_with fail
      go_loopw [9] (fun i wr => i = .int .i64 0 ∧ Ok w wr) (fun _ _ => 0)
      case atStart => exact ⟨rfl, HK.out⟩
      case round =>
        obtain ⟨rfl, hok⟩ := hrel
        have HK := Lib.hid hok
        clear hok
        go_wp2_with fail
        go_loopw [11] (fun i wr => i = .int .i64 0 ∧ Ok w wr) (fun _ _ => 0)
        case atStart => exact ⟨rfl, HK.out⟩
        case round =>
          obtain ⟨rfl, hok⟩ := hrel
          have HK := Lib.hid hok
          clear hok
          go_wp2_with fail
          go_loopw [14] (fun i wr => i = .int .i64 0 ∧ Ok w wr) (fun _ _ => 0)
          case atStart => exact ⟨rfl, HK.out⟩
          case round =>
            obtain ⟨rfl, hok⟩ := hrel
            have HK := Lib.hid hok
            clear hok
            go_wp2_with fail
            go_ret
            exact ⟨rfl, HK.out⟩
set_option maxRecDepth 100000 in
set_option maxHeartbeats 1000000 in
theorem flatImages_nil (w : World) : Calls Try.prog 158 #[.slice none 0 0] w (Ret w (.bool true)) := by
  have hmk : ∀ w : World, (Instr.makeSlice 145 (.int .i64 0) (.int .i64 0)).run Try.prog w = .ok (.slice (some ⟨w.heap.size, 0, none⟩) 0 0) (w.alloc (.cells #[] 257)) := fun _ => by kernel_rfl
  go_enter Try.func158, Try.ntmps158
  go_wp2_with fail
  go_loopw [3] (fun i wr => i = .int .i64 0 ∧ Ok w wr) (fun _ _ => 0)
  case atStart => exact ⟨rfl, Ok.refl _⟩
  case round =>
    obtain ⟨rfl, hok⟩ := hrel
    have HK := Lib.hid hok
    clear hok
    go_wp2_with fail
    go_loopw [6] (fun i wr => i = .int .i64 0 ∧ Ok w wr) (fun _ _ => 0)
    case atStart => exact ⟨rfl, Ok.alloc HK.out _⟩
    case round =>
      obtain ⟨rfl, hok⟩ := hrel
      have HK := Lib.hid hok
      clear hok
      go_wp2_with fail
      go_loopw [9] (fun i wr => i = .int .i64 0 ∧ Ok w wr) (fun _ _ => 0)
      case atStart => exact ⟨rfl, HK.out⟩
      case round =>
        obtain ⟨rfl, hok⟩ := hrel
        have HK := Lib.hid hok
        clear hok
        go_wp2_with fail
        go_loopw [11] (fun i wr => i = .int .i64 0 ∧ Ok w wr) (fun _ _ => 0)
        case atStart => exact ⟨rfl, HK.out⟩
        case round =>
          obtain ⟨rfl, hok⟩ := hrel
          have HK := Lib.hid hok
          clear hok
          go_wp2_with fail
          go_loopw [14] (fun i wr => i = .int .i64 0 ∧ Ok w wr) (fun _ _ => 0)
          case atStart => exact ⟨rfl, HK.out⟩
          case round =>
            obtain ⟨rfl, hok⟩ := hrel
            have HK := Lib.hid hok
            clear hok
            go_wp2_with fail
            go_ret
            exact ⟨rfl, HK.out⟩
set_option maxRecDepth 100000 in
set_option maxHeartbeats 1000000 in
theorem flatLetters_nil (w : World) : Calls Try.prog 159 #[.slice none 0 0] w (Ret w (.bool true)) := by
  have hmk : ∀ w : World, (Instr.makeSlice 146 (.int .i64 0) (.int .i64 0)).run Try.prog w = .ok (.slice (some ⟨w.heap.size, 0, none⟩) 0 0) (w.alloc (.cells #[] 99)) := fun _ => by kernel_rfl
  go_enter Try.func159, Try.ntmps159
  go_wp2_with fail
  go_loopw [3] (fun i wr => i = .int .i64 0 ∧ Ok w wr) (fun _ _ => 0)
  case atStart => exact ⟨rfl, Ok.refl _⟩
  case round =>
    obtain ⟨rfl, hok⟩ := hrel
    have HK := Lib.hid hok
    clear hok
    go_wp2_with fail
    go_loopw [6] (fun i wr => i = .int .i64 0 ∧ Ok w wr) (fun _ _ => 0)
    case atStart => exact ⟨rfl, Ok.alloc HK.out _⟩
    case round =>
      obtain ⟨rfl, hok⟩ := hrel
      have HK := Lib.hid hok
      clear hok
      go_wp2_with fail
      go_loopw [9] (fun i wr => i = .int .i64 0 ∧ Ok w wr) (fun _ _ => 0)
      case atStart => exact ⟨rfl, HK.out⟩
      case round =>
        obtain ⟨rfl, hok⟩ := hrel
        have HK := Lib.hid hok
        clear hok
        go_wp2_with fail
        go_loopw [11] (fun i wr => i = .int .i64 0 ∧ Ok w wr) (fun _ _ => 0)
        case atStart => exact ⟨rfl, HK.out⟩
        case round =>
          obtain ⟨rfl, hok⟩ := hrel
          have HK := Lib.hid hok
          clear hok
          go_wp2_with fail
          go_loopw [14] (fun i wr => i = .int .i64 0 ∧ Ok w wr) (fun _ _ => 0)
          case atStart => exact ⟨rfl, HK.out⟩
          case round =>
            obtain ⟨rfl, hok⟩ := hrel
            have HK := Lib.hid hok
            clear hok
            go_wp2_with fail
            go_ret
            exact ⟨rfl, HK.out⟩
set_option maxRecDepth 100000 in
set_option maxHeartbeats 1000000 in
theorem flatStretches_nil (w : World) : Calls Try.prog 160 #[.slice none 0 0] w (Ret w (.bool true)) := by
  have hmk : ∀ w : World, (Instr.makeSlice 147 (.int .i64 0) (.int .i64 0)).run Try.prog w = .ok (.slice (some ⟨w.heap.size, 0, none⟩) 0 0) (w.alloc (.cells #[] 260)) := fun _ => by kernel_rfl
  go_enter Try.func160, Try.ntmps160
  go_wp2_with fail
  go_loopw [3] (fun i wr => i = .int .i64 0 ∧ Ok w wr) (fun _ _ => 0)
  case atStart => exact ⟨rfl, Ok.refl _⟩
  case round =>
    obtain ⟨rfl, hok⟩ := hrel
    have HK := Lib.hid hok
    clear hok
    go_wp2_with fail
    go_loopw [6] (fun i wr => i = .int .i64 0 ∧ Ok w wr) (fun _ _ => 0)
    case atStart => exact ⟨rfl, Ok.alloc HK.out _⟩
    case round =>
      obtain ⟨rfl, hok⟩ := hrel
      have HK := Lib.hid hok
      clear hok
      go_wp2_with fail
      go_loopw [9] (fun i wr => i = .int .i64 0 ∧ Ok w wr) (fun _ _ => 0)
      case atStart => exact ⟨rfl, HK.out⟩
      case round =>
        obtain ⟨rfl, hok⟩ := hrel
        have HK := Lib.hid hok
        clear hok
        go_wp2_with fail
        go_loopw [11] (fun i wr => i = .int .i64 0 ∧ Ok w wr) (fun _ _ => 0)
        case atStart => exact ⟨rfl, HK.out⟩
        case round =>
          obtain ⟨rfl, hok⟩ := hrel
          have HK := Lib.hid hok
          clear hok
          go_wp2_with fail
          go_loopw [14] (fun i wr => i = .int .i64 0 ∧ Ok w wr) (fun _ _ => 0)
          case atStart => exact ⟨rfl, HK.out⟩
          case round =>
            obtain ⟨rfl, hok⟩ := hrel
            have HK := Lib.hid hok
            clear hok
            go_wp2_with fail
            go_ret
            exact ⟨rfl, HK.out⟩
set_option maxRecDepth 100000 in
set_option maxHeartbeats 1000000 in
theorem flatPeers_nil (w : World) : Calls Try.prog 161 #[.slice none 0 0] w (Ret w (.bool true)) := by
  have hmk : ∀ w : World, (Instr.makeSlice 148 (.int .i64 0) (.int .i64 0)).run Try.prog w = .ok (.slice (some ⟨w.heap.size, 0, none⟩) 0 0) (w.alloc (.cells #[] 265)) := fun _ => by kernel_rfl
  go_enter Try.func161, Try.ntmps161
  go_wp2_with fail
  go_loopw [3] (fun i wr => i = .int .i64 0 ∧ Ok w wr) (fun _ _ => 0)
  case atStart => exact ⟨rfl, Ok.refl _⟩
  case round =>
    obtain ⟨rfl, hok⟩ := hrel
    have HK := Lib.hid hok
    clear hok
    go_wp2_with fail
    go_loopw [6] (fun i wr => i = .int .i64 0 ∧ Ok w wr) (fun _ _ => 0)
    case atStart => exact ⟨rfl, Ok.alloc HK.out _⟩
    case round =>
      obtain ⟨rfl, hok⟩ := hrel
      have HK := Lib.hid hok
      clear hok
      go_wp2_with fail
      go_loopw [9] (fun i wr => i = .int .i64 0 ∧ Ok w wr) (fun _ _ => 0)
      case atStart => exact ⟨rfl, HK.out⟩
      case round =>
        obtain ⟨rfl, hok⟩ := hrel
        have HK := Lib.hid hok
        clear hok
        go_wp2_with fail
        go_loopw [11] (fun i wr => i = .int .i64 0 ∧ Ok w wr) (fun _ _ => 0)
        case atStart => exact ⟨rfl, HK.out⟩
        case round =>
          obtain ⟨rfl, hok⟩ := hrel
          have HK := Lib.hid hok
          clear hok
          go_wp2_with fail
          go_loopw [14] (fun i wr => i = .int .i64 0 ∧ Ok w wr) (fun _ _ => 0)
          case atStart => exact ⟨rfl, HK.out⟩
          case round =>
            obtain ⟨rfl, hok⟩ := hrel
            have HK := Lib.hid hok
            clear hok
            go_wp2_with fail
            go_ret
            exact ⟨rfl, HK.out⟩
end Go.Proofs.Ytolfdncmlfnbdaa
