/- Lists of nothing lie apart: of each kind. -/
import Derived.Test.YtpebnlddmjfomaaDoorFa
import Derived.Handy
namespace Go.Proofs.YtpebnlddmjfomaaDoor
open Go.RowKit

set_option maxRecDepth 100000 in
set_option maxHeartbeats 1000000 in
theorem flatLimbs_nil (w : World) : Calls Tryd.prog 36 #[.slice none 0 0] w (Ret w (.bool true)) := by
  have hmk : ∀ w : World, (Instr.makeSlice 66 (.int .i64 0) (.int .i64 0)).run Tryd.prog w = .ok (.slice (some ⟨w.heap.size, 0, none⟩) 0 0) (w.alloc (.cells #[] 127)) := fun _ => by kernel_rfl
  go_enter Tryd.func36, Tryd.ntmps36
  go_wp2_with fail
  go_loopw [3] (fun i wr => i = .int .i64 0 ∧ Ok w wr) (fun _ _ => 0)
  case atStart => exact ⟨rfl, Ok.refl _⟩
  case round =>
    obtain ⟨rfl, hok⟩ := hrel
    have HK := Lib.hid hok
    clear hok
    go_wp2_with fail
    go_loopw [6] (fun i wr => i = .int .i64 0 ∧ Ok w wr) (fun _ _ => 0)
    case atStart => exact ⟨rfl, Ok.alloc HK.out _⟩
    case round =>
      obtain ⟨rfl, hok⟩ := hrel
      have HK := Lib.hid hok
      clear hok
      go_wp2_with fail
      go_loopw [9] (fun i wr => i = .int .i64 0 ∧ Ok w wr) (fun _ _ => 0)
      case atStart => exact ⟨rfl, HK.out⟩
      case round =>
        obtain ⟨rfl, hok⟩ := hrel
        have HK := Lib.hid hok
        clear hok
        go_wp2_with fail
        go_loopw [11] (fun i wr => i = .int .i64 0 ∧ Ok w wr) (fun _ _ => 0)
        case atStart => exact ⟨rfl, HK.out⟩
        case round =>
          obtain ⟨rfl, hok⟩ := hrel
          have HK := Lib.hid hok
          clear hok
          go_wp2_with fail
          go_loopw [14] (fun i wr => i = .int .i64 0 ∧ Ok w wr) (fun _ _ => 0)
          case atStart => exact ⟨rfl, HK.out⟩
          case round =>
            obtain ⟨rfl, hok⟩ := hrel
            have HK := Lib.hid hok
            clear hok
            go_wp2_with fail
            go_ret
            exact ⟨rfl, HK.out⟩
set_option maxRecDepth 100000 in
set_option maxHeartbeats 1000000 in
theorem flatWords_nil (w : World) : Calls Tryd.prog 37 #[.slice none 0 0] w (Ret w (.bool true)) := by
  have hmk : ∀ w : World, (Instr.makeSlice 67 (.int .i64 0) (.int .i64 0)).run Tryd.prog w = .ok (.slice (some ⟨w.heap.size, 0, none⟩) 0 0) (w.alloc (.cells #[] 128)) := fun _ => by kernel_rfl
  go_enter Tryd.func37, Tryd.ntmps37
  go_wp2_with fail
  go_loopw [3] (fun i wr => i = .int .i64 0 ∧ Ok w wr) (fun _ _ => 0)
  case atStart => exact ⟨rfl, Ok.refl _⟩
  case round =>
    obtain ⟨rfl, hok⟩ := hrel
    have HK := Lib.hid hok
    clear hok
    go_wp2_with fail
    go_loopw [6] (fun i wr => i = .int .i64 0 ∧ Ok w wr) (fun _ _ => 0)
    case atStart => exact ⟨rfl, Ok.alloc HK.out _⟩
    case round =>
      obtain ⟨rfl, hok⟩ := hrel
      have HK := Lib.hid hok
      clear hok
      go_wp2_with fail
      go_loopw [9] (fun i wr => i = .int .i64 0 ∧ Ok w wr) (fun _ _ => 0)
      case atStart => exact ⟨rfl, HK.out⟩
      case round =>
        obtain ⟨rfl, hok⟩ := hrel
        have HK := Lib.hid hok
        clear hok
        go_wp2_with fail
        go_loopw [11] (fun i wr => i = .int .i64 0 ∧ Ok w wr) (fun _ _ => 0)
        case atStart => exact ⟨rfl, HK.out⟩
        case round =>
          obtain ⟨rfl, hok⟩ := hrel
          have HK := Lib.hid hok
          clear hok
          go_wp2_with fail
          go_loopw [14] (fun i wr => i = .int .i64 0 ∧ Ok w wr) (fun _ _ => 0)
          case atStart => exact ⟨rfl, HK.out⟩
          case round =>
            obtain ⟨rfl, hok⟩ := hrel
            have HK := Lib.hid hok
            clear hok
            go_wp2_with fail
            go_ret
            exact ⟨rfl, HK.out⟩
set_option maxRecDepth 100000 in
set_option maxHeartbeats 1000000 in
theorem flatInts_nil (w : World) : Calls Tryd.prog 38 #[.slice none 0 0] w (Ret w (.bool true)) := by
  have hmk : ∀ w : World, (Instr.makeSlice 68 (.int .i64 0) (.int .i64 0)).run Tryd.prog w = .ok (.slice (some ⟨w.heap.size, 0, none⟩) 0 0) (w.alloc (.cells #[] 44)) := fun _ => by kernel_rfl
  go_enter Tryd.func38, Tryd.ntmps38
  go_wp2_with fail
  go_loopw [3] (fun i wr => i = .int .i64 0 ∧ Ok w wr) (fun _ _ => 0)
  case atStart => exact ⟨rfl, Ok.refl _⟩
  case round =>
    obtain ⟨rfl, hok⟩ := hrel
    have HK := Lib.hid hok
    clear hok
    go_wp2_with fail
    go_loopw [6] (fun i wr => i = .int .i64 0 ∧ Ok w wr) (fun _ _ => 0)
    case atStart => exact ⟨rfl, Ok.alloc HK.out _⟩
    case round =>
      obtain ⟨rfl, hok⟩ := hrel
      have HK := Lib.hid hok
      clear hok
      go_wp2_with fail
      go_loopw [9] (fun i wr => i = .int .i64 0 ∧ Ok w wr) (fun _ _ => 0)
      case atStart => exact ⟨rfl, HK.out⟩
      case round =>
        obtain ⟨rfl, hok⟩ := hrel
        have HK := Lib.hid hok
        clear hok
        go_wp2_with fail
        go_loopw [11] (fun i wr => i = .int .i64 0 ∧ Ok w wr) (fun _ _ => 0)
        case atStart => exact ⟨rfl, HK.out⟩
        case round =>
          obtain ⟨rfl, hok⟩ := hrel
          have HK := Lib.hid hok
          clear hok
          go_wp2_with fail
          go_loopw [14] (fun i wr => i = .int .i64 0 ∧ Ok w wr) (fun _ _ => 0)
          case atStart => exact ⟨rfl, HK.out⟩
          case round =>
            obtain ⟨rfl, hok⟩ := hrel
            have HK := Lib.hid hok
            clear hok
            go_wp2_with fail
            go_ret
            exact ⟨rfl, HK.out⟩
set_option maxRecDepth 100000 in
set_option maxHeartbeats 1000000 in
theorem flatLongs_nil (w : World) : Calls Tryd.prog 39 #[.slice none 0 0] w (Ret w (.bool true)) := by
  have hmk : ∀ w : World, (Instr.makeSlice 69 (.int .i64 0) (.int .i64 0)).run Tryd.prog w = .ok (.slice (some ⟨w.heap.size, 0, none⟩) 0 0) (w.alloc (.cells #[] 129)) := fun _ => by kernel_rfl
  go_enter Tryd.func39, Tryd.ntmps39
  go_wp2_with fail
  go_loopw [3] (fun i wr => i = .int .i64 0 ∧ Ok w wr) (fun _ _ => 0)
  case atStart => exact ⟨rfl, Ok.refl _⟩
  case round =>
    obtain ⟨rfl, hok⟩ := hrel
    have HK := Lib.hid hok
    clear hok
    go_wp2_with fail
    go_loopw [6] (fun i wr => i = .int .i64 0 ∧ Ok w wr) (fun _ _ => 0)
    case atStart => exact ⟨rfl, Ok.alloc HK.out _⟩
    case round =>
      obtain ⟨rfl, hok⟩ := hrel
      have HK := Lib.hid hok
      clear hok
      go_wp2_with fail
      go_loopw [9] (fun i wr => i = .int .i64 0 ∧ Ok w wr) (fun _ _ => 0)
      case atStart => exact ⟨rfl, HK.out⟩
      case round =>
        obtain ⟨rfl, hok⟩ := hrel
        have HK := Lib.hid hok
        clear hok
        go_wp2_with fail
        go_loopw [11] (fun i wr => i = .int .i64 0 ∧ Ok w wr) (fun _ _ => 0)
        case atStart => exact ⟨rfl, HK.out⟩
        case round =>
          obtain ⟨rfl, hok⟩ := hrel
          have HK := Lib.hid hok
          clear hok
          go_wp2_with fail
          go_loopw [14] (fun i wr => i = .int .i64 0 ∧ Ok w wr) (fun _ _ => 0)
          case atStart => exact ⟨rfl, HK.out⟩
          case round =>
            obtain ⟨rfl, hok⟩ := hrel
            have HK := Lib.hid hok
            clear hok
            go_wp2_with fail
            go_ret
            exact ⟨rfl, HK.out⟩
set_option maxRecDepth 100000 in
set_option maxHeartbeats 1000000 in
theorem flatTexts_nil (w : World) : Calls Tryd.prog 40 #[.slice none 0 0] w (Ret w (.bool true)) := by
  have hmk : ∀ w : World, (Instr.makeSlice 70 (.int .i64 0) (.int .i64 0)).run Tryd.prog w = .ok (.slice (some ⟨w.heap.size, 0, none⟩) 0 0) (w.alloc (.cells #[] 130)) := fun _ => by kernel_rfl
  go_enter Tryd.func40, Tryd.ntmps40
  go_wp2_with fail
  go_loopw [3] (fun i wr => i = .int .i64 0 ∧ Ok w wr) (fun _ _ => 0)
  case atStart => exact ⟨rfl, Ok.refl _⟩
  case round =>
    obtain ⟨rfl, hok⟩ := hrel
    have HK := Lib.hid hok
    clear hok
    go_wp2_with fail
    go_loopw [6] (fun i wr => i = .int .i64 0 ∧ Ok w wr) (fun _ _ => 0)
    case atStart => exact ⟨rfl, Ok.alloc HK.out _⟩
    case round =>
      obtain ⟨rfl, hok⟩ := hrel
      have HK := Lib.hid hok
      clear hok
      go_wp2_with fail
      go_loopw [9] (fun i wr => i = .int .i64 0 ∧ Ok w wr) (fun _ _ => 0)
      case atStart => exact ⟨rfl, HK.out⟩
      case round =>
        obtain ⟨rfl, hok⟩ := hrel
        have HK := Lib.hid hok
        clear hok
        go_wp2_with fail
        go_loopw [11] (fun i wr => i = .int .i64 0 ∧ Ok w wr) (fun _ _ => 0)
        case atStart => exact ⟨rfl, HK.out⟩
        case round =>
          obtain ⟨rfl, hok⟩ := hrel
          have HK := Lib.hid hok
          clear hok
          go_wp2_with fail
          go_loopw [14] (fun i wr => i = .int .i64 0 ∧ Ok w wr) (fun _ _ => 0)
          case atStart => exact ⟨rfl, HK.out⟩
          case round =>
            obtain ⟨rfl, hok⟩ := hrel
            have HK := Lib.hid hok
            clear hok
            go_wp2_with fail
            go_ret
            exact ⟨rfl, HK.out⟩
set_option maxRecDepth 100000 in
set_option maxHeartbeats 1000000 in
theorem flatTruths_nil (w : World) : Calls Tryd.prog 42 #[.slice none 0 0] w (Ret w (.bool true)) := by
  have hmk : ∀ w : World, (Instr.makeSlice 71 (.int .i64 0) (.int .i64 0)).run Tryd.prog w = .ok (.slice (some ⟨w.heap.size, 0, none⟩) 0 0) (w.alloc (.cells #[] 132)) := fun _ => by kernel_rfl
  go_enter Tryd.func42, Tryd.ntmps42
  go_wp2_with fail
  go_loopw [3] (fun i wr => i = .int .i64 0 ∧ Ok w wr) (fun _ _ => 0)
  case atStart => exact ⟨rfl, Ok.refl _⟩
  case round =>
    obtain ⟨rfl, hok⟩ := hrel
    have HK := Lib.hid hok
    clear hok
    go_wp2_with fail
    go_loopw [6] (fun i wr => i = .int .i64 0 ∧ Ok w wr) (fun _ _ => 0)
    case atStart => exact ⟨rfl, Ok.alloc HK.out _⟩
    case round =>
      obtain ⟨rfl, hok⟩ := hrel
      have HK := Lib.hid hok
      clear hok
      go_wp2_with fail
      go_loopw [9] (fun i wr => i = .int .i64 0 ∧ Ok w wr) (fun _ _ => 0)
      case atStart => exact ⟨rfl, HK.out⟩
      case round =>
        obtain ⟨rfl, hok⟩ := hrel
        have HK := Lib.hid hok
        clear hok
        go_wp2_with fail
        go_loopw [11] (fun i wr => i = .int .i64 0 ∧ Ok w wr) (fun _ _ => 0)
        case atStart => exact ⟨rfl, HK.out⟩
        case round =>
          obtain ⟨rfl, hok⟩ := hrel
          have HK := Lib.hid hok
          clear hok
          go_wp2_with fail
          go_loopw [14] (fun i wr => i = .int .i64 0 ∧ Ok w wr) (fun _ _ => 0)
          case atStart => exact ⟨rfl, HK.out⟩
          case round =>
            obtain ⟨rfl, hok⟩ := hrel
            have HK := Lib.hid hok
            clear hok
            go_wp2_with fail
            go_ret
            exact ⟨rfl, HK.out⟩
set_option maxRecDepth 100000 in
set_option maxHeartbeats 1000000 in
theorem flatSpans_nil (w : World) : Calls Tryd.prog 43 #[.slice none 0 0] w (Ret w (.bool true)) := by
  have hmk : ∀ w : World, (Instr.makeSlice 72 (.int .i64 0) (.int .i64 0)).run Tryd.prog w = .ok (.slice (some ⟨w.heap.size, 0, none⟩) 0 0) (w.alloc (.cells #[] 133)) := fun _ => by kernel_rfl
  go_enter Tryd.func43, Tryd.ntmps43
  go_wp2_with fail
  go_loopw [3] (fun i wr => i = .int .i64 0 ∧ Ok w wr) (fun _ _ => 0)
  case atStart => exact ⟨rfl, Ok.refl _⟩
  case round =>
    obtain ⟨rfl, hok⟩ := hrel
    have HK := Lib.hid hok
    clear hok
    go_wp2_with fail
    go_loopw [6] (fun i wr => i = .int .i64 0 ∧ Ok w wr) (fun _ _ => 0)
    case atStart => exact ⟨rfl, Ok.alloc HK.out _⟩
    case round =>
      obtain ⟨rfl, hok⟩ := hrel
      have HK := Lib.hid hok
      clear hok
      go_wp2_with fail
      go_loopw [9] (fun i wr => i = .int .i64 0 ∧ Ok w wr) (fun _ _ => 0)
      case atStart => exact ⟨rfl, HK.out⟩
      case round =>
        obtain ⟨rfl, hok⟩ := hrel
        have HK := Lib.hid hok
        clear hok
        go_wp2_with fail
        go_loopw [11] (fun i wr => i = .int .i64 0 ∧ Ok w wr) (fun _ _ => 0)
        case atStart => exact ⟨rfl, HK.out⟩
        case round =>
          obtain ⟨rfl, hok⟩ := hrel
          have HK := Lib.hid hok
          clear hok
          go_wp2_with fail
          go_loopw [14] (fun i wr => i = .int .i64 0 ∧ Ok w wr) (fun _ _ => 0)
          case atStart => exact ⟨rfl, HK.out⟩
          case round =>
            obtain ⟨rfl, hok⟩ := hrel
            have HK := Lib.hid hok
            clear hok
            go_wp2_with fail
            go_ret
            exact ⟨rfl, HK.out⟩
set_option maxRecDepth 100000 in
set_option maxHeartbeats 1000000 in
theorem flatShareRows_nil (w : World) : Calls Tryd.prog 44 #[.slice none 0 0] w (Ret w (.bool true)) := by
  have hmk : ∀ w : World, (Instr.makeSlice 73 (.int .i64 0) (.int .i64 0)).run Tryd.prog w = .ok (.slice (some ⟨w.heap.size, 0, none⟩) 0 0) (w.alloc (.cells #[] 137)) := fun _ => by kernel_rfl
  go_enter Tryd.func44, Tryd.ntmps44
  go_wp2_with fail
  go_loopw [3] (fun i wr => i = .int .i64 0 ∧ Ok w wr) (fun _ _ => 0)
  case atStart => exact ⟨rfl, Ok.refl _⟩
  case round =>
    obtain ⟨rfl, hok⟩ := hrel
    have HK := Lib.hid hok
    clear hok
    go_wp2_with fail
    go_loopw [6] (fun i wr => i = .int .i64 0 ∧ Ok w wr) (fun _ _ => 0)
    case atStart => exact ⟨rfl, Ok.alloc HK.out _⟩
    case round =>
      obtain ⟨rfl, hok⟩ := hrel
      have HK := Lib.hid hok
      clear hok
      go_wp2_with fail
      go_loopw [9] (fun i wr => i = .int .i64 0 ∧ Ok w wr) (fun _ _ => 0)
      case atStart => exact ⟨rfl, HK.out⟩
      case round =>
        obtain ⟨rfl, hok⟩ := hrel
        have HK := Lib.hid hok
        clear hok
        go_wp2_with fail
        go_loopw [11] (fun i wr => i = .int .i64 0 ∧ Ok w wr) (fun _ _ => 0)
        case atStart => exact ⟨rfl, HK.out⟩
        case round =>
          obtain ⟨rfl, hok⟩ := hrel
          have HK := Lib.hid hok
          clear hok
          go_wp2_with fail
          go_loopw [14] (fun i wr => i = .int .i64 0 ∧ Ok w wr) (fun _ _ => 0)
          case atStart => exact ⟨rfl, HK.out⟩
          case round =>
            obtain ⟨rfl, hok⟩ := hrel
            have HK := Lib.hid hok
            clear hok
            go_wp2_with fail
            go_ret
            exact ⟨rfl, HK.out⟩
set_option maxRecDepth 100000 in
set_option maxHeartbeats 1000000 in
theorem flatSharesRows_nil (w : World) : Calls Tryd.prog 45 #[.slice none 0 0] w (Ret w (.bool true)) := by
  have hmk : ∀ w : World, (Instr.makeSlice 74 (.int .i64 0) (.int .i64 0)).run Tryd.prog w = .ok (.slice (some ⟨w.heap.size, 0, none⟩) 0 0) (w.alloc (.cells #[] 141)) := fun _ => by kernel_rfl
  go_enter Tryd.func45, Tryd.ntmps45
  go_wp2_with fail
  go_loopw [3] (fun i wr => i = .int .i64 0 ∧ Ok w wr) (fun _ _ => 0)
  case atStart => exact ⟨rfl, Ok.refl _⟩
  case round =>
    obtain ⟨rfl, hok⟩ := hrel
    have HK := Lib.hid hok
    clear hok
    go_wp2_with fail
    go_loopw [6] (fun i wr => i = .int .i64 0 ∧ Ok w wr) (fun _ _ => 0)
    case atStart => exact ⟨rfl, Ok.alloc HK.out _⟩
    case round =>
      obtain ⟨rfl, hok⟩ := hrel
      have HK := Lib.hid hok
      clear hok
      go_wp2_with fail
      go_loopw [9] (fun i wr => i = .int .i64 0 ∧ Ok w wr) (fun _ _ => 0)
      case atStart => exact ⟨rfl, HK.out⟩
      case round =>
        obtain ⟨rfl, hok⟩ := hrel
        have HK := Lib.hid hok
        clear hok
        go_wp2_with fail
        go_loopw [11] (fun i wr => i = .int .i64 0 ∧ Ok w wr) (fun _ _ => 0)
        case atStart => exact ⟨rfl, HK.out⟩
        case round =>
          obtain ⟨rfl, hok⟩ := hrel
          have HK := Lib.hid hok
          clear hok
          go_wp2_with fail
          go_loopw [14] (fun i wr => i = .int .i64 0 ∧ Ok w wr) (fun _ _ => 0)
          case atStart => exact ⟨rfl, HK.out⟩
          case round =>
            obtain ⟨rfl, hok⟩ := hrel
            have HK := Lib.hid hok
            clear hok
            go_wp2_with fail
            go_ret
            exact ⟨rfl, HK.out⟩
set_option maxRecDepth 100000 in
set_option maxHeartbeats 1000000 in
theorem flatNames_nil (w : World) : Calls Tryd.prog 46 #[.slice none 0 0] w (Ret w (.bool true)) := by
  have hmk : ∀ w : World, (Instr.makeSlice 75 (.int .i64 0) (.int .i64 0)).run Tryd.prog w = .ok (.slice (some ⟨w.heap.size, 0, none⟩) 0 0) (w.alloc (.cells #[] 146)) := fun _ => by kernel_rfl
  go_enter Tryd.func46, Tryd.ntmps46
  go_wp2_with fail
  go_loopw [3] (fun i wr => i = .int .i64 0 ∧ Ok w wr) (fun _ _ => 0)
  case atStart => exact ⟨rfl, Ok.refl _⟩
  case round =>
    obtain ⟨rfl, hok⟩ := hrel
    have HK := Lib.hid hok
    clear hok
    go_wp2_with fail
    go_loopw [6] (fun i wr => i = .int .i64 0 ∧ Ok w wr) (fun _ _ => 0)
    case atStart => exact ⟨rfl, Ok.alloc HK.out _⟩
    case round =>
      obtain ⟨rfl, hok⟩ := hrel
      have HK := Lib.hid hok
      clear hok
      go_wp2_with fail
      go_loopw [9] (fun i wr => i = .int .i64 0 ∧ Ok w wr) (fun _ _ => 0)
      case atStart => exact ⟨rfl, HK.out⟩
      case round =>
        obtain ⟨rfl, hok⟩ := hrel
        have HK := Lib.hid hok
        clear hok
        go_wp2_with fail
        go_loopw [11] (fun i wr => i = .int .i64 0 ∧ Ok w wr) (fun _ _ => 0)
        case atStart => exact ⟨rfl, HK.out⟩
        case round =>
          obtain ⟨rfl, hok⟩ := hrel
          have HK := Lib.hid hok
          clear hok
          go_wp2_with fail
          go_loopw [14] (fun i wr => i = .int .i64 0 ∧ Ok w wr) (fun _ _ => 0)
          case atStart => exact ⟨rfl, HK.out⟩
          case round =>
            obtain ⟨rfl, hok⟩ := hrel
            have HK := Lib.hid hok
            clear hok
            go_wp2_with fail
            go_ret
            exact ⟨rfl, HK.out⟩
set_option maxRecDepth 100000 in
set_option maxHeartbeats 1000000 in
theorem flatActs_nil (w : World) : Calls Tryd.prog 47 #[.slice none 0 0] w (Ret w (.bool true)) := by
  have hmk : ∀ w : World, (Instr.makeSlice 76 (.int .i64 0) (.int .i64 0)).run Tryd.prog w = .ok (.slice (some ⟨w.heap.size, 0, none⟩) 0 0) (w.alloc (.cells #[] 150)) := fun _ => by kernel_rfl
  go_enter Tryd.func47, Tryd.ntmps47
  go_wp2_with fail
  go_loopw [3] (fun i wr => i = .int .i64 0 ∧ Ok w wr) (fun _ _ => 0)
  case atStart => exact ⟨rfl, Ok.refl _⟩
  case round =>
    obtain ⟨rfl, hok⟩ := hrel
    have HK := Lib.hid hok
    clear hok
    go_wp2_with fail
    go_loopw [6] (fun i wr => i = .int .i64 0 ∧ Ok w wr) (fun _ _ => 0)
    case atStart => exact ⟨rfl, Ok.alloc HK.out _⟩
    case round =>
      obtain ⟨rfl, hok⟩ := hrel
      have HK := Lib.hid hok
      clear hok
      go_wp2_with fail
      go_loopw [9] (fun i wr => i = .int .i64 0 ∧ Ok w wr) (fun _ _ => 0)
      case atStart => exact ⟨rfl, HK.out⟩
      case round =>
        obtain ⟨rfl, hok⟩ := hrel
        have HK := Lib.hid hok
        clear hok
        go_wp2_with fail
        go_loopw [11] (fun i wr => i = .int .i64 0 ∧ Ok w wr) (fun _ _ => 0)
        case atStart => exact ⟨rfl, HK.out⟩
        case round =>
          obtain ⟨rfl, hok⟩ := hrel
          have HK := Lib.hid hok
          clear hok
          go_wp2_with fail
          go_loopw [14] (fun i wr => i = .int .i64 0 ∧ Ok w wr) (fun _ _ => 0)
          case atStart => exact ⟨rfl, HK.out⟩
          case round =>
            obtain ⟨rfl, hok⟩ := hrel
            have HK := Lib.hid hok
            clear hok
            go_wp2_with fail
            go_ret
            exact ⟨rfl, HK.out⟩
set_option maxRecDepth 100000 in
set_option maxHeartbeats 1000000 in
theorem flatReads_nil (w : World) : Calls Tryd.prog 48 #[.slice none 0 0] w (Ret w (.bool true)) := by
  have hmk : ∀ w : World, (Instr.makeSlice 77 (.int .i64 0) (.int .i64 0)).run Tryd.prog w = .ok (.slice (some ⟨w.heap.size, 0, none⟩) 0 0) (w.alloc (.cells #[] 155)) := fun _ => by kernel_rfl
  go_enter Tryd.func48, Tryd.ntmps48
  go_wp2_with fail
  go_loopw [3] (fun i wr => i = .int .i64 0 ∧ Ok w wr) (fun _ _ => 0)
  case atStart => exact ⟨rfl, Ok.refl _⟩
  case round =>
    obtain ⟨rfl, hok⟩ := hrel
    have HK := Lib.hid hok
    clear hok
    go_wp2_with fail
    go_loopw [6] (fun i wr => i = .int .i64 0 ∧ Ok w wr) (fun _ _ => 0)
    case atStart => exact ⟨rfl, Ok.alloc HK.out _⟩
    case round =>
      obtain ⟨rfl, hok⟩ := hrel
      have HK := Lib.hid hok
      clear hok
      go_wp2_with fail
      go_loopw [9] (fun i wr => i = .int .i64 0 ∧ Ok w wr) (fun _ _ => 0)
      case atStart => exact ⟨rfl, HK.out⟩
      case round =>
        obtain ⟨rfl, hok⟩ := hrel
        have HK := Lib.hid hok
        clear hok
        go_wp2_with fail
        go_loopw [11] (fun i wr => i = .int .i64 0 ∧ Ok w wr) (fun _ _ => 0)
        case atStart => exact ⟨rfl, HK.out⟩
        case round =>
          obtain ⟨rfl, hok⟩ := hrel
          have HK := Lib.hid hok
          clear hok
          go_wp2_with fail
          go_loopw [14] (fun i wr => i = .int .i64 0 ∧ Ok w wr) (fun _ _ => 0)
          case atStart => exact ⟨rfl, HK.out⟩
          case round =>
            obtain ⟨rfl, hok⟩ := hrel
            have HK := Lib.hid hok
            clear hok
            go_wp2_with fail
            go_ret
            exact ⟨rfl, HK.out⟩
set_option maxRecDepth 100000 in
set_option maxHeartbeats 1000000 in
theorem flatLines_nil (w : World) : Calls Tryd.prog 49 #[.slice none 0 0] w (Ret w (.bool true)) := by
  have hmk : ∀ w : World, (Instr.makeSlice 78 (.int .i64 0) (.int .i64 0)).run Tryd.prog w = .ok (.slice (some ⟨w.heap.size, 0, none⟩) 0 0) (w.alloc (.cells #[] 159)) := fun _ => by kernel_rfl
  go_enter Tryd.func49, Tryd.ntmps49
  go_wp2_with fail
  go_loopw [3] (fun i wr => i = .int .i64 0 ∧ Ok w wr) (fun _ _ => 0)
  case atStart => exact ⟨rfl, Ok.refl _⟩
  case round =>
    obtain ⟨rfl, hok⟩ := hrel
    have HK := Lib.hid hok
    clear hok
    go_wp2_with fail
    go_loopw [6] (fun i wr => i = .int .i64 0 ∧ Ok w wr) (fun _ _ => 0)
    case atStart => exact ⟨rfl, Ok.alloc HK.out _⟩
    case round =>
      obtain ⟨rfl, hok⟩ := hrel
      have HK := Lib.hid hok
      clear hok
      go_wp2_with fail
      go_loopw [9] (fun i wr => i = .int .i64 0 ∧ Ok w wr) (fun _ _ => 0)
      case atStart => exact ⟨rfl, HK.out⟩
      case round =>
        obtain ⟨rfl, hok⟩ := hrel
        have HK := Lib.hid hok
        clear hok
        go_wp2_with fail
        go_loopw [11] (fun i wr => i = .int .i64 0 ∧ Ok w wr) (fun _ _ => 0)
        case atStart => exact ⟨rfl, HK.out⟩
        case round =>
          obtain ⟨rfl, hok⟩ := hrel
          have HK := Lib.hid hok
          clear hok
          go_wp2_with fail
          go_loopw [14] (fun i wr => i = .int .i64 0 ∧ Ok w wr) (fun _ _ => 0)
          case atStart => exact ⟨rfl, HK.out⟩
          case round =>
            obtain ⟨rfl, hok⟩ := hrel
            have HK := Lib.hid hok
            clear hok
            go_wp2_with fail
            go_ret
            exact ⟨rfl, HK.out⟩
set_option maxRecDepth 100000 in
set_option maxHeartbeats 1000000 in
theorem flatHolds_nil (w : World) : Calls Tryd.prog 50 #[.slice none 0 0] w (Ret w (.bool true)) := by
  have hmk : ∀ w : World, (Instr.makeSlice 79 (.int .i64 0) (.int .i64 0)).run Tryd.prog w = .ok (.slice (some ⟨w.heap.size, 0, none⟩) 0 0) (w.alloc (.cells #[] 163)) := fun _ => by kernel_rfl
  go_enter Tryd.func50, Tryd.ntmps50
  go_wp2_with fail
  go_loopw [3] (fun i wr => i = .int .i64 0 ∧ Ok w wr) (fun _ _ => 0)
  case atStart => exact ⟨rfl, Ok.refl _⟩
  case round =>
    obtain ⟨rfl, hok⟩ := hrel
    have HK := Lib.hid hok
    clear hok
    go_wp2_with fail
    go_loopw [6] (fun i wr => i = .int .i64 0 ∧ Ok w wr) (fun _ _ => 0)
    case atStart => exact ⟨rfl, Ok.alloc HK.out _⟩
    case round =>
      obtain ⟨rfl, hok⟩ := hrel
      have HK := Lib.hid hok
      clear hok
      go_wp2_with fail
      go_loopw [9] (fun i wr => i = .int .i64 0 ∧ Ok w wr) (fun _ _ => 0)
      case atStart => exact ⟨rfl, HK.out⟩
      case round =>
        obtain ⟨rfl, hok⟩ := hrel
        have HK := Lib.hid hok
        clear hok
        go_wp2_with fail
        go_loopw [11] (fun i wr => i = .int .i64 0 ∧ Ok w wr) (fun _ _ => 0)
        case atStart => exact ⟨rfl, HK.out⟩
        case round =>
          obtain ⟨rfl, hok⟩ := hrel
          have HK := Lib.hid hok
          clear hok
          go_wp2_with fail
          go_loopw [14] (fun i wr => i = .int .i64 0 ∧ Ok w wr) (fun _ _ => 0)
          case atStart => exact ⟨rfl, HK.out⟩
          case round =>
            obtain ⟨rfl, hok⟩ := hrel
            have HK := Lib.hid hok
            clear hok
            go_wp2_with fail
            go_ret
            exact ⟨rfl, HK.out⟩
set_option maxRecDepth 100000 in
set_option maxHeartbeats 1000000 in
theorem flatConfigs_nil (w : World) : Calls Tryd.prog 51 #[.slice none 0 0] w (Ret w (.bool true)) := by
  have hmk : ∀ w : World, (Instr.makeSlice 80 (.int .i64 0) (.int .i64 0)).run Tryd.prog w = .ok (.slice (some ⟨w.heap.size, 0, none⟩) 0 0) (w.alloc (.cells #[] 168)) := fun _ => by kernel_rfl
  go_enter Tryd.func51, Tryd.ntmps51
  go_wp2_with fail
  go_loopw [3] (fun i wr => i = .int .i64 0 ∧ Ok w wr) (fun _ _ => 0)
  case atStart => exact ⟨rfl, Ok.refl _⟩
  case round =>
    obtain ⟨rfl, hok⟩ := hrel
    have HK := Lib.hid hok
    clear hok
    go_wp2_with fail
    go_loopw [6] (fun i wr => i = .int .i64 0 ∧ Ok w wr) (fun _ _ => 0)
    case atStart => exact ⟨rfl, Ok.alloc HK.out _⟩
    case round =>
      obtain ⟨rfl, hok⟩ := hrel
      have HK := Lib.hid hok
      clear hok
      go_wp2_with fail
      go_loopw [9] (fun i wr => i = .int .i64 0 ∧ Ok w wr) (fun _ _ => 0)
      case atStart => exact ⟨rfl, HK.out⟩
      case round =>
        obtain ⟨rfl, hok⟩ := hrel
        have HK := Lib.hid hok
        clear hok
        go_wp2_with fail
        go_loopw [11] (fun i wr => i = .int .i64 0 ∧ Ok w wr) (fun _ _ => 0)
        case atStart => exact ⟨rfl, HK.out⟩
        case round =>
          obtain ⟨rfl, hok⟩ := hrel
          have HK := Lib.hid hok
          clear hok
          go_wp2_with fail
          go_loopw [14] (fun i wr => i = .int .i64 0 ∧ Ok w wr) (fun _ _ => 0)
          case atStart => exact ⟨rfl, HK.out⟩
          case round =>
            obtain ⟨rfl, hok⟩ := hrel
            have HK := Lib.hid hok
            clear hok
            go_wp2_with fail
            go_ret
            exact ⟨rfl, HK.out⟩
set_option maxRecDepth 100000 in
set_option maxHeartbeats 1000000 in
theorem flatEntries_nil (w : World) : Calls Tryd.prog 52 #[.slice none 0 0] w (Ret w (.bool true)) := by
  have hmk : ∀ w : World, (Instr.makeSlice 81 (.int .i64 0) (.int .i64 0)).run Tryd.prog w = .ok (.slice (some ⟨w.heap.size, 0, none⟩) 0 0) (w.alloc (.cells #[] 173)) := fun _ => by kernel_rfl
  go_enter Tryd.func52, Tryd.ntmps52
  go_wp2_with fail
  go_loopw [3] (fun i wr => i = .int .i64 0 ∧ Ok w wr) (fun _ _ => 0)
  case atStart => exact ⟨rfl, Ok.refl _⟩
  case round =>
    obtain ⟨rfl, hok⟩ := hrel
    have HK := Lib.hid hok
    clear hok
    go_wp2_with fail
    go_loopw [6] (fun i wr => i = .int .i64 0 ∧ Ok w wr) (fun _ _ => 0)
    case atStart => exact ⟨rfl, Ok.alloc HK.out _⟩
    case round =>
      obtain ⟨rfl, hok⟩ := hrel
      have HK := Lib.hid hok
      clear hok
      go_wp2_with fail
      go_loopw [9] (fun i wr => i = .int .i64 0 ∧ Ok w wr) (fun _ _ => 0)
      case atStart => exact ⟨rfl, HK.out⟩
      case round =>
        obtain ⟨rfl, hok⟩ := hrel
        have HK := Lib.hid hok
        clear hok
        go_wp2_with fail
        go_loopw [11] (fun i wr => i = .int .i64 0 ∧ Ok w wr) (fun _ _ => 0)
        case atStart => exact ⟨rfl, HK.out⟩
        case round =>
          obtain ⟨rfl, hok⟩ := hrel
          have HK := Lib.hid hok
          clear hok
          go_wp2_with fail
          go_loopw [14] (fun i wr => i = .int .i64 0 ∧ Ok w wr) (fun _ _ => 0)
          case atStart => exact ⟨rfl, HK.out⟩
          case round =>
            obtain ⟨rfl, hok⟩ := hrel
            have HK := Lib.hid hok
            clear hok
            go_wp2_with fail
            go_ret
            exact ⟨rfl, HK.out⟩
set_option maxRecDepth 100000 in
set_option maxHeartbeats 1000000 in
theorem flatBases_nil (w : World) : Calls Tryd.prog 53 #[.slice none 0 0] w (Ret w (.bool true)) := by
  have hmk : ∀ w : World, (Instr.makeSlice 82 (.int .i64 0) (.int .i64 0)).run Tryd.prog w = .ok (.slice (some ⟨w.heap.size, 0, none⟩) 0 0) (w.alloc (.cells #[] 179)) := fun _ => by kernel_rfl
  go_enter Tryd.func53, Tryd.ntmps53
  go_wp2_with fail
  go_loopw [3] (fun i wr => i = .int .i64 0 ∧ Ok w wr) (fun _ _ => 0)
  case atStart => exact ⟨rfl, Ok.refl _⟩
  case round =>
    obtain ⟨rfl, hok⟩ := hrel
    have HK := Lib.hid hok
    clear hok
    go_wp2_with fail
    go_loopw [6] (fun i wr => i = .int .i64 0 ∧ Ok w wr) (fun _ _ => 0)
    case atStart => exact ⟨rfl, Ok.alloc HK.out _⟩
    case round =>
      obtain ⟨rfl, hok⟩ := hrel
      have HK := Lib.hid hok
      clear hok
      go_wp2_with fail
      go_loopw [9] (fun i wr => i = .int .i64 0 ∧ Ok w wr) (fun _ _ => 0)
      case atStart => exact ⟨rfl, HK.out⟩
      case round =>
        obtain ⟨rfl, hok⟩ := hrel
        have HK := Lib.hid hok
        clear hok
        go_wp2_with fail
        go_loopw [11] (fun i wr => i = .int .i64 0 ∧ Ok w wr) (fun _ _ => 0)
        case atStart => exact ⟨rfl, HK.out⟩
        case round =>
          obtain ⟨rfl, hok⟩ := hrel
          have HK := Lib.hid hok
          clear hok
          go_wp2_with fail
          go_loopw [14] (fun i wr => i = .int .i64 0 ∧ Ok w wr) (fun _ _ => 0)
          case atStart => exact ⟨rfl, HK.out⟩
          case round =>
            obtain ⟨rfl, hok⟩ := hrel
            have HK := Lib.hid hok
            clear hok
            go_wp2_with fail
            go_ret
            exact ⟨rfl, HK.out⟩
set_option maxRecDepth 100000 in
set_option maxHeartbeats 1000000 in
theorem flatImages_nil (w : World) : Calls Tryd.prog 54 #[.slice none 0 0] w (Ret w (.bool true)) := by
  have hmk : ∀ w : World, (Instr.makeSlice 83 (.int .i64 0) (.int .i64 0)).run Tryd.prog w = .ok (.slice (some ⟨w.heap.size, 0, none⟩) 0 0) (w.alloc (.cells #[] 184)) := fun _ => by kernel_rfl
  go_enter Tryd.func54, Tryd.ntmps54
  go_wp2_with fail
  go_loopw [3] (fun i wr => i = .int .i64 0 ∧ Ok w wr) (fun _ _ => 0)
  case atStart => exact ⟨rfl, Ok.refl _⟩
  case round =>
    obtain ⟨rfl, hok⟩ := hrel
    have HK := Lib.hid hok
    clear hok
    go_wp2_with fail
    go_loopw [6] (fun i wr => i = .int .i64 0 ∧ Ok w wr) (fun _ _ => 0)
    case atStart => exact ⟨rfl, Ok.alloc HK.out _⟩
    case round =>
      obtain ⟨rfl, hok⟩ := hrel
      have HK := Lib.hid hok
      clear hok
      go_wp2_with fail
      go_loopw [9] (fun i wr => i = .int .i64 0 ∧ Ok w wr) (fun _ _ => 0)
      case atStart => exact ⟨rfl, HK.out⟩
      case round =>
        obtain ⟨rfl, hok⟩ := hrel
        have HK := Lib.hid hok
        clear hok
        go_wp2_with fail
        go_loopw [11] (fun i wr => i = .int .i64 0 ∧ Ok w wr) (fun _ _ => 0)
        case atStart => exact ⟨rfl, HK.out⟩
        case round =>
          obtain ⟨rfl, hok⟩ := hrel
          have HK := Lib.hid hok
          clear hok
          go_wp2_with fail
          go_loopw [14] (fun i wr => i = .int .i64 0 ∧ Ok w wr) (fun _ _ => 0)
          case atStart => exact ⟨rfl, HK.out⟩
          case round =>
            obtain ⟨rfl, hok⟩ := hrel
            have HK := Lib.hid hok
            clear hok
            go_wp2_with fail
            go_ret
            exact ⟨rfl, HK.out⟩
set_option maxRecDepth 100000 in
set_option maxHeartbeats 1000000 in
theorem flatLetters_nil (w : World) : Calls Tryd.prog 55 #[.slice none 0 0] w (Ret w (.bool true)) := by
  have hmk : ∀ w : World, (Instr.makeSlice 84 (.int .i64 0) (.int .i64 0)).run Tryd.prog w = .ok (.slice (some ⟨w.heap.size, 0, none⟩) 0 0) (w.alloc (.cells #[] 189)) := fun _ => by kernel_rfl
  go_enter Tryd.func55, Tryd.ntmps55
  go_wp2_with fail
  go_loopw [3] (fun i wr => i = .int .i64 0 ∧ Ok w wr) (fun _ _ => 0)
  case atStart => exact ⟨rfl, Ok.refl _⟩
  case round =>
    obtain ⟨rfl, hok⟩ := hrel
    have HK := Lib.hid hok
    clear hok
    go_wp2_with fail
    go_loopw [6] (fun i wr => i = .int .i64 0 ∧ Ok w wr) (fun _ _ => 0)
    case atStart => exact ⟨rfl, Ok.alloc HK.out _⟩
    case round =>
      obtain ⟨rfl, hok⟩ := hrel
      have HK := Lib.hid hok
      clear hok
      go_wp2_with fail
      go_loopw [9] (fun i wr => i = .int .i64 0 ∧ Ok w wr) (fun _ _ => 0)
      case atStart => exact ⟨rfl, HK.out⟩
      case round =>
        obtain ⟨rfl, hok⟩ := hrel
        have HK := Lib.hid hok
        clear hok
        go_wp2_with fail
        go_loopw [11] (fun i wr => i = .int .i64 0 ∧ Ok w wr) (fun _ _ => 0)
        case atStart => exact ⟨rfl, HK.out⟩
        case round =>
          obtain ⟨rfl, hok⟩ := hrel
          have HK := Lib.hid hok
          clear hok
          go_wp2_with fail
          go_loopw [14] (fun i wr => i = .int .i64 0 ∧ Ok w wr) (fun _ _ => 0)
          case atStart => exact ⟨rfl, HK.out⟩
          case round =>
            obtain ⟨rfl, hok⟩ := hrel
            have HK := Lib.hid hok
            clear hok
            go_wp2_with fail
            go_ret
            exact ⟨rfl, HK.out⟩
set_option maxRecDepth 100000 in
set_option maxHeartbeats 1000000 in
theorem flatStretches_nil (w : World) : Calls Tryd.prog 56 #[.slice none 0 0] w (Ret w (.bool true)) := by
  have hmk : ∀ w : World, (Instr.makeSlice 85 (.int .i64 0) (.int .i64 0)).run Tryd.prog w = .ok (.slice (some ⟨w.heap.size, 0, none⟩) 0 0) (w.alloc (.cells #[] 195)) := fun _ => by kernel_rfl
  go_enter Tryd.func56, Tryd.ntmps56
  go_wp2_with fail
  go_loopw [3] (fun i wr => i = .int .i64 0 ∧ Ok w wr) (fun _ _ => 0)
  case atStart => exact ⟨rfl, Ok.refl _⟩
  case round =>
    obtain ⟨rfl, hok⟩ := hrel
    have HK := Lib.hid hok
    clear hok
    go_wp2_with fail
    go_loopw [6] (fun i wr => i = .int .i64 0 ∧ Ok w wr) (fun _ _ => 0)
    case atStart => exact ⟨rfl, Ok.alloc HK.out _⟩
    case round =>
      obtain ⟨rfl, hok⟩ := hrel
      have HK := Lib.hid hok
      clear hok
      go_wp2_with fail
      go_loopw [9] (fun i wr => i = .int .i64 0 ∧ Ok w wr) (fun _ _ => 0)
      case atStart => exact ⟨rfl, HK.out⟩
      case round =>
        obtain ⟨rfl, hok⟩ := hrel
        have HK := Lib.hid hok
        clear hok
        go_wp2_with fail
        go_loopw [11] (fun i wr => i = .int .i64 0 ∧ Ok w wr) (fun _ _ => 0)
        case atStart => exact ⟨rfl, HK.out⟩
        case round =>
          obtain ⟨rfl, hok⟩ := hrel
          have HK := Lib.hid hok
          clear hok
          go_wp2_with fail
          go_loopw [14] (fun i wr => i = .int .i64 0 ∧ Ok w wr) (fun _ _ => 0)
          case atStart => exact ⟨rfl, HK.out⟩
          case round =>
            obtain ⟨rfl, hok⟩ := hrel
            have HK := Lib.hid hok
            clear hok
            go_wp2_with fail
            go_ret
            exact ⟨rfl, HK.out⟩
set_option maxRecDepth 100000 in
set_option maxHeartbeats 1000000 in
theorem flatPeers_nil (w : World) : Calls Tryd.prog 57 #[.slice none 0 0] w (Ret w (.bool true)) := by
  have hmk : ∀ w : World, (Instr.makeSlice 86 (.int .i64 0) (.int .i64 0)).run Tryd.prog w = .ok (.slice (some ⟨w.heap.size, 0, none⟩) 0 0) (w.alloc (.cells #[] 200)) := fun _ => by kernel_rfl
  go_enter Tryd.func57, Tryd.ntmps57
  go_wp2_with fail
  go_loopw [3] (fun i wr => i = .int .i64 0 ∧ Ok w wr) (fun _ _ => 0)
  case atStart => exact ⟨rfl, Ok.refl _⟩
  case round =>
    obtain ⟨rfl, hok⟩ := hrel
    have HK := Lib.hid hok
    clear hok
    go_wp2_with fail
    go_loopw [6] (fun i wr => i = .int .i64 0 ∧ Ok w wr) (fun _ _ => 0)
    case atStart => exact ⟨rfl, Ok.alloc HK.out _⟩
    case round =>
      obtain ⟨rfl, hok⟩ := hrel
      have HK := Lib.hid hok
      clear hok
      go_wp2_with fail
      go_loopw [9] (fun i wr => i = .int .i64 0 ∧ Ok w wr) (fun _ _ => 0)
      case atStart => exact ⟨rfl, HK.out⟩
      case round =>
        obtain ⟨rfl, hok⟩ := hrel
        have HK := Lib.hid hok
        clear hok
        go_wp2_with fail
        go_loopw [11] (fun i wr => i = .int .i64 0 ∧ Ok w wr) (fun _ _ => 0)
        case atStart => exact ⟨rfl, HK.out⟩
        case round =>
          obtain ⟨rfl, hok⟩ := hrel
          have HK := Lib.hid hok
          clear hok
          go_wp2_with fail
          go_loopw [14] (fun i wr => i = .int .i64 0 ∧ Ok w wr) (fun _ _ => 0)
          case atStart => exact ⟨rfl, HK.out⟩
          case round =>
            obtain ⟨rfl, hok⟩ := hrel
            have HK := Lib.hid hok
            clear hok
            go_wp2_with fail
            go_ret
            exact ⟨rfl, HK.out⟩
end Go.Proofs.YtpebnlddmjfomaaDoor
