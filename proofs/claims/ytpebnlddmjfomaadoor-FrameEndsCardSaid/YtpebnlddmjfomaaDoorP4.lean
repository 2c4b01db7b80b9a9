/- No number of zero bits up to 32767 brings a register of one back to one: reckoned by the kernel. -/
import Derived.Test.YtpebnlddmjfomaaDoorP
namespace Go.Proofs.YtpebnlddmjfomaaDoor

/-- No number of zero bits up to 32767 brings a one back. -/
def LN (v : Nat) : Nat := if v % 2 = 1 then (v / 2) ^^^ 3988292384 else v / 2
def never : Nat → Nat → Bool
  | 0, _ => true
  | n + 1, v => match LN v == 1 with
    | true => false
    | false => never n (LN v)
theorem never_ok : never 32767 1 = true := by decide +kernel
end Go.Proofs.YtpebnlddmjfomaaDoor
