/- Proved: the law SumBytes of layer 1 returns true, and leaves what was there as it was, on the tied card that is given (the table of the program's text is laid as the text says; no other condition). -/
import Derived.Test.YticmpkpopfkhnaaDoorN
import Derived.Test.YticmpkpopfkhnaaDoorQ
namespace Go.Proofs.YticmpkpopfkhnaaDoor
theorem sumBytes_proved : Rows.SumBytesCardSaid := sumBytes_card fun W ht => sumBytes_v W ht
end Go.Proofs.YticmpkpopfkhnaaDoor
