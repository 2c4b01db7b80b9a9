/- Proved: the law SumTurned of layer 1 returns true for any bytes, any places and any pattern, and leaves what was there as it was, on the tied card that is given (the table of the program's text is laid as the text says; no other condition). -/
import Derived.Test.YticmpkpopfkhnaaDoorX
import Derived.Test.YticmpkpopfkhnaaDoorY
namespace Go.Proofs.YticmpkpopfkhnaaDoor
theorem sumTurned_proved : Rows.SumTurnedCardSaid := sumTurned_card fun W ht va xa ha at' far h0 h1 h2 h3 burst => sumTurned_v W ht va xa ha at' far h0 h1 h2 h3 burst
end Go.Proofs.YticmpkpopfkhnaaDoor
