/- Proved: the law SumParts of layer 1 returns true for any two lists of bytes and any number, and leaves what was there as it was, on the tied card that is given (the table of the program's text is laid as the text says; no other condition). -/
import Derived.Test.YticmpkpopfkhnaaDoorV
import Derived.Test.YticmpkpopfkhnaaDoorY
namespace Go.Proofs.YticmpkpopfkhnaaDoor
theorem sumParts_proved : Rows.SumPartsCardSaid := sumParts_card fun W ht va vb xa xb ha hb cut h0 h1 => sumParts_v W ht va vb xa xb ha hb cut h0 h1
end Go.Proofs.YticmpkpopfkhnaaDoor
