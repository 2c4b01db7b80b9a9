/- SumBytes' card out of its walk. -/
import Derived.Test.YticmpkpopfkhnaaDoorM
import Derived.Test.YticmpkpopfkhnaaDoorTie
import Derived.Test.YticmpkpopfkhnaaDoorCards
import Derived.SevenTiedAt
namespace Go.Proofs.YticmpkpopfkhnaaDoor
open Go
theorem sumBytes_card (walk : SumBytesWalk) : Rows.SumBytesCardSaid :=
  Claim7.holds_tied_plain_at .later [] [.data] true (true, "f7245d52ed65659dae973383c6bf4ace6ff76807b949e8684cb60d7a3e04a17f") false
    (sumBytes_over walk) (fun _ h => by cases h) (by kernel_rfl) (fun _ h => by cases h) sumBytes_row_tie rfl ⟨rfl, rfl⟩ (by kernel_rfl) rfl
    (fun f fn hf hfn => by
      obtain rfl : f = 4 := Option.some.inj ((show Tryd.prog.funcNamed "watershed/watershedlaw01.SumBytes" = some 4 by kernel_rfl).symm.trans hf) |>.symm
      obtain rfl : fn = Tryd.f4 := (Option.some.inj (Tryd.func4.symm.trans hfn)).symm
      exact ⟨by kernel_rfl, fun j t ht => by
        rw [Tryd.params4] at ht
        cases ht⟩)
    (by kernel_rfl)
end Go.Proofs.YticmpkpopfkhnaaDoor
