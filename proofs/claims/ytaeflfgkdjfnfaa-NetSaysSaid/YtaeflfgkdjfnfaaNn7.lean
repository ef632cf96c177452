/- The statement NetSays: the walk with the chapter's example. -/
import Derived.Test.YtaeflfgkdjfnfaaNn5
import Derived.Test.YtaeflfgkdjfnfaaNn6
namespace Go.Proofs.Ytaeflfgkdjfnfaa
open Go.RowKit

theorem netSays_ends (n : Int) (w : World) : Calls Try.prog 4 #[.int .i64 n] w fun e w' => e = .returned (.bool true) ∧ Below w.heap.size w w' := says_walk alive_net n w
end Go.Proofs.Ytaeflfgkdjfnfaa
