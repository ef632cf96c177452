/- What the walks of numbers import. -/
import Derived.Test.YtljhnkcoknikgaaKg
import Derived.Test.YtljhnkcoknikgaaProg
import Derived.Test.YtljhnkcoknikgaaChecked
import Derived.WalkKit
import Derived.WalkSmall
import Derived.WalkSpells
import Derived.Outline
import Derived.Lib.Hide
import Derived.LoopTactic
import Derived.RegionTactic
import Derived.BigRegion
import Derived.Deep.QuietTactic
import Derived.BigQuiet
import Derived.ChangeAlike
import Derived.IntWalk
namespace Go.Proofs.Ytljhnkcoknikgaa
open Go.RowKit

theorem lret_b {a b : Bool} (h : a = b) : Ending.returned (.bool a) = .returned (.bool b) := by rw [h]
end Go.Proofs.Ytljhnkcoknikgaa
