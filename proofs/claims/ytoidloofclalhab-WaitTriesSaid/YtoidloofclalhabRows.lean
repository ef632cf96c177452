/-
  No cell of these rows narrows 'for every input' (looked for: loops, veiled, ifaces, maps, wideKeys, modest, calm, conditions, laid).
  DERIVED. THE GIVEN ROWS OF THIS SEAT. 9 by the template 'for every input the law returns true; each argument reads behind the call as it read before'; 0 by the template 'total and deterministic' (their statements: YtoidloofclalhabTotals.lean).
  GIVEN WITH THE SEED: the statements are not yours to turn. If you find one false, say at which input.
  Laid BY PROGRAM, IN A SANDBOX (cutbox-rows.mjs): the forced cells as the released guide's own fill.sh prints them over the translation c29fdbb96262657b… (all of the seat's roots in one cut). By AI agents, Wed Nov 11 2026. No macro, syntax, notation, axiom, sorry.
-/
import Derived.Test.YtoidloofclalhabChecked
import GoSem.Claim
import GoSem.ClaimJoined
import GoSem.ClaimMapViews
import Derived.JoinedTies
import Derived.KernelRfl
namespace Go.Proofs.Ytoidloofclalhab
/- THE CELL 'sum', in the pinned program and in every row, IS THE sha256 OF THE DUMP (.gsa) THAT YtoidloofclalhabProg.lean LOADS. Nothing in Lean hashes anything: it is a label: what it is worth is what the hold of that sum in a sandbox is worth. -/
noncomputable def Try.pinned : Pinned := { name := "ytoidloofclalhab", sum := "c29fdbb96262657b5b138247e2c517c83c49d4e579535d8fe53d1e242495c45e", checked := Try.checked }
namespace Rows
def none {H : Type} : Left H := { results := [], args := [] }

/-- 'cenotaphlaw32.QuorumNeeds': WHATEVER THE INPUT: true; the input reads as it did. -/
def quorumNeedsSpec : ChangeSpec := { name := "quorumNeeds", fn := fun _ => fun
  | [d1, d2] => { results := [.lit (.bool true)], args := [d1, d2] }
  | _ => none }
def quorumNeedsRow : OpenClaim := { program := "ytoidloofclalhab", sum := "c29fdbb96262657b5b138247e2c517c83c49d4e579535d8fe53d1e242495c45e", func := "cenotaph/cenotaphlaw32.QuorumNeeds", spec := "quorumNeeds", apart := false }
def QuorumNeedsSaid : Prop := quorumNeedsRow.holds Try.pinned (OpenSpec.ofChange quorumNeedsSpec)

/-- ITS FALSE NEIGHBOUR: 'it returns false'. Refute it at one input. -/
def quorumNeedsWrong : ChangeSpec := { name := "quorumNeeds", fn := fun _ => fun
  | [d1, d2] => { results := [.lit (.bool false)], args := [d1, d2] }
  | _ => none }
def QuorumNeedsWrongFalsely : Prop := quorumNeedsRow.holds Try.pinned (OpenSpec.ofChange quorumNeedsWrong)

/-- 'cenotaphlaw32.QuorumMeets': WHATEVER THE INPUT: true; the input reads as it did. -/
def quorumMeetsSpec : ChangeSpec := { name := "quorumMeets", fn := fun _ => fun
  | [d1, d2, d3] => { results := [.lit (.bool true)], args := [d1, d2, d3] }
  | _ => none }
def quorumMeetsRow : OpenClaim := { program := "ytoidloofclalhab", sum := "c29fdbb96262657b5b138247e2c517c83c49d4e579535d8fe53d1e242495c45e", func := "cenotaph/cenotaphlaw32.QuorumMeets", spec := "quorumMeets", apart := false }
def QuorumMeetsSaid : Prop := quorumMeetsRow.holds Try.pinned (OpenSpec.ofChange quorumMeetsSpec)

/-- ITS FALSE NEIGHBOUR: 'it returns false'. Refute it at one input. -/
def quorumMeetsWrong : ChangeSpec := { name := "quorumMeets", fn := fun _ => fun
  | [d1, d2, d3] => { results := [.lit (.bool false)], args := [d1, d2, d3] }
  | _ => none }
def QuorumMeetsWrongFalsely : Prop := quorumMeetsRow.holds Try.pinned (OpenSpec.ofChange quorumMeetsWrong)

/-- 'cenotaphlaw32.QuorumCounts': WHATEVER THE INPUT: true; the input reads as it did. -/
def quorumCountsSpec : ChangeSpec := { name := "quorumCounts", fn := fun _ => fun
  | [d1, d2, d3] => { results := [.lit (.bool true)], args := [d1, d2, d3] }
  | _ => none }
def quorumCountsRow : OpenClaim := { program := "ytoidloofclalhab", sum := "c29fdbb96262657b5b138247e2c517c83c49d4e579535d8fe53d1e242495c45e", func := "cenotaph/cenotaphlaw32.QuorumCounts", spec := "quorumCounts", apart := false }
def QuorumCountsSaid : Prop := quorumCountsRow.holds Try.pinned (OpenSpec.ofChange quorumCountsSpec)

/-- ITS FALSE NEIGHBOUR: 'it returns false'. Refute it at one input. -/
def quorumCountsWrong : ChangeSpec := { name := "quorumCounts", fn := fun _ => fun
  | [d1, d2, d3] => { results := [.lit (.bool false)], args := [d1, d2, d3] }
  | _ => none }
def QuorumCountsWrongFalsely : Prop := quorumCountsRow.holds Try.pinned (OpenSpec.ofChange quorumCountsWrong)

/-- 'cenotaphlaw47.GapsPuts': WHATEVER THE INPUT: true; the input reads as it did. -/
def gapsPutsSpec : ChangeSpec := { name := "gapsPuts", fn := fun _ => fun
  | [d1, d2, d3] => { results := [.lit (.bool true)], args := [d1, d2, d3] }
  | _ => none }
def gapsPutsRow : OpenClaim := { program := "ytoidloofclalhab", sum := "c29fdbb96262657b5b138247e2c517c83c49d4e579535d8fe53d1e242495c45e", func := "cenotaph/cenotaphlaw47.GapsPuts", spec := "gapsPuts", recurses := true, apart := false }
def GapsPutsSaid : Prop := gapsPutsRow.holds Try.pinned (OpenSpec.ofChange gapsPutsSpec)

/-- ITS FALSE NEIGHBOUR: 'it returns false'. Refute it at one input. -/
def gapsPutsWrong : ChangeSpec := { name := "gapsPuts", fn := fun _ => fun
  | [d1, d2, d3] => { results := [.lit (.bool false)], args := [d1, d2, d3] }
  | _ => none }
def GapsPutsWrongFalsely : Prop := gapsPutsRow.holds Try.pinned (OpenSpec.ofChange gapsPutsWrong)

/-- 'cenotaphlaw47.GapsReads': WHATEVER THE INPUT: true; the input reads as it did. -/
def gapsReadsSpec : ChangeSpec := { name := "gapsReads", fn := fun _ => fun
  | [d] => { results := [.lit (.bool true)], args := [d] }
  | _ => none }
def gapsReadsRow : OpenClaim := { program := "ytoidloofclalhab", sum := "c29fdbb96262657b5b138247e2c517c83c49d4e579535d8fe53d1e242495c45e", func := "cenotaph/cenotaphlaw47.GapsReads", spec := "gapsReads", recurses := true, apart := false }
def GapsReadsSaid : Prop := gapsReadsRow.holds Try.pinned (OpenSpec.ofChange gapsReadsSpec)

/-- ITS FALSE NEIGHBOUR: 'it returns false'. Refute it at one input. -/
def gapsReadsWrong : ChangeSpec := { name := "gapsReads", fn := fun _ => fun
  | [d] => { results := [.lit (.bool false)], args := [d] }
  | _ => none }
def GapsReadsWrongFalsely : Prop := gapsReadsRow.holds Try.pinned (OpenSpec.ofChange gapsReadsWrong)

/-- 'cenotaphlaw47.GapsRuns': WHATEVER THE INPUT: true; the input reads as it did. -/
def gapsRunsSpec : ChangeSpec := { name := "gapsRuns", fn := fun _ => fun
  | [d] => { results := [.lit (.bool true)], args := [d] }
  | _ => none }
def gapsRunsRow : OpenClaim := { program := "ytoidloofclalhab", sum := "c29fdbb96262657b5b138247e2c517c83c49d4e579535d8fe53d1e242495c45e", func := "cenotaph/cenotaphlaw47.GapsRuns", spec := "gapsRuns", apart := false }
def GapsRunsSaid : Prop := gapsRunsRow.holds Try.pinned (OpenSpec.ofChange gapsRunsSpec)

/-- ITS FALSE NEIGHBOUR: 'it returns false'. Refute it at one input. -/
def gapsRunsWrong : ChangeSpec := { name := "gapsRuns", fn := fun _ => fun
  | [d] => { results := [.lit (.bool false)], args := [d] }
  | _ => none }
def GapsRunsWrongFalsely : Prop := gapsRunsRow.holds Try.pinned (OpenSpec.ofChange gapsRunsWrong)

/-- 'cenotaphlaw47.GapsMany': WHATEVER THE INPUT: true; the input reads as it did. -/
def gapsManySpec : ChangeSpec := { name := "gapsMany", fn := fun _ => fun
  | [d] => { results := [.lit (.bool true)], args := [d] }
  | _ => none }
def gapsManyRow : OpenClaim := { program := "ytoidloofclalhab", sum := "c29fdbb96262657b5b138247e2c517c83c49d4e579535d8fe53d1e242495c45e", func := "cenotaph/cenotaphlaw47.GapsMany", spec := "gapsMany", apart := false }
def GapsManySaid : Prop := gapsManyRow.holds Try.pinned (OpenSpec.ofChange gapsManySpec)

/-- ITS FALSE NEIGHBOUR: 'it returns false'. Refute it at one input. -/
def gapsManyWrong : ChangeSpec := { name := "gapsMany", fn := fun _ => fun
  | [d] => { results := [.lit (.bool false)], args := [d] }
  | _ => none }
def GapsManyWrongFalsely : Prop := gapsManyRow.holds Try.pinned (OpenSpec.ofChange gapsManyWrong)

/-- 'cenotaphlaw48.WaitBounds': WHATEVER THE INPUT: true; the input reads as it did. -/
def waitBoundsSpec : ChangeSpec := { name := "waitBounds", fn := fun _ => fun
  | [d1, d2] => { results := [.lit (.bool true)], args := [d1, d2] }
  | _ => none }
def waitBoundsRow : OpenClaim := { program := "ytoidloofclalhab", sum := "c29fdbb96262657b5b138247e2c517c83c49d4e579535d8fe53d1e242495c45e", func := "cenotaph/cenotaphlaw48.WaitBounds", spec := "waitBounds", apart := false }
def WaitBoundsSaid : Prop := waitBoundsRow.holds Try.pinned (OpenSpec.ofChange waitBoundsSpec)

/-- ITS FALSE NEIGHBOUR: 'it returns false'. Refute it at one input. -/
def waitBoundsWrong : ChangeSpec := { name := "waitBounds", fn := fun _ => fun
  | [d1, d2] => { results := [.lit (.bool false)], args := [d1, d2] }
  | _ => none }
def WaitBoundsWrongFalsely : Prop := waitBoundsRow.holds Try.pinned (OpenSpec.ofChange waitBoundsWrong)

/-- 'cenotaphlaw48.WaitTries': WHATEVER THE INPUT: true; the input reads as it did. -/
def waitTriesSpec : ChangeSpec := { name := "waitTries", fn := fun _ => fun
  | [d1, d2, d3] => { results := [.lit (.bool true)], args := [d1, d2, d3] }
  | _ => none }
def waitTriesRow : OpenClaim := { program := "ytoidloofclalhab", sum := "c29fdbb96262657b5b138247e2c517c83c49d4e579535d8fe53d1e242495c45e", func := "cenotaph/cenotaphlaw48.WaitTries", spec := "waitTries", unfollowed := true, recurses := true, apart := false }
def WaitTriesSaid : Prop := waitTriesRow.holds Try.pinned (OpenSpec.ofChange waitTriesSpec)

/-- ITS FALSE NEIGHBOUR: 'it returns false'. Refute it at one input. -/
def waitTriesWrong : ChangeSpec := { name := "waitTries", fn := fun _ => fun
  | [d1, d2, d3] => { results := [.lit (.bool false)], args := [d1, d2, d3] }
  | _ => none }
def WaitTriesWrongFalsely : Prop := waitTriesRow.holds Try.pinned (OpenSpec.ofChange waitTriesWrong)

/- THE SECOND FORM. 'bulk': how many values and letters a reading holds, each counted each time it is reached (what is shared counts as often as it is met; a slice's spare places count too). A statement '..UptoSaid' is the law's where the arguments, and the package variables that the reading takes, are together of bulk at most 1048576: NARROWER than '..Said'. Prove '..Said' where nothing that the law and all that it calls make is longer than what came in: it says more and counts as full. Else prove '..UptoSaid'. A law counts once. -/
mutual
def uptoBulk {H : Type} : DataW H → Nat
  | .lit (.string bytes) => bytes.length + 1
  | .lit _ => 1
  | .nil => 1
  | .ptr d => uptoBulk d + 1
  | .slice elems spare => uptoBulkAll elems + uptoBulkAll spare + 1
  | .agg parts => uptoBulkAll parts + 1
  | .iface _ d => uptoBulk d + 1
  | .map entries => uptoBulkEntries entries + 1
  | .held _ => 1
def uptoBulkAll {H : Type} : List (DataW H) → Nat
  | [] => 0
  | d :: r => uptoBulk d + uptoBulkAll r
def uptoBulkEntries {H : Type} : List (Lit × DataW H) → Nat
  | [] => 0
  | x :: r => uptoBulkEntry x + uptoBulkEntries r
def uptoBulkEntry {H : Type} : Lit × DataW H → Nat
  | (.string bytes, d) => bytes.length + uptoBulk d + 1
  | (_, d) => uptoBulk d + 1
 end
def uptoSmall : (H : Type) → List (DataW H) → Bool := fun _ ds => decide (uptoBulkAll ds ≤ 1048576)
def OpenSpec.upto (s : _root_.Go.ChangeSpec) : _root_.Go.OpenSpec := { _root_.Go.OpenSpec.ofChange s with cond := some uptoSmall }

/-- 'cenotaphlaw32.QuorumNeeds', WHERE WHAT IT READS IS OF BULK AT MOST 1048576: true; the input reads as it did. -/
def quorumNeedsUptoRow : OpenClaim := { program := "ytoidloofclalhab", sum := "c29fdbb96262657b5b138247e2c517c83c49d4e579535d8fe53d1e242495c45e", func := "cenotaph/cenotaphlaw32.QuorumNeeds", spec := "quorumNeeds", apart := false, narrowed := true }
def QuorumNeedsUptoSaid : Prop := quorumNeedsUptoRow.holds Try.pinned (OpenSpec.upto quorumNeedsSpec)

/-- 'cenotaphlaw32.QuorumMeets', WHERE WHAT IT READS IS OF BULK AT MOST 1048576: true; the input reads as it did. -/
def quorumMeetsUptoRow : OpenClaim := { program := "ytoidloofclalhab", sum := "c29fdbb96262657b5b138247e2c517c83c49d4e579535d8fe53d1e242495c45e", func := "cenotaph/cenotaphlaw32.QuorumMeets", spec := "quorumMeets", apart := false, narrowed := true }
def QuorumMeetsUptoSaid : Prop := quorumMeetsUptoRow.holds Try.pinned (OpenSpec.upto quorumMeetsSpec)

/-- 'cenotaphlaw32.QuorumCounts', WHERE WHAT IT READS IS OF BULK AT MOST 1048576: true; the input reads as it did. -/
def quorumCountsUptoRow : OpenClaim := { program := "ytoidloofclalhab", sum := "c29fdbb96262657b5b138247e2c517c83c49d4e579535d8fe53d1e242495c45e", func := "cenotaph/cenotaphlaw32.QuorumCounts", spec := "quorumCounts", apart := false, narrowed := true }
def QuorumCountsUptoSaid : Prop := quorumCountsUptoRow.holds Try.pinned (OpenSpec.upto quorumCountsSpec)

/-- 'cenotaphlaw47.GapsPuts', WHERE WHAT IT READS IS OF BULK AT MOST 1048576: true; the input reads as it did. -/
def gapsPutsUptoRow : OpenClaim := { program := "ytoidloofclalhab", sum := "c29fdbb96262657b5b138247e2c517c83c49d4e579535d8fe53d1e242495c45e", func := "cenotaph/cenotaphlaw47.GapsPuts", spec := "gapsPuts", recurses := true, apart := false, narrowed := true }
def GapsPutsUptoSaid : Prop := gapsPutsUptoRow.holds Try.pinned (OpenSpec.upto gapsPutsSpec)

/-- 'cenotaphlaw47.GapsReads', WHERE WHAT IT READS IS OF BULK AT MOST 1048576: true; the input reads as it did. -/
def gapsReadsUptoRow : OpenClaim := { program := "ytoidloofclalhab", sum := "c29fdbb96262657b5b138247e2c517c83c49d4e579535d8fe53d1e242495c45e", func := "cenotaph/cenotaphlaw47.GapsReads", spec := "gapsReads", recurses := true, apart := false, narrowed := true }
def GapsReadsUptoSaid : Prop := gapsReadsUptoRow.holds Try.pinned (OpenSpec.upto gapsReadsSpec)

/-- 'cenotaphlaw47.GapsRuns', WHERE WHAT IT READS IS OF BULK AT MOST 1048576: true; the input reads as it did. -/
def gapsRunsUptoRow : OpenClaim := { program := "ytoidloofclalhab", sum := "c29fdbb96262657b5b138247e2c517c83c49d4e579535d8fe53d1e242495c45e", func := "cenotaph/cenotaphlaw47.GapsRuns", spec := "gapsRuns", apart := false, narrowed := true }
def GapsRunsUptoSaid : Prop := gapsRunsUptoRow.holds Try.pinned (OpenSpec.upto gapsRunsSpec)

/-- 'cenotaphlaw47.GapsMany', WHERE WHAT IT READS IS OF BULK AT MOST 1048576: true; the input reads as it did. -/
def gapsManyUptoRow : OpenClaim := { program := "ytoidloofclalhab", sum := "c29fdbb96262657b5b138247e2c517c83c49d4e579535d8fe53d1e242495c45e", func := "cenotaph/cenotaphlaw47.GapsMany", spec := "gapsMany", apart := false, narrowed := true }
def GapsManyUptoSaid : Prop := gapsManyUptoRow.holds Try.pinned (OpenSpec.upto gapsManySpec)

/-- 'cenotaphlaw48.WaitBounds', WHERE WHAT IT READS IS OF BULK AT MOST 1048576: true; the input reads as it did. -/
def waitBoundsUptoRow : OpenClaim := { program := "ytoidloofclalhab", sum := "c29fdbb96262657b5b138247e2c517c83c49d4e579535d8fe53d1e242495c45e", func := "cenotaph/cenotaphlaw48.WaitBounds", spec := "waitBounds", apart := false, narrowed := true }
def WaitBoundsUptoSaid : Prop := waitBoundsUptoRow.holds Try.pinned (OpenSpec.upto waitBoundsSpec)

/-- 'cenotaphlaw48.WaitTries', WHERE WHAT IT READS IS OF BULK AT MOST 1048576: true; the input reads as it did. -/
def waitTriesUptoRow : OpenClaim := { program := "ytoidloofclalhab", sum := "c29fdbb96262657b5b138247e2c517c83c49d4e579535d8fe53d1e242495c45e", func := "cenotaph/cenotaphlaw48.WaitTries", spec := "waitTries", unfollowed := true, recurses := true, apart := false, narrowed := true }
def WaitTriesUptoSaid : Prop := waitTriesUptoRow.holds Try.pinned (OpenSpec.upto waitTriesSpec)

end Rows
end Go.Proofs.Ytoidloofclalhab
