/-
  No cell of these rows narrows 'for every input' (looked for: loops, veiled, ifaces, maps, wideKeys, modest, calm, conditions, laid).
  DERIVED. THE GIVEN ROWS OF THIS SEAT. 8 by the template 'for every input the law returns true; each argument reads behind the call as it read before'; 0 by the template 'total and deterministic' (their statements: YtljhnkcoknikgaaTotals.lean).
  GIVEN WITH THE SEED: the statements are not yours to turn. If you find one false, say at which input.
  Laid BY PROGRAM, IN A SANDBOX (cutbox-rows.mjs): the forced cells as the released guide's own fill.sh prints them over the translation f91bee2042ecf6a5… (all of the seat's roots in one cut). By AI agents, Wed Nov 11 2026. No macro, syntax, notation, axiom, sorry.
-/
import Derived.Test.YtljhnkcoknikgaaChecked
import GoSem.Claim
import GoSem.ClaimJoined
import GoSem.ClaimMapViews
import Derived.JoinedTies
import Derived.KernelRfl
namespace Go.Proofs.Ytljhnkcoknikgaa
/- THE CELL 'sum', in the pinned program and in every row, IS THE sha256 OF THE DUMP (.gsa) THAT YtljhnkcoknikgaaProg.lean LOADS. Nothing in Lean hashes anything: it is a label: what it is worth is what the hold of that sum in a sandbox is worth. -/
noncomputable def Try.pinned : Pinned := { name := "ytljhnkcoknikgaa", sum := "f91bee2042ecf6a532282ed439b83a0e67b02ca883fc6b73911b7e7909cc0ec3", checked := Try.checked }
namespace Rows
def none {H : Type} : Left H := { results := [], args := [] }

/-- 'cenotaphlaw44.HistCounts': WHATEVER THE INPUT: true; the input reads as it did. -/
def histCountsSpec : ChangeSpec := { name := "histCounts", fn := fun _ => fun
  | [d1, d2] => { results := [.lit (.bool true)], args := [d1, d2] }
  | _ => none }
def histCountsRow : OpenClaim := { program := "ytljhnkcoknikgaa", sum := "f91bee2042ecf6a532282ed439b83a0e67b02ca883fc6b73911b7e7909cc0ec3", func := "cenotaph/cenotaphlaw44.HistCounts", spec := "histCounts", inPlace := ["internal/abi.NoEscape", "internal/bytealg.MakeNoZero"], unfollowed := true, recurses := true, apart := false }
def HistCountsSaid : Prop := histCountsRow.holds Try.pinned (OpenSpec.ofChange histCountsSpec)

/-- ITS FALSE NEIGHBOUR: 'it returns false'. Refute it at one input. -/
def histCountsWrong : ChangeSpec := { name := "histCounts", fn := fun _ => fun
  | [d1, d2] => { results := [.lit (.bool false)], args := [d1, d2] }
  | _ => none }
def HistCountsWrongFalsely : Prop := histCountsRow.holds Try.pinned (OpenSpec.ofChange histCountsWrong)

/-- 'cenotaphlaw44.HistBuckets': WHATEVER THE INPUT: true; the input reads as it did. -/
def histBucketsSpec : ChangeSpec := { name := "histBuckets", fn := fun _ => fun
  | [d1, d2] => { results := [.lit (.bool true)], args := [d1, d2] }
  | _ => none }
def histBucketsRow : OpenClaim := { program := "ytljhnkcoknikgaa", sum := "f91bee2042ecf6a532282ed439b83a0e67b02ca883fc6b73911b7e7909cc0ec3", func := "cenotaph/cenotaphlaw44.HistBuckets", spec := "histBuckets", inPlace := ["internal/abi.NoEscape", "internal/bytealg.MakeNoZero"], unfollowed := true, recurses := true, apart := false }
def HistBucketsSaid : Prop := histBucketsRow.holds Try.pinned (OpenSpec.ofChange histBucketsSpec)

/-- ITS FALSE NEIGHBOUR: 'it returns false'. Refute it at one input. -/
def histBucketsWrong : ChangeSpec := { name := "histBuckets", fn := fun _ => fun
  | [d1, d2] => { results := [.lit (.bool false)], args := [d1, d2] }
  | _ => none }
def HistBucketsWrongFalsely : Prop := histBucketsRow.holds Try.pinned (OpenSpec.ofChange histBucketsWrong)

/-- 'cenotaphlaw07.MutOrders': WHATEVER THE INPUT: true; the input reads as it did. -/
def mutOrdersSpec : ChangeSpec := { name := "mutOrders", fn := fun _ => fun
  | [d1, d2, d3] => { results := [.lit (.bool true)], args := [d1, d2, d3] }
  | _ => none }
def mutOrdersRow : OpenClaim := { program := "ytljhnkcoknikgaa", sum := "f91bee2042ecf6a532282ed439b83a0e67b02ca883fc6b73911b7e7909cc0ec3", func := "cenotaph/cenotaphlaw07.MutOrders", spec := "mutOrders", unfollowed := true, recurses := true, apart := false }
def MutOrdersSaid : Prop := mutOrdersRow.holds Try.pinned (OpenSpec.ofChange mutOrdersSpec)

/-- ITS FALSE NEIGHBOUR: 'it returns false'. Refute it at one input. -/
def mutOrdersWrong : ChangeSpec := { name := "mutOrders", fn := fun _ => fun
  | [d1, d2, d3] => { results := [.lit (.bool false)], args := [d1, d2, d3] }
  | _ => none }
def MutOrdersWrongFalsely : Prop := mutOrdersRow.holds Try.pinned (OpenSpec.ofChange mutOrdersWrong)

/-- 'cenotaphlaw13.MemCompares': WHATEVER THE INPUT: true; the input reads as it did. -/
def memComparesSpec : ChangeSpec := { name := "memCompares", fn := fun _ => fun
  | [d1, d2] => { results := [.lit (.bool true)], args := [d1, d2] }
  | _ => none }
def memComparesRow : OpenClaim := { program := "ytljhnkcoknikgaa", sum := "f91bee2042ecf6a532282ed439b83a0e67b02ca883fc6b73911b7e7909cc0ec3", func := "cenotaph/cenotaphlaw13.MemCompares", spec := "memCompares", unfollowed := true, recurses := true, apart := false }
def MemComparesSaid : Prop := memComparesRow.holds Try.pinned (OpenSpec.ofChange memComparesSpec)

/-- ITS FALSE NEIGHBOUR: 'it returns false'. Refute it at one input. -/
def memComparesWrong : ChangeSpec := { name := "memCompares", fn := fun _ => fun
  | [d1, d2] => { results := [.lit (.bool false)], args := [d1, d2] }
  | _ => none }
def MemComparesWrongFalsely : Prop := memComparesRow.holds Try.pinned (OpenSpec.ofChange memComparesWrong)

/-- 'cenotaphlaw18.TierEach': WHATEVER THE INPUT: true; the input reads as it did. -/
def tierEachSpec : ChangeSpec := { name := "tierEach", fn := fun _ => fun
  | [d] => { results := [.lit (.bool true)], args := [d] }
  | _ => none }
def tierEachRow : OpenClaim := { program := "ytljhnkcoknikgaa", sum := "f91bee2042ecf6a532282ed439b83a0e67b02ca883fc6b73911b7e7909cc0ec3", func := "cenotaph/cenotaphlaw18.TierEach", spec := "tierEach", unfollowed := true, recurses := true, apart := false }
def TierEachSaid : Prop := tierEachRow.holds Try.pinned (OpenSpec.ofChange tierEachSpec)

/-- ITS FALSE NEIGHBOUR: 'it returns false'. Refute it at one input. -/
def tierEachWrong : ChangeSpec := { name := "tierEach", fn := fun _ => fun
  | [d] => { results := [.lit (.bool false)], args := [d] }
  | _ => none }
def TierEachWrongFalsely : Prop := tierEachRow.holds Try.pinned (OpenSpec.ofChange tierEachWrong)

/-- 'cenotaphlaw12.FrameCuts': WHATEVER THE INPUT: true; the input reads as it did. -/
def frameCutsSpec : ChangeSpec := { name := "frameCuts", fn := fun _ => fun
  | [d1, d2] => { results := [.lit (.bool true)], args := [d1, d2] }
  | _ => none }
def frameCutsRow : OpenClaim := { program := "ytljhnkcoknikgaa", sum := "f91bee2042ecf6a532282ed439b83a0e67b02ca883fc6b73911b7e7909cc0ec3", func := "cenotaph/cenotaphlaw12.FrameCuts", spec := "frameCuts", unfollowed := true, recurses := true, apart := false }
def FrameCutsSaid : Prop := frameCutsRow.holds Try.pinned (OpenSpec.ofChange frameCutsSpec)

/-- ITS FALSE NEIGHBOUR: 'it returns false'. Refute it at one input. -/
def frameCutsWrong : ChangeSpec := { name := "frameCuts", fn := fun _ => fun
  | [d1, d2] => { results := [.lit (.bool false)], args := [d1, d2] }
  | _ => none }
def FrameCutsWrongFalsely : Prop := frameCutsRow.holds Try.pinned (OpenSpec.ofChange frameCutsWrong)

/-- 'cenotaphlaw12.FrameReads': WHATEVER THE INPUT: true; the input reads as it did. -/
def frameReadsSpec : ChangeSpec := { name := "frameReads", fn := fun _ => fun
  | [d1, d2] => { results := [.lit (.bool true)], args := [d1, d2] }
  | _ => none }
def frameReadsRow : OpenClaim := { program := "ytljhnkcoknikgaa", sum := "f91bee2042ecf6a532282ed439b83a0e67b02ca883fc6b73911b7e7909cc0ec3", func := "cenotaph/cenotaphlaw12.FrameReads", spec := "frameReads", unfollowed := true, recurses := true, apart := false }
def FrameReadsSaid : Prop := frameReadsRow.holds Try.pinned (OpenSpec.ofChange frameReadsSpec)

/-- ITS FALSE NEIGHBOUR: 'it returns false'. Refute it at one input. -/
def frameReadsWrong : ChangeSpec := { name := "frameReads", fn := fun _ => fun
  | [d1, d2] => { results := [.lit (.bool false)], args := [d1, d2] }
  | _ => none }
def FrameReadsWrongFalsely : Prop := frameReadsRow.holds Try.pinned (OpenSpec.ofChange frameReadsWrong)

/-- 'cenotaphlaw43.PickOrders': WHATEVER THE INPUT: true; the input reads as it did. -/
def pickOrdersSpec : ChangeSpec := { name := "pickOrders", fn := fun _ => fun
  | [d1, d2] => { results := [.lit (.bool true)], args := [d1, d2] }
  | _ => none }
def pickOrdersRow : OpenClaim := { program := "ytljhnkcoknikgaa", sum := "f91bee2042ecf6a532282ed439b83a0e67b02ca883fc6b73911b7e7909cc0ec3", func := "cenotaph/cenotaphlaw43.PickOrders", spec := "pickOrders", unfollowed := true, recurses := true, apart := false }
def PickOrdersSaid : Prop := pickOrdersRow.holds Try.pinned (OpenSpec.ofChange pickOrdersSpec)

/-- ITS FALSE NEIGHBOUR: 'it returns false'. Refute it at one input. -/
def pickOrdersWrong : ChangeSpec := { name := "pickOrders", fn := fun _ => fun
  | [d1, d2] => { results := [.lit (.bool false)], args := [d1, d2] }
  | _ => none }
def PickOrdersWrongFalsely : Prop := pickOrdersRow.holds Try.pinned (OpenSpec.ofChange pickOrdersWrong)

/- THE SECOND FORM. 'bulk': how many values and letters a reading holds, each counted each time it is reached (what is shared counts as often as it is met; a slice's spare places count too). A statement '..UptoSaid' is the law's where the arguments, and the package variables that the reading takes, are together of bulk at most 1048576: NARROWER than '..Said'. Prove '..Said' where nothing that the law and all that it calls make is longer than what came in: it says more and counts as full. Else prove '..UptoSaid'. A law counts once. -/
mutual
def uptoBulk {H : Type} : DataW H → Nat
  | .lit (.string bytes) => bytes.length + 1
  | .lit _ => 1
  | .nil => 1
  | .ptr d => uptoBulk d + 1
  | .slice elems spare => uptoBulkAll elems + uptoBulkAll spare + 1
  | .agg parts => uptoBulkAll parts + 1
  | .iface _ d => uptoBulk d + 1
  | .map entries => uptoBulkEntries entries + 1
  | .held _ => 1
def uptoBulkAll {H : Type} : List (DataW H) → Nat
  | [] => 0
  | d :: r => uptoBulk d + uptoBulkAll r
def uptoBulkEntries {H : Type} : List (Lit × DataW H) → Nat
  | [] => 0
  | x :: r => uptoBulkEntry x + uptoBulkEntries r
def uptoBulkEntry {H : Type} : Lit × DataW H → Nat
  | (.string bytes, d) => bytes.length + uptoBulk d + 1
  | (_, d) => uptoBulk d + 1
 end
def uptoSmall : (H : Type) → List (DataW H) → Bool := fun _ ds => decide (uptoBulkAll ds ≤ 1048576)
def OpenSpec.upto (s : _root_.Go.ChangeSpec) : _root_.Go.OpenSpec := { _root_.Go.OpenSpec.ofChange s with cond := some uptoSmall }

/-- 'cenotaphlaw44.HistCounts', WHERE WHAT IT READS IS OF BULK AT MOST 1048576: true; the input reads as it did. -/
def histCountsUptoRow : OpenClaim := { program := "ytljhnkcoknikgaa", sum := "f91bee2042ecf6a532282ed439b83a0e67b02ca883fc6b73911b7e7909cc0ec3", func := "cenotaph/cenotaphlaw44.HistCounts", spec := "histCounts", inPlace := ["internal/abi.NoEscape", "internal/bytealg.MakeNoZero"], unfollowed := true, recurses := true, apart := false, narrowed := true }
def HistCountsUptoSaid : Prop := histCountsUptoRow.holds Try.pinned (OpenSpec.upto histCountsSpec)

/-- 'cenotaphlaw44.HistBuckets', WHERE WHAT IT READS IS OF BULK AT MOST 1048576: true; the input reads as it did. -/
def histBucketsUptoRow : OpenClaim := { program := "ytljhnkcoknikgaa", sum := "f91bee2042ecf6a532282ed439b83a0e67b02ca883fc6b73911b7e7909cc0ec3", func := "cenotaph/cenotaphlaw44.HistBuckets", spec := "histBuckets", inPlace := ["internal/abi.NoEscape", "internal/bytealg.MakeNoZero"], unfollowed := true, recurses := true, apart := false, narrowed := true }
def HistBucketsUptoSaid : Prop := histBucketsUptoRow.holds Try.pinned (OpenSpec.upto histBucketsSpec)

/-- 'cenotaphlaw07.MutOrders', WHERE WHAT IT READS IS OF BULK AT MOST 1048576: true; the input reads as it did. -/
def mutOrdersUptoRow : OpenClaim := { program := "ytljhnkcoknikgaa", sum := "f91bee2042ecf6a532282ed439b83a0e67b02ca883fc6b73911b7e7909cc0ec3", func := "cenotaph/cenotaphlaw07.MutOrders", spec := "mutOrders", unfollowed := true, recurses := true, apart := false, narrowed := true }
def MutOrdersUptoSaid : Prop := mutOrdersUptoRow.holds Try.pinned (OpenSpec.upto mutOrdersSpec)

/-- 'cenotaphlaw13.MemCompares', WHERE WHAT IT READS IS OF BULK AT MOST 1048576: true; the input reads as it did. -/
def memComparesUptoRow : OpenClaim := { program := "ytljhnkcoknikgaa", sum := "f91bee2042ecf6a532282ed439b83a0e67b02ca883fc6b73911b7e7909cc0ec3", func := "cenotaph/cenotaphlaw13.MemCompares", spec := "memCompares", unfollowed := true, recurses := true, apart := false, narrowed := true }
def MemComparesUptoSaid : Prop := memComparesUptoRow.holds Try.pinned (OpenSpec.upto memComparesSpec)

/-- 'cenotaphlaw18.TierEach', WHERE WHAT IT READS IS OF BULK AT MOST 1048576: true; the input reads as it did. -/
def tierEachUptoRow : OpenClaim := { program := "ytljhnkcoknikgaa", sum := "f91bee2042ecf6a532282ed439b83a0e67b02ca883fc6b73911b7e7909cc0ec3", func := "cenotaph/cenotaphlaw18.TierEach", spec := "tierEach", unfollowed := true, recurses := true, apart := false, narrowed := true }
def TierEachUptoSaid : Prop := tierEachUptoRow.holds Try.pinned (OpenSpec.upto tierEachSpec)

/-- 'cenotaphlaw12.FrameCuts', WHERE WHAT IT READS IS OF BULK AT MOST 1048576: true; the input reads as it did. -/
def frameCutsUptoRow : OpenClaim := { program := "ytljhnkcoknikgaa", sum := "f91bee2042ecf6a532282ed439b83a0e67b02ca883fc6b73911b7e7909cc0ec3", func := "cenotaph/cenotaphlaw12.FrameCuts", spec := "frameCuts", unfollowed := true, recurses := true, apart := false, narrowed := true }
def FrameCutsUptoSaid : Prop := frameCutsUptoRow.holds Try.pinned (OpenSpec.upto frameCutsSpec)

/-- 'cenotaphlaw12.FrameReads', WHERE WHAT IT READS IS OF BULK AT MOST 1048576: true; the input reads as it did. -/
def frameReadsUptoRow : OpenClaim := { program := "ytljhnkcoknikgaa", sum := "f91bee2042ecf6a532282ed439b83a0e67b02ca883fc6b73911b7e7909cc0ec3", func := "cenotaph/cenotaphlaw12.FrameReads", spec := "frameReads", unfollowed := true, recurses := true, apart := false, narrowed := true }
def FrameReadsUptoSaid : Prop := frameReadsUptoRow.holds Try.pinned (OpenSpec.upto frameReadsSpec)

/-- 'cenotaphlaw43.PickOrders', WHERE WHAT IT READS IS OF BULK AT MOST 1048576: true; the input reads as it did. -/
def pickOrdersUptoRow : OpenClaim := { program := "ytljhnkcoknikgaa", sum := "f91bee2042ecf6a532282ed439b83a0e67b02ca883fc6b73911b7e7909cc0ec3", func := "cenotaph/cenotaphlaw43.PickOrders", spec := "pickOrders", unfollowed := true, recurses := true, apart := false, narrowed := true }
def PickOrdersUptoSaid : Prop := pickOrdersUptoRow.holds Try.pinned (OpenSpec.upto pickOrdersSpec)

end Rows
end Go.Proofs.Ytljhnkcoknikgaa
