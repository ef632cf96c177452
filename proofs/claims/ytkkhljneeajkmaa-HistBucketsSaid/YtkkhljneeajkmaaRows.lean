/-
  No cell of these rows narrows 'for every input' (looked for: loops, veiled, ifaces, maps, wideKeys, modest, calm, conditions, laid).
  DERIVED. THE GIVEN ROWS OF THIS SEAT. 12 by the template 'for every input the law returns true; each argument reads behind the call as it read before'; 0 by the template 'total and deterministic' (their statements: YtkkhljneeajkmaaTotals.lean).
  GIVEN WITH THE SEED: the statements are not yours to turn. If you find one false, say at which input.
  Laid BY PROGRAM, IN A SANDBOX (cutbox-rows.mjs): the forced cells as the released guide's own fill.sh prints them over the translation 8f804bd39a9049fc… (all of the seat's roots in one cut). By AI agents, Wed Nov 11 2026. No macro, syntax, notation, axiom, sorry.
-/
import Derived.Test.YtkkhljneeajkmaaChecked
import GoSem.Claim
import GoSem.ClaimJoined
import GoSem.ClaimMapViews
import Derived.JoinedTies
import Derived.KernelRfl
namespace Go.Proofs.Ytkkhljneeajkmaa
/- THE CELL 'sum', in the pinned program and in every row, IS THE sha256 OF THE DUMP (.gsa) THAT YtkkhljneeajkmaaProg.lean LOADS. Nothing in Lean hashes anything: it is a label: what it is worth is what the hold of that sum in a sandbox is worth. -/
noncomputable def Try.pinned : Pinned := { name := "ytkkhljneeajkmaa", sum := "8f804bd39a9049fce8a0d5e093600cfc3f0295edf2c200101ddbba0fae5fe23a", checked := Try.checked }
namespace Rows
def none {H : Type} : Left H := { results := [], args := [] }

/-- 'cenotaphlaw23.LeaseReady': WHATEVER THE INPUT: true; the input reads as it did. -/
def leaseReadySpec : ChangeSpec := { name := "leaseReady", fn := fun _ => fun
  | [d1, d2] => { results := [.lit (.bool true)], args := [d1, d2] }
  | _ => none }
def leaseReadyRow : OpenClaim := { program := "ytkkhljneeajkmaa", sum := "8f804bd39a9049fce8a0d5e093600cfc3f0295edf2c200101ddbba0fae5fe23a", func := "cenotaph/cenotaphlaw23.LeaseReady", spec := "leaseReady", apart := false }
def LeaseReadySaid : Prop := leaseReadyRow.holds Try.pinned (OpenSpec.ofChange leaseReadySpec)

/-- ITS FALSE NEIGHBOUR: 'it returns false'. Refute it at one input. -/
def leaseReadyWrong : ChangeSpec := { name := "leaseReady", fn := fun _ => fun
  | [d1, d2] => { results := [.lit (.bool false)], args := [d1, d2] }
  | _ => none }
def LeaseReadyWrongFalsely : Prop := leaseReadyRow.holds Try.pinned (OpenSpec.ofChange leaseReadyWrong)

/-- 'cenotaphlaw23.LeaseOver': WHATEVER THE INPUT: true; the input reads as it did. -/
def leaseOverSpec : ChangeSpec := { name := "leaseOver", fn := fun _ => fun
  | [d] => { results := [.lit (.bool true)], args := [d] }
  | _ => none }
def leaseOverRow : OpenClaim := { program := "ytkkhljneeajkmaa", sum := "8f804bd39a9049fce8a0d5e093600cfc3f0295edf2c200101ddbba0fae5fe23a", func := "cenotaph/cenotaphlaw23.LeaseOver", spec := "leaseOver", apart := false }
def LeaseOverSaid : Prop := leaseOverRow.holds Try.pinned (OpenSpec.ofChange leaseOverSpec)

/-- ITS FALSE NEIGHBOUR: 'it returns false'. Refute it at one input. -/
def leaseOverWrong : ChangeSpec := { name := "leaseOver", fn := fun _ => fun
  | [d] => { results := [.lit (.bool false)], args := [d] }
  | _ => none }
def LeaseOverWrongFalsely : Prop := leaseOverRow.holds Try.pinned (OpenSpec.ofChange leaseOverWrong)

/-- 'cenotaphlaw23.LeasePlays': WHATEVER THE INPUT: true; the input reads as it did. -/
def leasePlaysSpec : ChangeSpec := { name := "leasePlays", fn := fun _ => fun
  | [d] => { results := [.lit (.bool true)], args := [d] }
  | _ => none }
def leasePlaysRow : OpenClaim := { program := "ytkkhljneeajkmaa", sum := "8f804bd39a9049fce8a0d5e093600cfc3f0295edf2c200101ddbba0fae5fe23a", func := "cenotaph/cenotaphlaw23.LeasePlays", spec := "leasePlays", apart := false }
def LeasePlaysSaid : Prop := leasePlaysRow.holds Try.pinned (OpenSpec.ofChange leasePlaysSpec)

/-- ITS FALSE NEIGHBOUR: 'it returns false'. Refute it at one input. -/
def leasePlaysWrong : ChangeSpec := { name := "leasePlays", fn := fun _ => fun
  | [d] => { results := [.lit (.bool false)], args := [d] }
  | _ => none }
def LeasePlaysWrongFalsely : Prop := leasePlaysRow.holds Try.pinned (OpenSpec.ofChange leasePlaysWrong)

/-- 'cenotaphlaw43.PickPlans': WHATEVER THE INPUT: true; the input reads as it did. -/
def pickPlansSpec : ChangeSpec := { name := "pickPlans", fn := fun _ => fun
  | [d1, d2] => { results := [.lit (.bool true)], args := [d1, d2] }
  | _ => none }
def pickPlansRow : OpenClaim := { program := "ytkkhljneeajkmaa", sum := "8f804bd39a9049fce8a0d5e093600cfc3f0295edf2c200101ddbba0fae5fe23a", func := "cenotaph/cenotaphlaw43.PickPlans", spec := "pickPlans", apart := false }
def PickPlansSaid : Prop := pickPlansRow.holds Try.pinned (OpenSpec.ofChange pickPlansSpec)

/-- ITS FALSE NEIGHBOUR: 'it returns false'. Refute it at one input. -/
def pickPlansWrong : ChangeSpec := { name := "pickPlans", fn := fun _ => fun
  | [d1, d2] => { results := [.lit (.bool false)], args := [d1, d2] }
  | _ => none }
def PickPlansWrongFalsely : Prop := pickPlansRow.holds Try.pinned (OpenSpec.ofChange pickPlansWrong)

/-- 'cenotaphlaw43.PickAll': WHATEVER THE INPUT: true; the input reads as it did. -/
def pickAllSpec : ChangeSpec := { name := "pickAll", fn := fun _ => fun
  | [d1, d2] => { results := [.lit (.bool true)], args := [d1, d2] }
  | _ => none }
def pickAllRow : OpenClaim := { program := "ytkkhljneeajkmaa", sum := "8f804bd39a9049fce8a0d5e093600cfc3f0295edf2c200101ddbba0fae5fe23a", func := "cenotaph/cenotaphlaw43.PickAll", spec := "pickAll", apart := false }
def PickAllSaid : Prop := pickAllRow.holds Try.pinned (OpenSpec.ofChange pickAllSpec)

/-- ITS FALSE NEIGHBOUR: 'it returns false'. Refute it at one input. -/
def pickAllWrong : ChangeSpec := { name := "pickAll", fn := fun _ => fun
  | [d1, d2] => { results := [.lit (.bool false)], args := [d1, d2] }
  | _ => none }
def PickAllWrongFalsely : Prop := pickAllRow.holds Try.pinned (OpenSpec.ofChange pickAllWrong)

/-- 'cenotaphlaw43.PickOrders': WHATEVER THE INPUT: true; the input reads as it did. -/
def pickOrdersSpec : ChangeSpec := { name := "pickOrders", fn := fun _ => fun
  | [d1, d2] => { results := [.lit (.bool true)], args := [d1, d2] }
  | _ => none }
def pickOrdersRow : OpenClaim := { program := "ytkkhljneeajkmaa", sum := "8f804bd39a9049fce8a0d5e093600cfc3f0295edf2c200101ddbba0fae5fe23a", func := "cenotaph/cenotaphlaw43.PickOrders", spec := "pickOrders", unfollowed := true, recurses := true, apart := false }
def PickOrdersSaid : Prop := pickOrdersRow.holds Try.pinned (OpenSpec.ofChange pickOrdersSpec)

/-- ITS FALSE NEIGHBOUR: 'it returns false'. Refute it at one input. -/
def pickOrdersWrong : ChangeSpec := { name := "pickOrders", fn := fun _ => fun
  | [d1, d2] => { results := [.lit (.bool false)], args := [d1, d2] }
  | _ => none }
def PickOrdersWrongFalsely : Prop := pickOrdersRow.holds Try.pinned (OpenSpec.ofChange pickOrdersWrong)

/-- 'cenotaphlaw41.SkewSteady': WHATEVER THE INPUT: true; the input reads as it did. -/
def skewSteadySpec : ChangeSpec := { name := "skewSteady", fn := fun _ => fun
  | [d1, d2] => { results := [.lit (.bool true)], args := [d1, d2] }
  | _ => none }
def skewSteadyRow : OpenClaim := { program := "ytkkhljneeajkmaa", sum := "8f804bd39a9049fce8a0d5e093600cfc3f0295edf2c200101ddbba0fae5fe23a", func := "cenotaph/cenotaphlaw41.SkewSteady", spec := "skewSteady", apart := false }
def SkewSteadySaid : Prop := skewSteadyRow.holds Try.pinned (OpenSpec.ofChange skewSteadySpec)

/-- ITS FALSE NEIGHBOUR: 'it returns false'. Refute it at one input. -/
def skewSteadyWrong : ChangeSpec := { name := "skewSteady", fn := fun _ => fun
  | [d1, d2] => { results := [.lit (.bool false)], args := [d1, d2] }
  | _ => none }
def SkewSteadyWrongFalsely : Prop := skewSteadyRow.holds Try.pinned (OpenSpec.ofChange skewSteadyWrong)

/-- 'cenotaphlaw36.DiffsRows': WHATEVER THE INPUT: true; the input reads as it did. -/
def diffsRowsSpec : ChangeSpec := { name := "diffsRows", fn := fun _ => fun
  | [d1, d2] => { results := [.lit (.bool true)], args := [d1, d2] }
  | _ => none }
def diffsRowsRow : OpenClaim := { program := "ytkkhljneeajkmaa", sum := "8f804bd39a9049fce8a0d5e093600cfc3f0295edf2c200101ddbba0fae5fe23a", func := "cenotaph/cenotaphlaw36.DiffsRows", spec := "diffsRows", unfollowed := true, recurses := true, apart := false }
def DiffsRowsSaid : Prop := diffsRowsRow.holds Try.pinned (OpenSpec.ofChange diffsRowsSpec)

/-- ITS FALSE NEIGHBOUR: 'it returns false'. Refute it at one input. -/
def diffsRowsWrong : ChangeSpec := { name := "diffsRows", fn := fun _ => fun
  | [d1, d2] => { results := [.lit (.bool false)], args := [d1, d2] }
  | _ => none }
def DiffsRowsWrongFalsely : Prop := diffsRowsRow.holds Try.pinned (OpenSpec.ofChange diffsRowsWrong)

/-- 'cenotaphlaw44.HistBuckets': WHATEVER THE INPUT: true; the input reads as it did. -/
def histBucketsSpec : ChangeSpec := { name := "histBuckets", fn := fun _ => fun
  | [d1, d2] => { results := [.lit (.bool true)], args := [d1, d2] }
  | _ => none }
def histBucketsRow : OpenClaim := { program := "ytkkhljneeajkmaa", sum := "8f804bd39a9049fce8a0d5e093600cfc3f0295edf2c200101ddbba0fae5fe23a", func := "cenotaph/cenotaphlaw44.HistBuckets", spec := "histBuckets", inPlace := ["internal/abi.NoEscape", "internal/bytealg.MakeNoZero"], unfollowed := true, recurses := true, apart := false }
def HistBucketsSaid : Prop := histBucketsRow.holds Try.pinned (OpenSpec.ofChange histBucketsSpec)

/-- ITS FALSE NEIGHBOUR: 'it returns false'. Refute it at one input. -/
def histBucketsWrong : ChangeSpec := { name := "histBuckets", fn := fun _ => fun
  | [d1, d2] => { results := [.lit (.bool false)], args := [d1, d2] }
  | _ => none }
def HistBucketsWrongFalsely : Prop := histBucketsRow.holds Try.pinned (OpenSpec.ofChange histBucketsWrong)

/-- 'cenotaphlaw12.FrameCuts': WHATEVER THE INPUT: true; the input reads as it did. -/
def frameCutsSpec : ChangeSpec := { name := "frameCuts", fn := fun _ => fun
  | [d1, d2] => { results := [.lit (.bool true)], args := [d1, d2] }
  | _ => none }
def frameCutsRow : OpenClaim := { program := "ytkkhljneeajkmaa", sum := "8f804bd39a9049fce8a0d5e093600cfc3f0295edf2c200101ddbba0fae5fe23a", func := "cenotaph/cenotaphlaw12.FrameCuts", spec := "frameCuts", unfollowed := true, recurses := true, apart := false }
def FrameCutsSaid : Prop := frameCutsRow.holds Try.pinned (OpenSpec.ofChange frameCutsSpec)

/-- ITS FALSE NEIGHBOUR: 'it returns false'. Refute it at one input. -/
def frameCutsWrong : ChangeSpec := { name := "frameCuts", fn := fun _ => fun
  | [d1, d2] => { results := [.lit (.bool false)], args := [d1, d2] }
  | _ => none }
def FrameCutsWrongFalsely : Prop := frameCutsRow.holds Try.pinned (OpenSpec.ofChange frameCutsWrong)

/-- 'cenotaphlaw12.FrameReads': WHATEVER THE INPUT: true; the input reads as it did. -/
def frameReadsSpec : ChangeSpec := { name := "frameReads", fn := fun _ => fun
  | [d1, d2] => { results := [.lit (.bool true)], args := [d1, d2] }
  | _ => none }
def frameReadsRow : OpenClaim := { program := "ytkkhljneeajkmaa", sum := "8f804bd39a9049fce8a0d5e093600cfc3f0295edf2c200101ddbba0fae5fe23a", func := "cenotaph/cenotaphlaw12.FrameReads", spec := "frameReads", unfollowed := true, recurses := true, apart := false }
def FrameReadsSaid : Prop := frameReadsRow.holds Try.pinned (OpenSpec.ofChange frameReadsSpec)

/-- ITS FALSE NEIGHBOUR: 'it returns false'. Refute it at one input. -/
def frameReadsWrong : ChangeSpec := { name := "frameReads", fn := fun _ => fun
  | [d1, d2] => { results := [.lit (.bool false)], args := [d1, d2] }
  | _ => none }
def FrameReadsWrongFalsely : Prop := frameReadsRow.holds Try.pinned (OpenSpec.ofChange frameReadsWrong)

/-- 'cenotaphlaw44.HistCounts': WHATEVER THE INPUT: true; the input reads as it did. -/
def histCountsSpec : ChangeSpec := { name := "histCounts", fn := fun _ => fun
  | [d1, d2] => { results := [.lit (.bool true)], args := [d1, d2] }
  | _ => none }
def histCountsRow : OpenClaim := { program := "ytkkhljneeajkmaa", sum := "8f804bd39a9049fce8a0d5e093600cfc3f0295edf2c200101ddbba0fae5fe23a", func := "cenotaph/cenotaphlaw44.HistCounts", spec := "histCounts", inPlace := ["internal/abi.NoEscape", "internal/bytealg.MakeNoZero"], unfollowed := true, recurses := true, apart := false }
def HistCountsSaid : Prop := histCountsRow.holds Try.pinned (OpenSpec.ofChange histCountsSpec)

/-- ITS FALSE NEIGHBOUR: 'it returns false'. Refute it at one input. -/
def histCountsWrong : ChangeSpec := { name := "histCounts", fn := fun _ => fun
  | [d1, d2] => { results := [.lit (.bool false)], args := [d1, d2] }
  | _ => none }
def HistCountsWrongFalsely : Prop := histCountsRow.holds Try.pinned (OpenSpec.ofChange histCountsWrong)

/- THE SECOND FORM. 'bulk': how many values and letters a reading holds, each counted each time it is reached (what is shared counts as often as it is met; a slice's spare places count too). A statement '..UptoSaid' is the law's where the arguments, and the package variables that the reading takes, are together of bulk at most 1048576: NARROWER than '..Said'. Prove '..Said' where nothing that the law and all that it calls make is longer than what came in: it says more and counts as full. Else prove '..UptoSaid'. A law counts once. -/
mutual
def uptoBulk {H : Type} : DataW H → Nat
  | .lit (.string bytes) => bytes.length + 1
  | .lit _ => 1
  | .nil => 1
  | .ptr d => uptoBulk d + 1
  | .slice elems spare => uptoBulkAll elems + uptoBulkAll spare + 1
  | .agg parts => uptoBulkAll parts + 1
  | .iface _ d => uptoBulk d + 1
  | .map entries => uptoBulkEntries entries + 1
  | .held _ => 1
def uptoBulkAll {H : Type} : List (DataW H) → Nat
  | [] => 0
  | d :: r => uptoBulk d + uptoBulkAll r
def uptoBulkEntries {H : Type} : List (Lit × DataW H) → Nat
  | [] => 0
  | x :: r => uptoBulkEntry x + uptoBulkEntries r
def uptoBulkEntry {H : Type} : Lit × DataW H → Nat
  | (.string bytes, d) => bytes.length + uptoBulk d + 1
  | (_, d) => uptoBulk d + 1
 end
def uptoSmall : (H : Type) → List (DataW H) → Bool := fun _ ds => decide (uptoBulkAll ds ≤ 1048576)
def OpenSpec.upto (s : _root_.Go.ChangeSpec) : _root_.Go.OpenSpec := { _root_.Go.OpenSpec.ofChange s with cond := some uptoSmall }

/-- 'cenotaphlaw23.LeaseReady', WHERE WHAT IT READS IS OF BULK AT MOST 1048576: true; the input reads as it did. -/
def leaseReadyUptoRow : OpenClaim := { program := "ytkkhljneeajkmaa", sum := "8f804bd39a9049fce8a0d5e093600cfc3f0295edf2c200101ddbba0fae5fe23a", func := "cenotaph/cenotaphlaw23.LeaseReady", spec := "leaseReady", apart := false, narrowed := true }
def LeaseReadyUptoSaid : Prop := leaseReadyUptoRow.holds Try.pinned (OpenSpec.upto leaseReadySpec)

/-- 'cenotaphlaw23.LeaseOver', WHERE WHAT IT READS IS OF BULK AT MOST 1048576: true; the input reads as it did. -/
def leaseOverUptoRow : OpenClaim := { program := "ytkkhljneeajkmaa", sum := "8f804bd39a9049fce8a0d5e093600cfc3f0295edf2c200101ddbba0fae5fe23a", func := "cenotaph/cenotaphlaw23.LeaseOver", spec := "leaseOver", apart := false, narrowed := true }
def LeaseOverUptoSaid : Prop := leaseOverUptoRow.holds Try.pinned (OpenSpec.upto leaseOverSpec)

/-- 'cenotaphlaw23.LeasePlays', WHERE WHAT IT READS IS OF BULK AT MOST 1048576: true; the input reads as it did. -/
def leasePlaysUptoRow : OpenClaim := { program := "ytkkhljneeajkmaa", sum := "8f804bd39a9049fce8a0d5e093600cfc3f0295edf2c200101ddbba0fae5fe23a", func := "cenotaph/cenotaphlaw23.LeasePlays", spec := "leasePlays", apart := false, narrowed := true }
def LeasePlaysUptoSaid : Prop := leasePlaysUptoRow.holds Try.pinned (OpenSpec.upto leasePlaysSpec)

/-- 'cenotaphlaw43.PickPlans', WHERE WHAT IT READS IS OF BULK AT MOST 1048576: true; the input reads as it did. -/
def pickPlansUptoRow : OpenClaim := { program := "ytkkhljneeajkmaa", sum := "8f804bd39a9049fce8a0d5e093600cfc3f0295edf2c200101ddbba0fae5fe23a", func := "cenotaph/cenotaphlaw43.PickPlans", spec := "pickPlans", apart := false, narrowed := true }
def PickPlansUptoSaid : Prop := pickPlansUptoRow.holds Try.pinned (OpenSpec.upto pickPlansSpec)

/-- 'cenotaphlaw43.PickAll', WHERE WHAT IT READS IS OF BULK AT MOST 1048576: true; the input reads as it did. -/
def pickAllUptoRow : OpenClaim := { program := "ytkkhljneeajkmaa", sum := "8f804bd39a9049fce8a0d5e093600cfc3f0295edf2c200101ddbba0fae5fe23a", func := "cenotaph/cenotaphlaw43.PickAll", spec := "pickAll", apart := false, narrowed := true }
def PickAllUptoSaid : Prop := pickAllUptoRow.holds Try.pinned (OpenSpec.upto pickAllSpec)

/-- 'cenotaphlaw43.PickOrders', WHERE WHAT IT READS IS OF BULK AT MOST 1048576: true; the input reads as it did. -/
def pickOrdersUptoRow : OpenClaim := { program := "ytkkhljneeajkmaa", sum := "8f804bd39a9049fce8a0d5e093600cfc3f0295edf2c200101ddbba0fae5fe23a", func := "cenotaph/cenotaphlaw43.PickOrders", spec := "pickOrders", unfollowed := true, recurses := true, apart := false, narrowed := true }
def PickOrdersUptoSaid : Prop := pickOrdersUptoRow.holds Try.pinned (OpenSpec.upto pickOrdersSpec)

/-- 'cenotaphlaw41.SkewSteady', WHERE WHAT IT READS IS OF BULK AT MOST 1048576: true; the input reads as it did. -/
def skewSteadyUptoRow : OpenClaim := { program := "ytkkhljneeajkmaa", sum := "8f804bd39a9049fce8a0d5e093600cfc3f0295edf2c200101ddbba0fae5fe23a", func := "cenotaph/cenotaphlaw41.SkewSteady", spec := "skewSteady", apart := false, narrowed := true }
def SkewSteadyUptoSaid : Prop := skewSteadyUptoRow.holds Try.pinned (OpenSpec.upto skewSteadySpec)

/-- 'cenotaphlaw36.DiffsRows', WHERE WHAT IT READS IS OF BULK AT MOST 1048576: true; the input reads as it did. -/
def diffsRowsUptoRow : OpenClaim := { program := "ytkkhljneeajkmaa", sum := "8f804bd39a9049fce8a0d5e093600cfc3f0295edf2c200101ddbba0fae5fe23a", func := "cenotaph/cenotaphlaw36.DiffsRows", spec := "diffsRows", unfollowed := true, recurses := true, apart := false, narrowed := true }
def DiffsRowsUptoSaid : Prop := diffsRowsUptoRow.holds Try.pinned (OpenSpec.upto diffsRowsSpec)

/-- 'cenotaphlaw44.HistBuckets', WHERE WHAT IT READS IS OF BULK AT MOST 1048576: true; the input reads as it did. -/
def histBucketsUptoRow : OpenClaim := { program := "ytkkhljneeajkmaa", sum := "8f804bd39a9049fce8a0d5e093600cfc3f0295edf2c200101ddbba0fae5fe23a", func := "cenotaph/cenotaphlaw44.HistBuckets", spec := "histBuckets", inPlace := ["internal/abi.NoEscape", "internal/bytealg.MakeNoZero"], unfollowed := true, recurses := true, apart := false, narrowed := true }
def HistBucketsUptoSaid : Prop := histBucketsUptoRow.holds Try.pinned (OpenSpec.upto histBucketsSpec)

/-- 'cenotaphlaw12.FrameCuts', WHERE WHAT IT READS IS OF BULK AT MOST 1048576: true; the input reads as it did. -/
def frameCutsUptoRow : OpenClaim := { program := "ytkkhljneeajkmaa", sum := "8f804bd39a9049fce8a0d5e093600cfc3f0295edf2c200101ddbba0fae5fe23a", func := "cenotaph/cenotaphlaw12.FrameCuts", spec := "frameCuts", unfollowed := true, recurses := true, apart := false, narrowed := true }
def FrameCutsUptoSaid : Prop := frameCutsUptoRow.holds Try.pinned (OpenSpec.upto frameCutsSpec)

/-- 'cenotaphlaw12.FrameReads', WHERE WHAT IT READS IS OF BULK AT MOST 1048576: true; the input reads as it did. -/
def frameReadsUptoRow : OpenClaim := { program := "ytkkhljneeajkmaa", sum := "8f804bd39a9049fce8a0d5e093600cfc3f0295edf2c200101ddbba0fae5fe23a", func := "cenotaph/cenotaphlaw12.FrameReads", spec := "frameReads", unfollowed := true, recurses := true, apart := false, narrowed := true }
def FrameReadsUptoSaid : Prop := frameReadsUptoRow.holds Try.pinned (OpenSpec.upto frameReadsSpec)

/-- 'cenotaphlaw44.HistCounts', WHERE WHAT IT READS IS OF BULK AT MOST 1048576: true; the input reads as it did. -/
def histCountsUptoRow : OpenClaim := { program := "ytkkhljneeajkmaa", sum := "8f804bd39a9049fce8a0d5e093600cfc3f0295edf2c200101ddbba0fae5fe23a", func := "cenotaph/cenotaphlaw44.HistCounts", spec := "histCounts", inPlace := ["internal/abi.NoEscape", "internal/bytealg.MakeNoZero"], unfollowed := true, recurses := true, apart := false, narrowed := true }
def HistCountsUptoSaid : Prop := histCountsUptoRow.holds Try.pinned (OpenSpec.upto histCountsSpec)

end Rows
end Go.Proofs.Ytkkhljneeajkmaa
