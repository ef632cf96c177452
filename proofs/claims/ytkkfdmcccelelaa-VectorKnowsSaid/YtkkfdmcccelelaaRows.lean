/-
  No cell of these rows narrows 'for every input' (looked for: loops, veiled, ifaces, maps, wideKeys, modest, calm, conditions, laid).
  DERIVED. THE GIVEN ROWS OF THIS SEAT. 5 by the template 'for every input the law returns true; each argument reads behind the call as it read before'; 0 by the template 'total and deterministic' (their statements: YtkkfdmcccelelaaTotals.lean).
  GIVEN WITH THE SEED: the statements are not yours to turn. If you find one false, say at which input.
  Laid BY PROGRAM, IN A SANDBOX (cutbox-rows.mjs): the forced cells as the released guide's own fill.sh prints them over the translation 3de7357af0a024a6… (all of the seat's roots in one cut). By AI agents, Wed Nov 11 2026. No macro, syntax, notation, axiom, sorry.
-/
import Derived.Test.YtkkfdmcccelelaaChecked
import GoSem.Claim
import GoSem.ClaimJoined
import GoSem.ClaimMapViews
import Derived.JoinedTies
import Derived.KernelRfl
namespace Go.Proofs.Ytkkfdmcccelelaa
/- THE CELL 'sum', in the pinned program and in every row, IS THE sha256 OF THE DUMP (.gsa) THAT YtkkfdmcccelelaaProg.lean LOADS. Nothing in Lean hashes anything: it is a label: what it is worth is what the hold of that sum in a sandbox is worth. -/
noncomputable def Try.pinned : Pinned := { name := "ytkkfdmcccelelaa", sum := "3de7357af0a024a636acae856c5f985502e5fe0ce2983506a1799ed64f4362e7", checked := Try.checked }
namespace Rows
def none {H : Type} : Left H := { results := [], args := [] }

/-- 'cenotaphlaw05.VectorKnows': WHATEVER THE INPUT: true; the input reads as it did. -/
def vectorKnowsSpec : ChangeSpec := { name := "vectorKnows", fn := fun _ => fun
  | [d1, d2] => { results := [.lit (.bool true)], args := [d1, d2] }
  | _ => none }
def vectorKnowsRow : OpenClaim := { program := "ytkkfdmcccelelaa", sum := "3de7357af0a024a636acae856c5f985502e5fe0ce2983506a1799ed64f4362e7", func := "cenotaph/cenotaphlaw05.VectorKnows", spec := "vectorKnows", unfollowed := true, recurses := true, apart := false }
def VectorKnowsSaid : Prop := vectorKnowsRow.holds Try.pinned (OpenSpec.ofChange vectorKnowsSpec)

/-- ITS FALSE NEIGHBOUR: 'it returns false'. Refute it at one input. -/
def vectorKnowsWrong : ChangeSpec := { name := "vectorKnows", fn := fun _ => fun
  | [d1, d2] => { results := [.lit (.bool false)], args := [d1, d2] }
  | _ => none }
def VectorKnowsWrongFalsely : Prop := vectorKnowsRow.holds Try.pinned (OpenSpec.ofChange vectorKnowsWrong)

/-- 'cenotaphlaw05.VectorJoins': WHATEVER THE INPUT: true; the input reads as it did. -/
def vectorJoinsSpec : ChangeSpec := { name := "vectorJoins", fn := fun _ => fun
  | [d1, d2] => { results := [.lit (.bool true)], args := [d1, d2] }
  | _ => none }
def vectorJoinsRow : OpenClaim := { program := "ytkkfdmcccelelaa", sum := "3de7357af0a024a636acae856c5f985502e5fe0ce2983506a1799ed64f4362e7", func := "cenotaph/cenotaphlaw05.VectorJoins", spec := "vectorJoins", unfollowed := true, recurses := true, apart := false }
def VectorJoinsSaid : Prop := vectorJoinsRow.holds Try.pinned (OpenSpec.ofChange vectorJoinsSpec)

/-- ITS FALSE NEIGHBOUR: 'it returns false'. Refute it at one input. -/
def vectorJoinsWrong : ChangeSpec := { name := "vectorJoins", fn := fun _ => fun
  | [d1, d2] => { results := [.lit (.bool false)], args := [d1, d2] }
  | _ => none }
def VectorJoinsWrongFalsely : Prop := vectorJoinsRow.holds Try.pinned (OpenSpec.ofChange vectorJoinsWrong)

/-- 'cenotaphlaw05.VectorNext': WHATEVER THE INPUT: true; the input reads as it did. -/
def vectorNextSpec : ChangeSpec := { name := "vectorNext", fn := fun _ => fun
  | [d1, d2] => { results := [.lit (.bool true)], args := [d1, d2] }
  | _ => none }
def vectorNextRow : OpenClaim := { program := "ytkkfdmcccelelaa", sum := "3de7357af0a024a636acae856c5f985502e5fe0ce2983506a1799ed64f4362e7", func := "cenotaph/cenotaphlaw05.VectorNext", spec := "vectorNext", unfollowed := true, recurses := true, apart := false }
def VectorNextSaid : Prop := vectorNextRow.holds Try.pinned (OpenSpec.ofChange vectorNextSpec)

/-- ITS FALSE NEIGHBOUR: 'it returns false'. Refute it at one input. -/
def vectorNextWrong : ChangeSpec := { name := "vectorNext", fn := fun _ => fun
  | [d1, d2] => { results := [.lit (.bool false)], args := [d1, d2] }
  | _ => none }
def VectorNextWrongFalsely : Prop := vectorNextRow.holds Try.pinned (OpenSpec.ofChange vectorNextWrong)

/-- 'cenotaphlaw06.DotsSets': WHATEVER THE INPUT: true; the input reads as it did. -/
def dotsSetsSpec : ChangeSpec := { name := "dotsSets", fn := fun _ => fun
  | [d1, d2] => { results := [.lit (.bool true)], args := [d1, d2] }
  | _ => none }
def dotsSetsRow : OpenClaim := { program := "ytkkfdmcccelelaa", sum := "3de7357af0a024a636acae856c5f985502e5fe0ce2983506a1799ed64f4362e7", func := "cenotaph/cenotaphlaw06.DotsSets", spec := "dotsSets", unfollowed := true, recurses := true, apart := false }
def DotsSetsSaid : Prop := dotsSetsRow.holds Try.pinned (OpenSpec.ofChange dotsSetsSpec)

/-- ITS FALSE NEIGHBOUR: 'it returns false'. Refute it at one input. -/
def dotsSetsWrong : ChangeSpec := { name := "dotsSets", fn := fun _ => fun
  | [d1, d2] => { results := [.lit (.bool false)], args := [d1, d2] }
  | _ => none }
def DotsSetsWrongFalsely : Prop := dotsSetsRow.holds Try.pinned (OpenSpec.ofChange dotsSetsWrong)

/-- 'cenotaphlaw06.DotsJoins': WHATEVER THE INPUT: true; the input reads as it did. -/
def dotsJoinsSpec : ChangeSpec := { name := "dotsJoins", fn := fun _ => fun
  | [d1, d2] => { results := [.lit (.bool true)], args := [d1, d2] }
  | _ => none }
def dotsJoinsRow : OpenClaim := { program := "ytkkfdmcccelelaa", sum := "3de7357af0a024a636acae856c5f985502e5fe0ce2983506a1799ed64f4362e7", func := "cenotaph/cenotaphlaw06.DotsJoins", spec := "dotsJoins", unfollowed := true, recurses := true, apart := false }
def DotsJoinsSaid : Prop := dotsJoinsRow.holds Try.pinned (OpenSpec.ofChange dotsJoinsSpec)

/-- ITS FALSE NEIGHBOUR: 'it returns false'. Refute it at one input. -/
def dotsJoinsWrong : ChangeSpec := { name := "dotsJoins", fn := fun _ => fun
  | [d1, d2] => { results := [.lit (.bool false)], args := [d1, d2] }
  | _ => none }
def DotsJoinsWrongFalsely : Prop := dotsJoinsRow.holds Try.pinned (OpenSpec.ofChange dotsJoinsWrong)

/- THE SECOND FORM. 'bulk': how many values and letters a reading holds, each counted each time it is reached (what is shared counts as often as it is met; a slice's spare places count too). A statement '..UptoSaid' is the law's where the arguments, and the package variables that the reading takes, are together of bulk at most 1048576: NARROWER than '..Said'. Prove '..Said' where nothing that the law and all that it calls make is longer than what came in: it says more and counts as full. Else prove '..UptoSaid'. A law counts once. -/
mutual
def uptoBulk {H : Type} : DataW H → Nat
  | .lit (.string bytes) => bytes.length + 1
  | .lit _ => 1
  | .nil => 1
  | .ptr d => uptoBulk d + 1
  | .slice elems spare => uptoBulkAll elems + uptoBulkAll spare + 1
  | .agg parts => uptoBulkAll parts + 1
  | .iface _ d => uptoBulk d + 1
  | .map entries => uptoBulkEntries entries + 1
  | .held _ => 1
def uptoBulkAll {H : Type} : List (DataW H) → Nat
  | [] => 0
  | d :: r => uptoBulk d + uptoBulkAll r
def uptoBulkEntries {H : Type} : List (Lit × DataW H) → Nat
  | [] => 0
  | x :: r => uptoBulkEntry x + uptoBulkEntries r
def uptoBulkEntry {H : Type} : Lit × DataW H → Nat
  | (.string bytes, d) => bytes.length + uptoBulk d + 1
  | (_, d) => uptoBulk d + 1
 end
def uptoSmall : (H : Type) → List (DataW H) → Bool := fun _ ds => decide (uptoBulkAll ds ≤ 1048576)
def OpenSpec.upto (s : _root_.Go.ChangeSpec) : _root_.Go.OpenSpec := { _root_.Go.OpenSpec.ofChange s with cond := some uptoSmall }

/-- 'cenotaphlaw05.VectorKnows', WHERE WHAT IT READS IS OF BULK AT MOST 1048576: true; the input reads as it did. -/
def vectorKnowsUptoRow : OpenClaim := { program := "ytkkfdmcccelelaa", sum := "3de7357af0a024a636acae856c5f985502e5fe0ce2983506a1799ed64f4362e7", func := "cenotaph/cenotaphlaw05.VectorKnows", spec := "vectorKnows", unfollowed := true, recurses := true, apart := false, narrowed := true }
def VectorKnowsUptoSaid : Prop := vectorKnowsUptoRow.holds Try.pinned (OpenSpec.upto vectorKnowsSpec)

/-- 'cenotaphlaw05.VectorJoins', WHERE WHAT IT READS IS OF BULK AT MOST 1048576: true; the input reads as it did. -/
def vectorJoinsUptoRow : OpenClaim := { program := "ytkkfdmcccelelaa", sum := "3de7357af0a024a636acae856c5f985502e5fe0ce2983506a1799ed64f4362e7", func := "cenotaph/cenotaphlaw05.VectorJoins", spec := "vectorJoins", unfollowed := true, recurses := true, apart := false, narrowed := true }
def VectorJoinsUptoSaid : Prop := vectorJoinsUptoRow.holds Try.pinned (OpenSpec.upto vectorJoinsSpec)

/-- 'cenotaphlaw05.VectorNext', WHERE WHAT IT READS IS OF BULK AT MOST 1048576: true; the input reads as it did. -/
def vectorNextUptoRow : OpenClaim := { program := "ytkkfdmcccelelaa", sum := "3de7357af0a024a636acae856c5f985502e5fe0ce2983506a1799ed64f4362e7", func := "cenotaph/cenotaphlaw05.VectorNext", spec := "vectorNext", unfollowed := true, recurses := true, apart := false, narrowed := true }
def VectorNextUptoSaid : Prop := vectorNextUptoRow.holds Try.pinned (OpenSpec.upto vectorNextSpec)

/-- 'cenotaphlaw06.DotsSets', WHERE WHAT IT READS IS OF BULK AT MOST 1048576: true; the input reads as it did. -/
def dotsSetsUptoRow : OpenClaim := { program := "ytkkfdmcccelelaa", sum := "3de7357af0a024a636acae856c5f985502e5fe0ce2983506a1799ed64f4362e7", func := "cenotaph/cenotaphlaw06.DotsSets", spec := "dotsSets", unfollowed := true, recurses := true, apart := false, narrowed := true }
def DotsSetsUptoSaid : Prop := dotsSetsUptoRow.holds Try.pinned (OpenSpec.upto dotsSetsSpec)

/-- 'cenotaphlaw06.DotsJoins', WHERE WHAT IT READS IS OF BULK AT MOST 1048576: true; the input reads as it did. -/
def dotsJoinsUptoRow : OpenClaim := { program := "ytkkfdmcccelelaa", sum := "3de7357af0a024a636acae856c5f985502e5fe0ce2983506a1799ed64f4362e7", func := "cenotaph/cenotaphlaw06.DotsJoins", spec := "dotsJoins", unfollowed := true, recurses := true, apart := false, narrowed := true }
def DotsJoinsUptoSaid : Prop := dotsJoinsUptoRow.holds Try.pinned (OpenSpec.upto dotsJoinsSpec)

end Rows
end Go.Proofs.Ytkkfdmcccelelaa
