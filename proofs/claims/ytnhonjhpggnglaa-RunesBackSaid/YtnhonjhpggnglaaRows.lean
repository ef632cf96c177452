/-
  No cell of these rows narrows 'for every input' (looked for: loops, veiled, ifaces, maps, wideKeys, modest, calm, conditions, laid).
  DERIVED. THE GIVEN ROWS OF THIS SEAT. 5 by the template 'for every input the law returns true; each argument reads behind the call as it read before'; 0 by the template 'total and deterministic' (their statements: YtnhonjhpggnglaaTotals.lean).
  GIVEN WITH THE SEED: the statements are not yours to turn. If you find one false, say at which input.
  Laid BY PROGRAM, IN A SANDBOX (cutbox-rows.mjs): the forced cells as the released guide's own fill.sh prints them over the translation 00b968676360a80d… (all of the seat's roots in one cut). By AI agents, Wed Nov 11 2026. No macro, syntax, notation, axiom, sorry.
-/
import Derived.Test.YtnhonjhpggnglaaChecked
import GoSem.Claim
import GoSem.ClaimJoined
import GoSem.ClaimMapViews
import Derived.JoinedTies
import Derived.KernelRfl
namespace Go.Proofs.Ytnhonjhpggnglaa
/- THE CELL 'sum', in the pinned program and in every row, IS THE sha256 OF THE DUMP (.gsa) THAT YtnhonjhpggnglaaProg.lean LOADS. Nothing in Lean hashes anything: it is a label: what it is worth is what the hold of that sum in a sandbox is worth. -/
noncomputable def Try.pinned : Pinned := { name := "ytnhonjhpggnglaa", sum := "00b968676360a80d38fa6ff17d1d63fc1814e6b67a8a4a2ea34b223a5966d554", checked := Try.checked }
namespace Rows
def none {H : Type} : Left H := { results := [], args := [] }

/-- 'cenotaphlaw01.RunesBack': WHATEVER THE INPUT: true; the input reads as it did. -/
def runesBackSpec : ChangeSpec := { name := "runesBack", fn := fun _ => fun
  | [d] => { results := [.lit (.bool true)], args := [d] }
  | _ => none }
def runesBackRow : OpenClaim := { program := "ytnhonjhpggnglaa", sum := "00b968676360a80d38fa6ff17d1d63fc1814e6b67a8a4a2ea34b223a5966d554", func := "cenotaph/cenotaphlaw01.RunesBack", spec := "runesBack", inPlace := ["internal/bytealg.IndexByteString", "internal/bytealg.IndexString"], named := ["internal/bytealg.MaxLen"], apart := false }
def RunesBackSaid : Prop := runesBackRow.holds Try.pinned (OpenSpec.ofChange runesBackSpec)

/-- ITS FALSE NEIGHBOUR: 'it returns false'. Refute it at one input. -/
def runesBackWrong : ChangeSpec := { name := "runesBack", fn := fun _ => fun
  | [d] => { results := [.lit (.bool false)], args := [d] }
  | _ => none }
def RunesBackWrongFalsely : Prop := runesBackRow.holds Try.pinned (OpenSpec.ofChange runesBackWrong)

/-- 'cenotaphlaw01.RunesWords': WHATEVER THE INPUT: true; the input reads as it did. -/
def runesWordsSpec : ChangeSpec := { name := "runesWords", fn := fun _ => fun
  | [d] => { results := [.lit (.bool true)], args := [d] }
  | _ => none }
def runesWordsRow : OpenClaim := { program := "ytnhonjhpggnglaa", sum := "00b968676360a80d38fa6ff17d1d63fc1814e6b67a8a4a2ea34b223a5966d554", func := "cenotaph/cenotaphlaw01.RunesWords", spec := "runesWords", apart := false }
def RunesWordsSaid : Prop := runesWordsRow.holds Try.pinned (OpenSpec.ofChange runesWordsSpec)

/-- ITS FALSE NEIGHBOUR: 'it returns false'. Refute it at one input. -/
def runesWordsWrong : ChangeSpec := { name := "runesWords", fn := fun _ => fun
  | [d] => { results := [.lit (.bool false)], args := [d] }
  | _ => none }
def RunesWordsWrongFalsely : Prop := runesWordsRow.holds Try.pinned (OpenSpec.ofChange runesWordsWrong)

/-- 'cenotaphlaw02.NumsTexts': WHATEVER THE INPUT: true; the input reads as it did. -/
def numsTextsSpec : ChangeSpec := { name := "numsTexts", fn := fun _ => fun
  | [d1, d2] => { results := [.lit (.bool true)], args := [d1, d2] }
  | _ => none }
def numsTextsRow : OpenClaim := { program := "ytnhonjhpggnglaa", sum := "00b968676360a80d38fa6ff17d1d63fc1814e6b67a8a4a2ea34b223a5966d554", func := "cenotaph/cenotaphlaw02.NumsTexts", spec := "numsTexts", apart := false }
def NumsTextsSaid : Prop := numsTextsRow.holds Try.pinned (OpenSpec.ofChange numsTextsSpec)

/-- ITS FALSE NEIGHBOUR: 'it returns false'. Refute it at one input. -/
def numsTextsWrong : ChangeSpec := { name := "numsTexts", fn := fun _ => fun
  | [d1, d2] => { results := [.lit (.bool false)], args := [d1, d2] }
  | _ => none }
def NumsTextsWrongFalsely : Prop := numsTextsRow.holds Try.pinned (OpenSpec.ofChange numsTextsWrong)

/-- 'cenotaphlaw02.NumsAdds': WHATEVER THE INPUT: true; the input reads as it did. -/
def numsAddsSpec : ChangeSpec := { name := "numsAdds", fn := fun _ => fun
  | [d1, d2] => { results := [.lit (.bool true)], args := [d1, d2] }
  | _ => none }
def numsAddsRow : OpenClaim := { program := "ytnhonjhpggnglaa", sum := "00b968676360a80d38fa6ff17d1d63fc1814e6b67a8a4a2ea34b223a5966d554", func := "cenotaph/cenotaphlaw02.NumsAdds", spec := "numsAdds", apart := false }
def NumsAddsSaid : Prop := numsAddsRow.holds Try.pinned (OpenSpec.ofChange numsAddsSpec)

/-- ITS FALSE NEIGHBOUR: 'it returns false'. Refute it at one input. -/
def numsAddsWrong : ChangeSpec := { name := "numsAdds", fn := fun _ => fun
  | [d1, d2] => { results := [.lit (.bool false)], args := [d1, d2] }
  | _ => none }
def NumsAddsWrongFalsely : Prop := numsAddsRow.holds Try.pinned (OpenSpec.ofChange numsAddsWrong)

/-- 'cenotaphlaw02.NumsStamps': WHATEVER THE INPUT: true; the input reads as it did. -/
def numsStampsSpec : ChangeSpec := { name := "numsStamps", fn := fun _ => fun
  | [d1, d2] => { results := [.lit (.bool true)], args := [d1, d2] }
  | _ => none }
def numsStampsRow : OpenClaim := { program := "ytnhonjhpggnglaa", sum := "00b968676360a80d38fa6ff17d1d63fc1814e6b67a8a4a2ea34b223a5966d554", func := "cenotaph/cenotaphlaw02.NumsStamps", spec := "numsStamps", inPlace := ["internal/bytealg.IndexByteString", "internal/bytealg.IndexString"], named := ["internal/bytealg.MaxLen"], apart := false }
def NumsStampsSaid : Prop := numsStampsRow.holds Try.pinned (OpenSpec.ofChange numsStampsSpec)

/-- ITS FALSE NEIGHBOUR: 'it returns false'. Refute it at one input. -/
def numsStampsWrong : ChangeSpec := { name := "numsStamps", fn := fun _ => fun
  | [d1, d2] => { results := [.lit (.bool false)], args := [d1, d2] }
  | _ => none }
def NumsStampsWrongFalsely : Prop := numsStampsRow.holds Try.pinned (OpenSpec.ofChange numsStampsWrong)

/- THE SECOND FORM. 'bulk': how many values and letters a reading holds, each counted each time it is reached (what is shared counts as often as it is met; a slice's spare places count too). A statement '..UptoSaid' is the law's where the arguments, and the package variables that the reading takes, are together of bulk at most 1048576: NARROWER than '..Said'. Prove '..Said' where nothing that the law and all that it calls make is longer than what came in: it says more and counts as full. Else prove '..UptoSaid'. A law counts once. -/
mutual
def uptoBulk {H : Type} : DataW H → Nat
  | .lit (.string bytes) => bytes.length + 1
  | .lit _ => 1
  | .nil => 1
  | .ptr d => uptoBulk d + 1
  | .slice elems spare => uptoBulkAll elems + uptoBulkAll spare + 1
  | .agg parts => uptoBulkAll parts + 1
  | .iface _ d => uptoBulk d + 1
  | .map entries => uptoBulkEntries entries + 1
  | .held _ => 1
def uptoBulkAll {H : Type} : List (DataW H) → Nat
  | [] => 0
  | d :: r => uptoBulk d + uptoBulkAll r
def uptoBulkEntries {H : Type} : List (Lit × DataW H) → Nat
  | [] => 0
  | x :: r => uptoBulkEntry x + uptoBulkEntries r
def uptoBulkEntry {H : Type} : Lit × DataW H → Nat
  | (.string bytes, d) => bytes.length + uptoBulk d + 1
  | (_, d) => uptoBulk d + 1
 end
def uptoSmall : (H : Type) → List (DataW H) → Bool := fun _ ds => decide (uptoBulkAll ds ≤ 1048576)
def OpenSpec.upto (s : _root_.Go.ChangeSpec) : _root_.Go.OpenSpec := { _root_.Go.OpenSpec.ofChange s with cond := some uptoSmall }

/-- 'cenotaphlaw01.RunesBack', WHERE WHAT IT READS IS OF BULK AT MOST 1048576: true; the input reads as it did. -/
def runesBackUptoRow : OpenClaim := { program := "ytnhonjhpggnglaa", sum := "00b968676360a80d38fa6ff17d1d63fc1814e6b67a8a4a2ea34b223a5966d554", func := "cenotaph/cenotaphlaw01.RunesBack", spec := "runesBack", inPlace := ["internal/bytealg.IndexByteString", "internal/bytealg.IndexString"], named := ["internal/bytealg.MaxLen"], apart := false, narrowed := true }
def RunesBackUptoSaid : Prop := runesBackUptoRow.holds Try.pinned (OpenSpec.upto runesBackSpec)

/-- 'cenotaphlaw01.RunesWords', WHERE WHAT IT READS IS OF BULK AT MOST 1048576: true; the input reads as it did. -/
def runesWordsUptoRow : OpenClaim := { program := "ytnhonjhpggnglaa", sum := "00b968676360a80d38fa6ff17d1d63fc1814e6b67a8a4a2ea34b223a5966d554", func := "cenotaph/cenotaphlaw01.RunesWords", spec := "runesWords", apart := false, narrowed := true }
def RunesWordsUptoSaid : Prop := runesWordsUptoRow.holds Try.pinned (OpenSpec.upto runesWordsSpec)

/-- 'cenotaphlaw02.NumsTexts', WHERE WHAT IT READS IS OF BULK AT MOST 1048576: true; the input reads as it did. -/
def numsTextsUptoRow : OpenClaim := { program := "ytnhonjhpggnglaa", sum := "00b968676360a80d38fa6ff17d1d63fc1814e6b67a8a4a2ea34b223a5966d554", func := "cenotaph/cenotaphlaw02.NumsTexts", spec := "numsTexts", apart := false, narrowed := true }
def NumsTextsUptoSaid : Prop := numsTextsUptoRow.holds Try.pinned (OpenSpec.upto numsTextsSpec)

/-- 'cenotaphlaw02.NumsAdds', WHERE WHAT IT READS IS OF BULK AT MOST 1048576: true; the input reads as it did. -/
def numsAddsUptoRow : OpenClaim := { program := "ytnhonjhpggnglaa", sum := "00b968676360a80d38fa6ff17d1d63fc1814e6b67a8a4a2ea34b223a5966d554", func := "cenotaph/cenotaphlaw02.NumsAdds", spec := "numsAdds", apart := false, narrowed := true }
def NumsAddsUptoSaid : Prop := numsAddsUptoRow.holds Try.pinned (OpenSpec.upto numsAddsSpec)

/-- 'cenotaphlaw02.NumsStamps', WHERE WHAT IT READS IS OF BULK AT MOST 1048576: true; the input reads as it did. -/
def numsStampsUptoRow : OpenClaim := { program := "ytnhonjhpggnglaa", sum := "00b968676360a80d38fa6ff17d1d63fc1814e6b67a8a4a2ea34b223a5966d554", func := "cenotaph/cenotaphlaw02.NumsStamps", spec := "numsStamps", inPlace := ["internal/bytealg.IndexByteString", "internal/bytealg.IndexString"], named := ["internal/bytealg.MaxLen"], apart := false, narrowed := true }
def NumsStampsUptoSaid : Prop := numsStampsUptoRow.holds Try.pinned (OpenSpec.upto numsStampsSpec)

end Rows
end Go.Proofs.Ytnhonjhpggnglaa
