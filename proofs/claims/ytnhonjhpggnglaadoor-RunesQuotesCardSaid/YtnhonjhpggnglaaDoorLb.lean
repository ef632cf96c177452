/- Layer 1 (runes): the lines of a text, by definition; rows of texts. No program's function. -/
import Derived.Test.YtnhonjhpggnglaaDoorRow
import Derived.Test.YtnhonjhpggnglaaDoorUt
import Derived.Test.YtnhonjhpggnglaaDoorChecked
import Derived.ProofKit
import Derived.WalkLawsBesides
import Derived.WalkSpells
import Derived.Outline
import Derived.RegionTactic
import Derived.Deep.QuietTactic
import Derived.BigQuiet
namespace Go.Proofs.YtnhonjhpggnglaaDoor
open Go.RowKit

def lnStep (p : List (List UInt8) × List UInt8) (c : UInt8) : List (List UInt8) × List UInt8 := if c = 10 then (p.1 ++ [p.2], []) else (p.1, p.2 ++ [c])
def lns (l : List UInt8) : List (List UInt8) × List UInt8 := l.foldl lnStep ([], [])
theorem lns_snoc (l : List UInt8) (c : UInt8) : lns (l ++ [c]) = lnStep (lns l) c := by simp [lns]
/-- The lines of a text. -/
def linesL (l : List UInt8) : List (List UInt8) := if (lns l).2 = [] then (lns l).1 else (lns l).1 ++ [(lns l).2]
theorem lns_len' : ∀ (l : List UInt8) (p : List (List UInt8) × List UInt8), (l.foldl lnStep p).1.length + (l.foldl lnStep p).2.length ≤ p.1.length + p.2.length + l.length
  | [], p => by simp
  | c :: l, p => by
    have h := lns_len' l (lnStep p c)
    have h2 : (lnStep p c).1.length + (lnStep p c).2.length ≤ p.1.length + p.2.length + 1 := by unfold lnStep; split <;> simp <;> omega
    simp only [List.foldl_cons, List.length_cons]
    omega
theorem lns_len (l : List UInt8) : (lns l).1.length + (lns l).2.length ≤ l.length := by
  have := lns_len' l ([], [])
  simpa [lns] using this
theorem pre_len (s : ByteArray) (k : Nat) : (pre s k).length ≤ s.size := by unfold pre; rw [List.length_take, len_data]; omega
theorem str_info : (Tryd.prog.info? 9).map (fun i => (i.zero, i.size, i.bytes)) = some (some (.string ⟨#[]⟩), 1, 16) := by kernel_rfl
theorem byte_eq (c : UInt8) (n : Nat) (h : c.toNat = n) : c = UInt8.ofNat n := by rw [← h]; simp

/-- What a call answers that makes a row of texts: it owns the row, and what was there is as it was. -/
def Row (w : World) (xs : List (List UInt8)) (e : Ending) (w' : World) : Prop := ∃ v, e = .returned v ∧ w'.ownsRow w.heap.size 9 1 v xs.length (vals xs) ∧ Below w.heap.size w w'
end Go.Proofs.YtnhonjhpggnglaaDoor
