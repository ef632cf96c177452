/- Layer 13 (mem): the statement MemCompares' walk at what comes in. -/
import Derived.Test.YtljhnkcoknikgaaXi
import Derived.Test.YtljhnkcoknikgaaXt
namespace Go.Proofs.Ytljhnkcoknikgaa
open Go.RowKit

theorem memcompareslaw (va vb : Value) (w : World) (ha : MutV w va) (hb : MutV w vb) :
    Calls Try.prog 6 #[va, vb] w fun e w' => e = .returned (.bool true) ∧ Below w.heap.size w w' := by
  obtain ⟨a, oa, rfl, ha⟩ := ha
  obtain ⟨b, ob, rfl, hb⟩ := hb
  exact memcompares_any rcmp_ok a b oa ob w ha hb
end Go.Proofs.Ytljhnkcoknikgaa
