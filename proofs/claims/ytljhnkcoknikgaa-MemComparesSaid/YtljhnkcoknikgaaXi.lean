/- Layer 7 (mut): the statement MutOrders' walk at what comes in. -/
import Derived.Test.YtljhnkcoknikgaaXg
import Derived.Test.YtljhnkcoknikgaaXh
import Derived.Test.YtljhnkcoknikgaaX5
namespace Go.Proofs.Ytljhnkcoknikgaa
open Go.RowKit

theorem rcmp_ok : RCmp := fun a b oa ob h1 h2 w h3 h4 => rcompare_any a b oa ob h1 h2 w h3 h4
theorem mutorderslaw (va vb : Value) (key : ByteArray) {P : Prop} (_ : P) (w : World) (ha : MutV w va) (hb : MutV w vb) :
    Calls Try.prog 5 #[va, vb, .string key] w fun e w' => e = .returned (.bool true) ∧ Below w.heap.size w w' := by
  obtain ⟨a, oa, rfl, ha⟩ := ha
  obtain ⟨b, ob, rfl, hb⟩ := hb
  exact orderslaw rcmp_ok _ _ a b oa ob key w rfl rfl ha hb
end Go.Proofs.Ytljhnkcoknikgaa
