/- An argument that is an array of three texts, opened. -/
import Derived.Test.YtfnjmboflegaaaaDoorKit
import Derived.Test.YtfnjmboflegaaaaDoorProg
import Derived.Test.YtfnjmboflegaaaaDoorChecked
import Derived.ProofKit
import Derived.OpenShut
import Derived.Laws.IdiomArrays
import Derived.ChangeArms
import Derived.ChangeOld
import Derived.Lib.SmallJoins
namespace Go.Proofs.YtfnjmboflegaaaaDoor
open Go.RowKit Go.ChangeShapes Go.WideShapes Go.Joins

set_option maxRecDepth 100000 in
theorem open_strs3 {H : Type} {enc : TypeId × Value → H} {w : World} {r : Reach} {base : Nat} {spare : Nat → Bool} {held : Bool} {v : Value} {d : DataW H} {p : List MemPlace} (hv : Value.okWide Tryd.prog w r base 35 v)
    (h : DataW.Trod enc Tryd.prog w 0 spare held 35 v d p) : ∃ a b c : ByteArray, v = .agg #[.string a, .string b, .string c] ∧ a.size ≤ maxLen ∧ b.size ≤ maxLen ∧ c.size ≤ maxLen := by
  have hC : Tryd.prog.cellsOf 35 = 3 := by kernel_rfl
  have hC1 : Tryd.prog.cellsOf 9 = 1 := by kernel_rfl
  simp only [Value.okWide, Tryd.underlying35] at hv
  obtain ⟨cs, rfl, hsz, _⟩ := hv
  obtain ⟨fuel, hf⟩ := h
  have h3 : cs.size = 3 := by rw [hsz, hC]
  match cs, h3 with
  | ⟨[c0, c1, c2]⟩, _ =>
    obtain ⟨y0, y1, y2, n, _, g0, g1, g2⟩ := trod_array3 Tryd.underlying35 hC1 (show DataW.trod enc Tryd.prog w 0 spare held fuel 35 [c0, c1, c2] = some (d, p) by simpa [Value.cells] using hf)
    obtain ⟨s0, e0, _, w0⟩ := DataW.trod_string Tryd.underlying9 g0
    obtain ⟨s1, e1, _, w1⟩ := DataW.trod_string Tryd.underlying9 g1
    obtain ⟨s2, e2, _, w2⟩ := DataW.trod_string Tryd.underlying9 g2
    simp at e0 e1 e2
    subst e0 e1 e2
    exact ⟨s0, s1, s2, rfl, w0, w1, w2⟩
end Go.Proofs.YtfnjmboflegaaaaDoor
