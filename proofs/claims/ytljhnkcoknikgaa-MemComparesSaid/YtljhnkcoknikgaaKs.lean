/- Words of my own for structs in memory: their cells read, their cells free. No program. -/
import Derived.Test.YtljhnkcoknikgaaKit
namespace Go.Proofs.Ytljhnkcoknikgaa
open Go.RowKit
section
variable {w w' : World} {g : Nat} {t : TypeId}
theorem Bx.fresh' {n : Nat} (w : World) (hn : w.heap.size = n) (t : TypeId) (cs : Array Value) : Bx (w.alloc (.cells cs t)) n t cs := by
  subst hn; exact Bx.fresh w t cs
theorem Bx.reads3 {a b c : Value} (h : Bx w g t #[a, b, c]) : w.cell? ⟨g, 0, none⟩ = some a ∧ w.cell? ⟨g, 1, none⟩ = some b ∧ w.cell? ⟨g, 2, none⟩ = some c := ⟨h.read rfl, h.read rfl, h.read rfl⟩
theorem Bx.opens3 {cs : Array Value} (h : Bx w g t cs) : w.frozen? ⟨g, 0, none⟩ = false ∧ w.frozen? ⟨g, 1, none⟩ = false ∧ w.frozen? ⟨g, 2, none⟩ = false := ⟨h.open_ 0, h.open_ 1, h.open_ 2⟩
theorem Bx.reads5 {a b c d e : Value} (h : Bx w g t #[a, b, c, d, e]) : w.cell? ⟨g, 0, none⟩ = some a ∧ w.cell? ⟨g, 1, none⟩ = some b ∧ w.cell? ⟨g, 2, none⟩ = some c ∧ w.cell? ⟨g, 3, none⟩ = some d ∧ w.cell? ⟨g, 4, none⟩ = some e := ⟨h.read rfl, h.read rfl, h.read rfl, h.read rfl, h.read rfl⟩
theorem Bx.opens5 {cs : Array Value} (h : Bx w g t cs) : w.frozen? ⟨g, 0, none⟩ = false ∧ w.frozen? ⟨g, 1, none⟩ = false ∧ w.frozen? ⟨g, 2, none⟩ = false ∧ w.frozen? ⟨g, 3, none⟩ = false ∧ w.frozen? ⟨g, 4, none⟩ = false := ⟨h.open_ 0, h.open_ 1, h.open_ 2, h.open_ 3, h.open_ 4⟩
theorem Bx.put3 {a b c x y z : Value} (h : Bx w g t #[a, b, c]) : Bx (((w.setCell ⟨g, 0, none⟩ x).setCell ⟨g, 1, none⟩ y).setCell ⟨g, 2, none⟩ z) g t #[x, y, z] := by
  have := ((h.put 0 x).put 1 y).put 2 z
  exact this
end
end Go.Proofs.Ytljhnkcoknikgaa
