/- Words of my own: one block is written, new ones are laid. No program. -/
import Derived.Test.YtljhnkcoknikgaaKs
namespace Go.Proofs.Ytljhnkcoknikgaa
open Go.RowKit
section
/-! One block is written; new ones are laid; nothing else turns. -/
variable {w w' w'' : World} {g : Nat} {t : TypeId} {row : Option Nat} {cs : Array Value} {c : Nat}
theorem gb_refl (w : World) (row : Option Nat) : w.grownBy w row := ⟨rfl, rfl, rfl, Nat.le_refl _, fun _ _ _ => rfl⟩
theorem gb_trans (h : w.grownBy w' row) (k : w'.grownBy w'' row) : w.grownBy w'' row :=
  ⟨k.os.trans h.os, k.tape.trans h.tape, k.output.trans h.output, Nat.le_trans h.size k.size, fun i hi hr => (k.block i (Nat.lt_of_lt_of_le hi h.size) hr).trans (h.block i hi hr)⟩
theorem gb_below (h : Below w.heap.size w w') (row : Option Nat) : w.grownBy w' row := ⟨h.os, h.tape, h.output, h.size, fun i hi _ => h.block i hi⟩
theorem gb_set (w : World) (c i : Nat) (v : Value) : w.grownBy (w.setCell ⟨c, i, none⟩ v) (some c) :=
  ⟨rfl, rfl, rfl, by simp [World.setCell], fun k _ hr => by
    simp only [World.setCell, Array.getElem?_modify]
    rw [if_neg (fun e => hr (by rw [e]))]⟩
theorem gb_drawn (w : World) (n : Nat) (row : Option Nat) : w.grownBy (w.drewN n) row := ⟨rfl, rfl, rfl, Nat.le_refl _, fun _ _ _ => rfl⟩
theorem gb_drew (w : World) (row : Option Nat) : w.grownBy w.drew row := ⟨rfl, rfl, rfl, Nat.le_refl _, fun _ _ _ => rfl⟩
theorem gb_alloc (w : World) (o : Obj) (row : Option Nat) : w.grownBy (w.alloc o) row := gb_below ((Below.refl _ _).alloc (Nat.le_refl _) _) row
theorem gb_new (h : w.grownBy w' row) {i : Nat} (hg : w.heap.size ≤ g) (v : Value) : w.grownBy (w'.setCell ⟨g, i, none⟩ v) row :=
  ⟨h.os, h.tape, h.output, by simpa [World.setCell] using h.size, fun k hk hr => by
    simp only [World.setCell, Array.getElem?_modify]
    rw [if_neg (by omega)]
    exact h.block k hk hr⟩
theorem Bx.grown (h : Bx w g t cs) (hg : w.grownBy w' row) (hr : row ≠ some g) : Bx w' g t cs := by
  have hi := h.inside
  unfold Bx at h ⊢
  rw [hg.block g hi (fun e => hr e.symm), h]
theorem below_gb {w0 : World} (h : Below w0.heap.size w0 w) (hg : w.grownBy w' (some c)) (hc : w0.heap.size ≤ c) : Below w0.heap.size w0 w' := h.grown hg h.size (fun k hk => by cases hk; exact hc)
end
end Go.Proofs.Ytljhnkcoknikgaa
