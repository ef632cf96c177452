/- Layer 38 (glob): Match, by the code. -/
import Derived.Test.YtfnjmboflegaaaaDoorGj
import Derived.Laws.Tables
namespace Go.Proofs.YtfnjmboflegaaaaDoor
open Go.RowKit

theorem places_info : (Tryd.prog.info? 44).map (fun i => (i.zero, i.size)) = some (some (.agg (arrB fun _ => false)), 101) := by kernel_rfl
theorem places_zero (w : World) : (zeroValue 44).run Tryd.prog w = .ok (.agg (arrB fun _ => false)) w := by
  have h := places_info
  cases hi : Tryd.prog.info? 44 with
  | none => rw [hi] at h; simp at h
  | some i =>
    rw [hi] at h
    simp at h
    simp [zeroValue, typeInfo, hi, h.1]
theorem places_size (w : World) : (sizeOf 44).run Tryd.prog w = .ok 101 w := by
  have h := places_info
  cases hi : Tryd.prog.info? 44 with
  | none => rw [hi] at h; simp at h
  | some i =>
    rw [hi] at h
    simp at h
    simp [sizeOf, typeInfo, hi, h.2]
theorem arr_size (f : Nat → Bool) : (arrB f).size = 101 := by simp [arrB]
theorem arr_one (f : Nat → Bool) : ∀ v ∈ (arrB f).toList, v.oneCell' = true := by
  intro v hv
  simp [arrB] at hv
  obtain ⟨i, _, rfl⟩ := hv
  rfl
theorem store_places (w : World) (cs : Array Value) (f g : Nat → Bool) : ∃ W1, (storeCells ⟨w.heap.size + 1, 0, none⟩ (arrB g).toList).run Tryd.prog ((w.alloc (.cells cs 24)).alloc (.cells (arrB f) 44)) = .ok () W1 ∧
    Bx W1 (w.heap.size + 1) 44 (arrB g) ∧ Bx W1 w.heap.size 24 cs ∧ Below w.heap.size w W1 := by
  have h0 : Bx ((w.alloc (.cells cs 24)).alloc (.cells (arrB f) 44)) (w.heap.size + 1) 44 (arrB f) := Bx.fresh' (w.alloc _) (by simp) _ _
  have h1 : Bx ((w.alloc (.cells cs 24)).alloc (.cells (arrB f) 44)) w.heap.size 24 cs := (Bx.fresh w _ _).past _
  have e0 : Below w.heap.size w ((w.alloc (.cells cs 24)).alloc (.cells (arrB f) 44)) := ((Below.refl _ _).alloc (Nat.le_refl _) _).alloc (by simp) _
  generalize ((w.alloc (.cells cs 24)).alloc (.cells (arrB f) 44)) = W0 at *
  have hr := run_storeCells_from (P := Tryd.prog) (w.heap.size + 1) 44 (arrB g).toList 0 (arrB f) W0 h0 (by simp [arr_size]) (arr_one g)
  refine ⟨_, hr, ?_, ?_, ?_⟩
  · unfold Bx at h0 ⊢
    simp [World.setRow, Array.getElem?_modify, h0]
  · unfold Bx at h1 ⊢
    simp [World.setRow, Array.getElem?_modify, h1]
  · refine e0.grown (w' := _) (row := some (w.heap.size + 1)) ⟨rfl, rfl, rfl, by simp [World.setRow], fun k _ hk => ?_⟩ e0.size (fun k hk => by cases hk; omega)
    simp only [World.setRow, Array.getElem?_modify]
    rw [if_neg (fun e => hk (by rw [e]))]
end Go.Proofs.YtfnjmboflegaaaaDoor
