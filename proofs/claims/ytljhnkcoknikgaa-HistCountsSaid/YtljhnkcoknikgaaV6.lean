/- Layer 44 (hist): the statement HistCounts' walk: its counting loop. -/
import Derived.Test.YtljhnkcoknikgaaV5
import Derived.Test.YtljhnkcoknikgaaV1
namespace Go.Proofs.Ytljhnkcoknikgaa
open Go.RowKit

/-- The law's own count. -/
def WI (w : World) (A : List Int) (k : Nat) (W : World) : Prop := ∃ cs, Bx W w.heap.size 24 cs ∧ HC cs (cntF (A.take k)) ∧ Below w.heap.size w W
theorem WI.step {w W : World} {L : List Int} {k : Nat} (hk : k < L.length) (h : WI w L k W) (hl : L.length ≤ 140737488355328) : W.cell? ⟨w.heap.size, bk L[k], none⟩ = some (.int .i64 (cntF (L.take k) (bk L[k]))) ∧ W.frozen? ⟨w.heap.size, bk L[k], none⟩ = false ∧
    WI w L (k + 1) (W.setCell ⟨w.heap.size, bk L[k], none⟩ (.int .i64 (cntF (L.take k) (bk L[k]) + 1))) := by
  obtain ⟨cs, h1, h2, h5⟩ := h
  have hb := bk_le L[k]
  have hc := cntF_bd (L.take k) (bk L[k])
  have hle : (L.take k).length ≤ L.length := by simp; omega
  refine ⟨h1.read (h2.at_ _ (by omega)), h1.open_ _, cs.setIfInBounds (bk L[k]) (.int .i64 (cntF (L.take k) (bk L[k]) + 1)), h1.put _ _, ?_, h5.setCell (p := ⟨w.heap.size, bk L[k], none⟩) (Nat.le_refl _) _⟩
  refine (h2.put (bk L[k]) (by omega) (cntF (L.take k) (bk L[k]) + 1) (by omega)).congr fun b hb' => ?_
  rw [List.take_succ_eq_append_getElem hk, cntF_snoc]
  by_cases e : b = bk L[k]
  · rw [if_pos e, if_pos e, e]
  · rw [if_neg e, if_neg e]
end Go.Proofs.Ytljhnkcoknikgaa
