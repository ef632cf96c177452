/- Words of my own for memory that a call makes: a block known whole; worlds one behind the other. No program. -/
import Derived.Below
import Derived.WalkKit
import Derived.WalkSmall
import Derived.Deep.Draws
import Derived.Laws.Rows
import Derived.Laws.RangeAny
import Derived.Lib.RabinKarpLaws
namespace Go.Proofs.Ytljhnkcoknikgaa
open Go.RowKit

theorem Hid.mk' {p : Prop} (h : p) : Hid p := h
theorem bnext {w w1 w2 : World} (h : Below w.heap.size w w1) (k : Below w1.heap.size w1 w2) : Below w.heap.size w w2 := h.trans (k.mono h.size)

/-- Block g of the world is just these cells, of element type t, and nothing of it is frozen. -/
def Bx (w : World) (g : Nat) (t : TypeId) (cs : Array Value) : Prop := w.heap[g]? = some (.cells cs t (0, 0))
section
variable {w w' : World} {g : Nat} {t : TypeId} {cs : Array Value}
theorem Bx.inside (h : Bx w g t cs) : g < w.heap.size := by
  by_cases hg : g < w.heap.size
  · exact hg
  · unfold Bx at h
    rw [Array.getElem?_eq_none (by omega)] at h
    exact absurd h (by simp)
theorem Bx.read (h : Bx w g t cs) {i : Nat} {v : Value} (hv : cs[i]? = some v) : w.cell? ⟨g, i, none⟩ = some v := by
  rw [cell_of_row w g i cs t (0, 0) h, hv]
theorem Bx.open_ (h : Bx w g t cs) (i : Nat) : w.frozen? ⟨g, i, none⟩ = false := by
  unfold Bx at h
  simp only [World.frozen?, h]
  simp
theorem Bx.fresh (w : World) (t : TypeId) (cs : Array Value) : Bx (w.alloc (.cells cs t)) w.heap.size t cs := by
  show (w.heap.push (.cells cs t))[w.heap.size]? = _
  simp
theorem Bx.past (h : Bx w g t cs) (o : Obj) : Bx (w.alloc o) g t cs := by
  have hg := h.inside
  show (w.heap.push o)[g]? = _
  rw [Array.getElem?_push, if_neg (by omega)]
  exact h
theorem Bx.put (h : Bx w g t cs) (i : Nat) (u : Value) : Bx (w.setCell ⟨g, i, none⟩ u) g t (cs.setIfInBounds i u) := by
  unfold Bx at h ⊢
  simp [World.setCell, Array.getElem?_modify, h]
theorem Bx.beside (h : Bx w g t cs) {p : Addr} (hp : p.block ≠ g) (u : Value) : Bx (w.setCell p u) g t cs := by
  unfold Bx at h ⊢
  rw [← h]
  simp only [World.setCell, Array.getElem?_modify]
  rw [if_neg hp]
theorem Bx.later {B : Nat} (h : Bx w g t cs) (hb : Below B w w') (hg : g < B) : Bx w' g t cs := by
  unfold Bx at h ⊢
  rw [hb.block g hg, h]
theorem Bx.next (h : Bx w g t cs) (hb : Below w.heap.size w w') : Bx w' g t cs := h.later hb h.inside
theorem Bx.drawn (h : Bx w g t cs) (n : Nat) : Bx (w.drewN n) g t cs := h
end

/-- The first k bytes of a text. -/
def pre (s : ByteArray) (k : Nat) : List UInt8 := s.data.toList.take k
theorem pre_snoc (s : ByteArray) (k : Nat) (h : k < s.size) : pre s (k + 1) = pre s k ++ [s[k]] := by
  unfold pre
  rw [List.take_add_one, byte_at s k h]; rfl
theorem pre_all (s : ByteArray) (k : Nat) (h : s.size ≤ k) : pre s k = s.data.toList := by
  unfold pre; exact List.take_of_length_le (by simpa using h)
theorem pre_append (s : ByteArray) (k : Nat) : s.data.toList = pre s k ++ s.data.toList.drop k := (List.take_append_drop _ _).symm
theorem byte_mem (s : ByteArray) (k : Nat) (h : k < s.size) : s[k] ∈ s.data.toList := List.mem_of_getElem? (byte_at s k h)
theorem len_data (s : ByteArray) : s.data.toList.length = s.size := by simp
theorem bytes_inj' {a b : ByteArray} (h : a.data.toList = b.data.toList) : a = b := by
  apply ByteArray.ext; exact Array.toList_inj.1 h
theorem ret_int {k : IntKind} {a b : Int} (h : a = b) : Ending.returned (.int k a) = .returned (.int k b) := by rw [h]
theorem ret2 {a b c d : Int} (h : a = c) (h2 : b = d) : Ending.returned (.tuple #[.int .i64 a, .int .i64 b]) = .returned (.tuple #[.int .i64 c, .int .i64 d]) := by rw [h, h2]
theorem retvb {a c : Int} {b d : Bool} (h : a = c) (h2 : b = d) : Ending.returned (.tuple #[.int .i64 a, .bool b]) = .returned (.tuple #[.int .i64 c, .bool d]) := by rw [h, h2]
end Go.Proofs.Ytljhnkcoknikgaa
