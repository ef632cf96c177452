/- Words of my own: a text's iterator in a world; rows of texts that a call owns. No program. -/
import Derived.Test.YtljhnkcoknikgaaKit
import Derived.Lib.OthersKept
import Derived.Deep.AppendLies
import Derived.Deep.Onto
import Derived.OwnWalk
import Derived.Lib.SmallJoins
import Derived.Lib.Strings
namespace Go.Proofs.Ytljhnkcoknikgaa
open Go.RowKit

/-- Block k is an iterator that stands at pos in the text s. -/
def It (w : World) (k : Nat) (s : ByteArray) (pos : Nat) : Prop := w.heap[k]? = some (.stringIter s pos)
section
variable {w w' : World} {k pos : Nat} {s : ByteArray}
theorem It.inside (h : It w k s pos) : k < w.heap.size := (Array.getElem?_eq_some_iff.1 h).1
theorem It.fresh (w : World) (s : ByteArray) (pos : Nat) : It (w.iter s pos) w.heap.size s pos := World.iter_heap w s pos
theorem It.step (h : It w k s pos) (p : Nat) : It (w.iterAt k s p) k s p := Lib.iterAt_heap w k s pos p h
theorem It.past (h : It w k s pos) (o : Obj) : It (w.alloc o) k s pos := by
  have hk := h.inside
  show (w.heap.push o)[k]? = _
  rw [Array.getElem?_push, if_neg (by omega)]
  exact h
theorem It.later {B : Nat} (h : It w k s pos) (hb : Below B w w') (hk : k < B) : It w' k s pos := by
  unfold It at h ⊢
  rw [hb.block k hk, h]
theorem It.next (h : It w k s pos) (hb : Below w.heap.size w w') : It w' k s pos := h.later hb h.inside
theorem It.grown {row : Option Nat} (h : It w k s pos) (hg : w.grownBy w' row) (hr : row ≠ some k) : It w' k s pos := by
  unfold It at h ⊢
  rw [hg.block k (It.inside h) (fun e => hr e.symm), h]
theorem It.place (h : It w k s pos) : w.iterPos k = pos := iterPos_of h
end
theorem own_ne {w : World} {k B : Nat} {e : TypeId} {sz n : Nat} {v : Value} {xs : List Value} (h : w.ownsRow B e sz v n xs) (hk : k < B) : v.ownBlock ≠ some k := by
  intro he
  have := (h.lt k he).1
  omega

theorem own_next {w w' : World} {B n : Nat} {e : TypeId} {sz : Nat} {v : Value} {xs : List Value} (h : w.ownsRow B e sz v n xs) (hb : Below w.heap.size w w') : w'.ownsRow B e sz v n xs := by
  refine ⟨h.1, ?_⟩
  rcases h.2 with h2 | ⟨g, cap, cur, a, b, c, d⟩
  · exact .inl h2
  · exact .inr ⟨g, cap, cur, a, b, by rw [hb.block g (Array.getElem?_eq_some_iff.1 c).1]; exact c, d⟩
theorem gtrans {a b c : World} {row : Option Nat} (h : a.grownBy b row) (k : b.grownBy c row) : a.grownBy c row :=
  ⟨k.os.trans h.os, k.tape.trans h.tape, k.output.trans h.output, Nat.le_trans h.size k.size, fun i hi hr => (k.block i (Nat.lt_of_lt_of_le hi h.size) hr).trans (h.block i hi hr)⟩
def mkB (l : List UInt8) : ByteArray := ⟨l.toArray⟩
theorem mkB_data (l : List UInt8) : (mkB l).data.toList = l := rfl
theorem mkB_of (s : ByteArray) : mkB s.data.toList = s := bytes_inj' rfl
theorem mkB_size (l : List UInt8) : (mkB l).size = l.length := by simp [mkB, ByteArray.size]
theorem mkB_snoc (l : List UInt8) (s : ByteArray) (k : Nat) (h : k < s.size) : mkB (l ++ [s[k]]) = mkB l ++ s.extract k (k + 1) := by
  apply bytes_inj'
  rw [mkB_data, ByteArray.toList_data_append, mkB_data, Lib.extract_data]
  have : List.drop k s.data.toList = s[k] :: List.drop (k + 1) s.data.toList := by
    have hl : k < s.data.toList.length := by simpa using h
    rw [List.drop_eq_getElem_cons hl]; rfl
  rw [this]; simp
/-- The bytes from a to b. -/
def mid (s : ByteArray) (a b : Nat) : List UInt8 := (s.data.toList.drop a).take (b - a)
theorem mid_extract (s : ByteArray) (a b : Nat) : mkB (mid s a b) = s.extract a b := bytes_inj' (by rw [mkB_data, Lib.extract_data]; rfl)
theorem mid_self (s : ByteArray) (a : Nat) : mid s a a = [] := by simp [mid]
theorem mid_snoc (s : ByteArray) (a b : Nat) (hab : a ≤ b) (h : b < s.size) : mid s a (b + 1) = mid s a b ++ [s[b]] := by
  unfold mid
  rw [show b + 1 - a = (b - a) + 1 from by omega, List.take_add_one, List.getElem?_drop, show a + (b - a) = b from by omega, byte_at s b h]
  rfl
theorem mid_len (s : ByteArray) (a b : Nat) (h : b ≤ s.size) : (mid s a b).length = b - a := by unfold mid; rw [List.length_take, List.length_drop, len_data]; omega
/-- Texts as values. -/
def vals (l : List (List UInt8)) : List Value := l.map fun x => Value.string (mkB x)
theorem vals_len (l : List (List UInt8)) : (vals l).length = l.length := by simp [vals]
theorem vals_snoc (l : List (List UInt8)) (x : List UInt8) : vals l ++ [.string (mkB x)] = vals (l ++ [x]) := by simp [vals]
end Go.Proofs.Ytljhnkcoknikgaa
