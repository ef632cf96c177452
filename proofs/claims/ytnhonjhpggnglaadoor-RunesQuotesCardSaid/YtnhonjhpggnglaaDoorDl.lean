/- Layer 1 (runes): the rune that a row of bytes begins with. No program. -/
import Derived.Test.YtnhonjhpggnglaaDoorWd
import Derived.Lib.RuneCountTail
namespace Go.Proofs.YtnhonjhpggnglaaDoor

/-- The rune that a row of bytes begins with, and its width. -/
def dl (l : List UInt8) : Nat × Nat := Utf8.decode (mkB l) 0
theorem mkB_rest (s : ByteArray) (k : Nat) : s.extract k s.size = mkB (rest s k) := by
  rw [← mid_extract]
  congr 1
  unfold mid rest
  rw [List.take_of_length_le (by rw [List.length_drop, len_data]; exact Nat.le_refl _)]
theorem dl_at (s : ByteArray) (k : Nat) : Utf8.decode s k = dl (rest s k) := by
  unfold dl
  rw [← mkB_rest, Lib.tail_decode]; rfl
theorem mk_get (l : List UInt8) (i : Nat) : (mkB l).get! i = l.getD i 0 := by
  unfold mkB
  simp [ByteArray.get!, List.getD]
  rfl
def bl (l : List UInt8) (i : Nat) : Nat := (l.getD i 0).toNat
theorem dl_eq (l : List UInt8) : dl l = Lib.decodeN l.length (bl l 0) (bl l 1) (bl l 2) (bl l 3) := by
  unfold dl
  rw [Lib.decode_at, mkB_size, mk_get, mk_get, mk_get, mk_get]; rfl
theorem dl_ascii (b : UInt8) (l : List UInt8) (h : b.toNat < 128) : dl (b :: l) = (b.toNat, 1) := by
  rw [dl_eq]; unfold Lib.decodeN
  rw [if_pos (show bl (b :: l) 0 < 128 from h)]; rfl
/-- A rune that may be is told by its own bytes alone. -/
theorem dl_take (l r : List UInt8) (h : dl l ≠ (65533, 1)) (hl : l ≠ []) : dl (l.take (dl l).2 ++ r) = dl l ∧ (dl l).2 ≤ l.length ∧ 1 ≤ (dl l).2 := by
  have hp := decN_parts l.length (bl l 0) (bl l 1) (bl l 2) (bl l 3)
  rw [← dl_eq] at hp
  have hpos : 1 ≤ l.length := by cases l; exact absurd rfl hl; simp
  have key : ∀ wd, wd ≤ l.length → ∀ i, i < wd → bl (l.take wd ++ r) i = bl l i := fun wd hwd i hi => by
    unfold bl
    congr 1
    simp only [List.getD_eq_getElem?_getD]
    rw [List.getElem?_append_left (by rw [List.length_take]; omega), List.getElem?_take_of_lt hi]
  have len : ∀ wd, wd ≤ l.length → wd ≤ (l.take wd ++ r).length := fun wd hwd => by rw [List.length_append, List.length_take]; omega
  rcases hp with ⟨h1, e⟩ | ⟨h1, e⟩ | ⟨hn, h1, h2, hv, e⟩ | ⟨hn, h1, h2, h3, hv, hv2, e⟩ | ⟨hn, h1, h2, h3, h4, hv, hv2, e⟩
  · rw [e]; refine ⟨?_, hpos, by simp⟩
    have k0 := key 1 hpos 0 (by omega)
    rw [dl_eq, k0]; unfold Lib.decodeN; rw [if_pos h1]
  · exact absurd e h
  · rw [e]; refine ⟨?_, hn, by simp⟩
    have k0 := key 2 hn 0 (by omega)
    have k1 := key 2 hn 1 (by omega)
    have kl := len 2 hn
    simp only at k0 k1 kl ⊢
    rw [dl_eq, k0, k1]; unfold Lib.decodeN
    rw [if_neg (by omega), if_pos ⟨h1, by omega, h2⟩, if_pos hv]
  · rw [e]; refine ⟨?_, hn, by simp⟩
    have k0 := key 3 hn 0 (by omega)
    have k1 := key 3 hn 1 (by omega)
    have k2 := key 3 hn 2 (by omega)
    have kl := len 3 hn
    simp only at k0 k1 k2 kl ⊢
    rw [dl_eq, k0, k1, k2]; unfold Lib.decodeN
    rw [if_neg (by omega), if_neg (by omega), if_pos ⟨h1, ⟨by omega, h2⟩, by omega, h3⟩, if_pos ⟨hv, by omega⟩]
  · rw [e]; refine ⟨?_, hn, by simp⟩
    have k0 := key 4 hn 0 (by omega)
    have k1 := key 4 hn 1 (by omega)
    have k2 := key 4 hn 2 (by omega)
    have k3 := key 4 hn 3 (by omega)
    have kl := len 4 hn
    simp only at k0 k1 k2 k3 kl ⊢
    rw [dl_eq, k0, k1, k2, k3]; unfold Lib.decodeN
    rw [if_neg (by omega), if_neg (by omega), if_neg (by omega), if_pos ⟨h1, ⟨by omega, h2⟩, ⟨by omega, h3⟩, by omega, h4⟩, if_pos ⟨hv, by omega⟩]

theorem rest_nil (s : ByteArray) (k : Nat) : rest s k = [] ↔ ¬ k < s.size := by
  unfold rest
  rw [List.drop_eq_nil_iff, len_data]; omega
theorem rest_len (s : ByteArray) (k : Nat) : (rest s k).length = s.size - k := by unfold rest; rw [List.length_drop, len_data]
theorem rest_drop (s : ByteArray) (k n : Nat) : rest s (k + n) = (rest s k).drop n := by unfold rest; rw [List.drop_drop]
theorem bt_rest (s : ByteArray) (k : Nat) (h : k < s.size) : bt s k = bl (rest s k) 0 := by
  rw [rest_cons s k h, ← bt_at s k h]; rfl
theorem bl_zero (b : UInt8) (l : List UInt8) : bl (b :: l) 0 = b.toNat := rfl
/-- A rune's bytes are what it becomes. -/
theorem rest_zero (s : ByteArray) : rest s 0 = s.data.toList := by unfold rest; rfl
/-- A rune is told by its own bytes, whatever is cut off behind it. -/
theorem dl_pre (l : List UInt8) (hl : l ≠ []) (m : Nat) (hm : (dl l).2 ≤ m) : dl (l.take m) = dl l := by
  by_cases h : dl l = (65533, 1)
  · by_cases h2 : dl (l.take m) = (65533, 1)
    · rw [h, h2]
    · exfalso
      rw [h] at hm
      have hn : l.take m ≠ [] := by
        intro e
        have := congrArg List.length e
        rw [List.length_take] at this
        have hpos : 1 ≤ l.length := by cases l; exact absurd rfl hl; simp
        simp only [List.length_nil] at this
        simp only at hm
        omega
      have h3 := dl_take (l.take m) (l.drop (dl (l.take m)).2) h2 hn
      have h4 := h3.2.1
      rw [List.length_take] at h4
      rw [List.take_take, show min (dl (l.take m)).2 m = (dl (l.take m)).2 from by omega, List.take_append_drop] at h3
      rw [← h3.1] at h2
      exact h2 h
  · have h3 := dl_take l ((l.take m).drop (dl l).2) h hl
    have e : l.take (dl l).2 ++ (l.take m).drop (dl l).2 = l.take m := by
      conv => rhs; rw [← List.take_append_drop (dl l).2 (l.take m)]
      rw [List.take_take, show min (dl l).2 m = (dl l).2 from by omega]
    rw [e] at h3
    exact h3.1
theorem dl_wide (l : List UInt8) (hl : l ≠ []) : 1 ≤ (dl l).2 ∧ (dl l).2 ≤ l.length := by
  by_cases h : dl l = (65533, 1)
  · rw [h]
    have hpos : 1 ≤ l.length := by cases l; exact absurd rfl hl; simp
    exact ⟨by simp, hpos⟩
  · have h3 := dl_take l [] h hl
    exact ⟨h3.2.2, h3.2.1⟩
end Go.Proofs.YtnhonjhpggnglaaDoor
