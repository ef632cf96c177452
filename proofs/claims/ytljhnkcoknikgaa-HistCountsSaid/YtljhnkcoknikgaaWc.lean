/- The walks of layer 2 (nums): reading numbers by definition, sums, the two statements on numbers. -/
import Derived.Test.YtljhnkcoknikgaaWb
import Derived.Deep.QuietTactic
import Derived.BigQuiet
import Derived.WalkSmall
import Derived.Lib.QuietBelow
namespace Go.Proofs.Ytljhnkcoknikgaa
open Go.RowKit

theorem cut_nat (m : Nat) : (cut (m : Int)).toNat = min m top := by
  unfold cut top
  rw [if_neg (by omega)]
  by_cases h : 1125899906842624 < (m : Int)
  · rw [if_pos h]; omega
  · rw [if_neg h]; omega
def refVal (s : ByteArray) : Int := if s.size < 1 ∨ 16 < s.size ∨ s.data.toList.all isDig = false then 0 else num s.data.toList
theorem refVal_ok (s : ByteArray) (h : okNum s.data.toList = true) : refVal s = num s.data.toList := by
  unfold refVal
  have h1 : ¬ s.size < 1 := by
    intro hh
    have h0 : s.size = 0 := by omega
    have : s.data.toList = [] := List.eq_nil_of_length_eq_zero (by simpa using h0)
    rw [ok_len _ (Or.inl this)] at h; cases h
  have h2 : ¬ 16 < s.size := by
    intro hh
    rw [ok_len _ (Or.inr (by simpa using hh))] at h; cases h
  have h3 : ¬ s.data.toList.all isDig = false := by
    intro hh
    unfold okNum at h; simp [hh] at h
  rw [if_neg (by simp only [not_or]; exact ⟨h1, h2, h3⟩)]
theorem num_len : ∀ (l : List UInt8), l.all isDig = true → num l < 10 ^ l.length := by
  intro l
  suffices h : ∀ (l : List UInt8) (a : Nat), l.all isDig = true → numFrom a l < (a + 1) * 10 ^ l.length by
    intro hl; have := h l 0 hl; simpa [num] using this
  intro l
  induction l with
  | nil => intro a _; simp [numFrom]
  | cons c l ih =>
    intro a hl
    simp only [List.all_cons, Bool.and_eq_true] at hl
    have h1 := ih (10 * a + (c.toNat - 48)) hl.2
    have h2 := (isDig_iff c).1 hl.1
    show numFrom (10 * a + (c.toNat - 48)) l < _
    refine Nat.lt_of_lt_of_le h1 ?_
    rw [List.length_cons, Nat.pow_succ, ← Nat.mul_assoc, Nat.mul_right_comm]
    exact Nat.mul_le_mul_right _ (by omega)
theorem num_pre16 (s : ByteArray) (k : Nat) (hk : k ≤ 16) (h : (pre s k).all isDig = true) : num (pre s k) < 10 ^ 16 := by
  have h1 := num_len _ h
  have h2 : (pre s k).length ≤ 16 := by unfold pre; rw [List.length_take]; omega
  exact Nat.lt_of_lt_of_le h1 (Nat.pow_le_pow_right (by omega) h2)

set_option maxHeartbeats 400000 in
theorem add_any (a b : Int) (w : World) :
    Calls Try.prog 58 #[.int .i64 a, .int .i64 b] w fun e w' => e = .returned (.int .i64 (cut (min (max a (-1125899906842624)) 1125899906842624 + min (max b (-1125899906842624)) 1125899906842624))) ∧ w = w' := by
  have h1 : -1125899906842624 ≤ min (max a (-1125899906842624)) 1125899906842624 ∧ min (max a (-1125899906842624)) 1125899906842624 ≤ 1125899906842624 := by omega
  have h2 : -1125899906842624 ≤ min (max b (-1125899906842624)) 1125899906842624 ∧ min (max b (-1125899906842624)) 1125899906842624 ≤ 1125899906842624 := by omega
  generalize hx : min (max a (-1125899906842624)) 1125899906842624 = x at *
  generalize hy : min (max b (-1125899906842624)) 1125899906842624 = y at *
  have HX := Hid.mk' hx
  have HY := Hid.mk' hy
  clear hx hy
  go_enter Try.func58, Try.ntmps58
  go_wp2_with fail
  refine (within_any _ _ _ _).mono ?_; rintro e w' ⟨rfl, rfl⟩
  rw [HX.out]
  go_wp2_with fail
  refine (within_any _ _ _ _).mono ?_; rintro e w' ⟨rfl, rfl⟩
  rw [HY.out]
  go_wp2_with fail
  refine (within_cut _ _).mono ?_; rintro e w' ⟨rfl, rfl⟩
  go_wp2_with fail
  go_ret
  exact ⟨rfl, rfl⟩

/-- The text of a number. -/
def txt (n : Int) : ByteArray := ⟨(dec (cut n).toNat).toArray⟩
theorem txt_size (n : Int) : (txt n).size ≤ 16 := by
  have := dec_len (cut n).toNat
  unfold txt; simpa [ByteArray.size] using this
theorem text_txt (a : Int) (w : World) : Calls Try.prog 102 #[.int .i64 a] w fun e w' => e = .returned (.string (txt a)) ∧ Below w.heap.size w w' := text_any a w
/-- The text of a stamp. -/
def stampText (a b c : Int) : ByteArray := txt a ++ ⟨#[46]⟩ ++ txt b ++ ⟨#[46]⟩ ++ txt c
theorem three_cells (w : World) (a b c : Value) (t : TypeId) : (w.alloc (.cells #[a, b, c] t)).cell? ⟨w.heap.size, 0, none⟩ = some a ∧ (w.alloc (.cells #[a, b, c] t)).cell? ⟨w.heap.size, 1, none⟩ = some b ∧ (w.alloc (.cells #[a, b, c] t)).cell? ⟨w.heap.size, 2, none⟩ = some c := by
  refine ⟨?_, ?_, ?_⟩ <;> simp [World.cell?_alloc_at]

end Go.Proofs.Ytljhnkcoknikgaa
