/- Layer 23 (lease): Grant, Drop, Valid, Left, Ready; alive. -/
import Derived.Test.YtkkhljneeajkmaaKg
import Derived.Test.YtkkhljneeajkmaaProg
import Derived.Test.YtkkhljneeajkmaaChecked
import Derived.WalkKit
import Derived.WalkSmall
import Derived.WalkSpells
import Derived.Outline
import Derived.Lib.Hide
import Derived.LoopTactic
import Derived.RegionTactic
import Derived.BigRegion
import Derived.Deep.QuietTactic
import Derived.BigQuiet
import Derived.ChangeAlike
import Derived.IntWalk
namespace Go.Proofs.Ytkkhljneeajkmaa
open Go.RowKit

theorem lret_b {a b : Bool} (h : a = b) : Ending.returned (.bool a) = .returned (.bool b) := by rw [h]
/-- The tick at which a lease that is granted now ends. -/
def grI (n : Int) : Int := min (max n 0) 1099511627776 + 8
theorem grI_bd (n : Int) : 8 ≤ grI n ∧ grI n ≤ 1099511627784 := by unfold grI; omega
def lvalid (e n : Int) : Bool := decide (0 < e ∧ n < e)
def lleft (e n : Int) : Int := if 0 < e ∧ n < e then e - max n 0 else 0
/-- A lease in memory. -/
def Le (w : World) (g : Nat) (e : Int) : Prop := Bx w g 29 #[.int .i64 e]
theorem Le.reads {w : World} {g : Nat} {e : Int} (h : Le w g e) : w.cell? ⟨g, 0, none⟩ = some (.int .i64 e) ∧ w.frozen? ⟨g, 0, none⟩ = false := ⟨Bx.read h rfl, Bx.open_ h 0⟩
theorem grant_any (g : Nat) (e n : Int) (w : World) (h : Le w g e) :
    Calls Try.prog 17 #[.pointer (some ⟨g, 0, none⟩), .int .i64 n] w fun r w' => r = .returned (.tuple #[]) ∧ Le w' g (grI n) ∧ w.grownBy w' (some g) := by
  have HC := Lib.hid (show Le (w.setCell ⟨g, 0, none⟩ (.int .i64 (grI n))) g (grI n) from Bx.put h 0 (.int .i64 (grI n)))
  obtain ⟨c0, f0⟩ := h.reads
  clear h
  unfold grI at *
  go_enter Try.func17, Try.ntmps17
  go_wp2_with fail
  go_end0
  exact ⟨rfl, HC.out, gb_set _ _ _ _⟩
theorem drop_any (g : Nat) (e : Int) (w : World) (h : Le w g e) :
    Calls Try.prog 19 #[.pointer (some ⟨g, 0, none⟩)] w fun r w' => r = .returned (.tuple #[]) ∧ Le w' g 0 ∧ w.grownBy w' (some g) := by
  have HC := Lib.hid (show Le (w.setCell ⟨g, 0, none⟩ (.int .i64 0)) g 0 from Bx.put h 0 (.int .i64 0))
  obtain ⟨c0, f0⟩ := h.reads
  clear h
  go_enter Try.func19, Try.ntmps19
  go_wp2_with fail
  go_end0
  exact ⟨rfl, HC.out, gb_set _ _ _ _⟩
theorem valid_any (g : Nat) (e n : Int) (w : World) (h : Le w g e) :
    Calls Try.prog 18 #[.pointer (some ⟨g, 0, none⟩), .int .i64 n] w fun r w' => r = .returned (.bool (lvalid e n)) ∧ w' = w := by
  obtain ⟨c0, f0⟩ := h.reads
  clear h
  unfold lvalid
  by_cases h1 : 0 < e
  · by_cases h2 : n < e
    · go_enter Try.func18, Try.ntmps18
      go_wp2_with fail
      go_ret
      exact ⟨lret_b (by first | rfl | (symm; rw [decide_eq_true_eq]; omega)), rfl⟩
    · have d2 : decide (n < e) = false := by rw [decide_eq_false_iff_not]; omega
      go_enter Try.func18, Try.ntmps18
      go_wp2_with fail
      go_ret
      exact ⟨lret_b (by first | rfl | (symm; rw [decide_eq_false_iff_not]; omega)), rfl⟩
  · have d1 : decide (0 < e) = false := by rw [decide_eq_false_iff_not]; omega
    go_enter Try.func18, Try.ntmps18
    go_wp2_with fail
    go_ret
    exact ⟨lret_b (by first | rfl | (symm; rw [decide_eq_false_iff_not]; omega)), rfl⟩
theorem left_any (g : Nat) (e n : Int) (hb : e ≤ 1099511627784) (w : World) (h : Le w g e) :
    Calls Try.prog 20 #[.pointer (some ⟨g, 0, none⟩), .int .i64 n] w fun r w' => r = .returned (.int .i64 (lleft e n)) ∧ w' = w := by
  have C := Lib.hid (valid_any g e n w h)
  obtain ⟨c0, f0⟩ := h.reads
  clear h
  unfold lleft
  cases hv : lvalid e n with
  | true =>
    rw [hv] at C
    unfold lvalid at hv
    rw [decide_eq_true_eq] at hv
    obtain ⟨h1, h2⟩ := hv
    have hw : IntKind.i64.wrap (e - max n 0) = e - max n 0 := IntWalk.i64_in _ (by omega)
    rw [if_pos ⟨h1, h2⟩]
    go_enter Try.func20, Try.ntmps20
    go_wp2_with fail
    refine C.out.mono ?_; rintro r w1 ⟨rfl, rfl⟩
    go_wp2_with fail
    go_ret
    exact ⟨ret_int (by omega), rfl⟩
  | false =>
    rw [hv] at C
    unfold lvalid at hv
    rw [decide_eq_false_iff_not] at hv
    rw [if_neg hv]
    go_enter Try.func20, Try.ntmps20
    go_wp2_with fail
    refine C.out.mono ?_; rintro r w1 ⟨rfl, rfl⟩
    go_wp2_with fail
    go_ret
    exact ⟨rfl, rfl⟩
end Go.Proofs.Ytkkhljneeajkmaa
