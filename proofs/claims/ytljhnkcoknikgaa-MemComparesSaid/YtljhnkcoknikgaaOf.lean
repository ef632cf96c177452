/- Layer 4 (stamp): Right, the code's and the document's. -/
import Derived.Test.YtljhnkcoknikgaaOc
import Derived.Laws.StructEq
import Derived.Lib.Hide
import Derived.Outline
namespace Go.Proofs.Ytljhnkcoknikgaa
open Go.RowKit

def inB (n : Int) : Bool := decide (0 ≤ n ∧ n ≤ 1099511627776)
def rightB (s : St) : Bool := inB s.x && inB s.y && inB s.z && decide (0 < s.x + s.y + s.z)
theorem within_same (n : Int) (w : World) :
    Calls Try.prog 144 #[.int .i64 n] w fun e w' => e = .returned (.int .i64 (cut n)) ∧ w' = w := by
  go_enter Try.func144, Try.ntmps144
  go_wp2
  go_ret
  exact ⟨rfl, rfl⟩
theorem cut_in (n : Int) : ((cut n == n) = inB n) ∧ ((n == cut n) = inB n) := by
  have : cut n = n ↔ (0 ≤ n ∧ n ≤ 1099511627776) := by unfold cut; omega
  constructor
  · rw [Bool.eq_iff_iff, beq_iff_eq]; unfold inB; rw [decide_eq_true_iff]; exact this
  · rw [Bool.eq_iff_iff, beq_iff_eq]; unfold inB; rw [decide_eq_true_iff]; exact Iff.trans ⟨Eq.symm, Eq.symm⟩ this
/-- Two stamps are the same. -/
def eqS (a b : St) : Bool := a.x == b.x && a.y == b.y && a.z == b.z
theorem st_guard : Try.prog.eqGuardType Try.prog.depth 37 = false := by kernel_rfl
theorem run_eqSt (ax ay az bx b_y bz : Int) (w : World) : (binOp .eql 37 (.agg #[.int .i64 ax, .int .i64 ay, .int .i64 az]) (.agg #[.int .i64 bx, .int .i64 b_y, .int .i64 bz])).run Try.prog w = .ok (.bool (eqS ⟨ax, ay, az⟩ ⟨bx, b_y, bz⟩)) w := by
  have u3 := Try.underlying3
  have a3 := Try.isAgg3
  have z3 := Try.sizeOf3
  have hS : Try.prog.underlying 37 = some (.struct (Try.prog.fieldsOf 37)) := by kernel_rfl
  have hp : Try.prog.stoodInHeld 37 = false := by kernel_rfl
  rw [run_eql_struct, show (10000 : Nat) = 9999 + 1 from rfl, run_equalIn_agg w 9999 37 _ _ hS hp]
  simp only [Program.fieldsOf, Try.underlying37]
  go_simp
  by_cases h1 : ax = bx <;> by_cases h2 : ay = b_y <;> by_cases h3 : az = bz <;> simp [h1, h2, h3, eqS]
theorem run_neqSt (ax ay az bx b_y bz : Int) (w : World) : (binOp .neq 37 (.agg #[.int .i64 ax, .int .i64 ay, .int .i64 az]) (.agg #[.int .i64 bx, .int .i64 b_y, .int .i64 bz])).run Try.prog w = .ok (.bool (!eqS ⟨ax, ay, az⟩ ⟨bx, b_y, bz⟩)) w := by
  have u3 := Try.underlying3
  have a3 := Try.isAgg3
  have z3 := Try.sizeOf3
  have hS : Try.prog.underlying 37 = some (.struct (Try.prog.fieldsOf 37)) := by kernel_rfl
  have hp : Try.prog.stoodInHeld 37 = false := by kernel_rfl
  rw [run_neq_struct, show (10000 : Nat) = 9999 + 1 from rfl, run_equalIn_agg w 9999 37 _ _ hS hp]
  simp only [Program.fieldsOf, Try.underlying37]
  go_simp
  by_cases h1 : ax = bx <;> by_cases h2 : ay = b_y <;> by_cases h3 : az = bz <;> simp [h1, h2, h3, eqS]
/-- The guard that the model puts ahead of a comparison lets stamps by. -/
theorem run_stGuard (op : BinOp) (x y : Operand) (xs ys : Array Value) (w : World) : (eqGuard op 37 x y (.agg xs) (.agg ys)).run Try.prog w = .ok () w := run_eqGuard_agg w op _ x y xs ys st_guard

theorem right_any (s : St) (w : World) :
    Calls Try.prog 111 #[.agg s.cells] w fun e w' => e = .returned (.bool (rightB s)) ∧ Below w.heap.size w w' := by
  obtain ⟨x, y, z⟩ := s
  unfold St.cells
  dsimp only
  have hg := run_stGuard
  have heq := run_eqSt
  have hneq := run_neqSt
  cases h : eqS ⟨x, y, z⟩ ⟨0, 0, 0⟩ with
  | true =>
    have hs : x = 0 ∧ y = 0 ∧ z = 0 := by simpa [eqS, and_assoc] using h
    have HR := Hid.mk' (show rightB ⟨x, y, z⟩ = false by obtain ⟨rfl, rfl, rfl⟩ := hs; rfl)
    clear hs
    go_enter Try.func111, Try.ntmps111
    go_wp2_with fail
    go_quiet (exact Calls.quiet_of_same (within_same _ _))
    go_wp2_with fail
    go_ret
    exact ⟨by rw [HR.out]; rfl, below_drewN ((Below.refl _ _).alloc (Nat.le_refl _) _) _⟩
  | false =>
    have HR := Hid.mk' (show rightB ⟨x, y, z⟩ = eqS ⟨x, y, z⟩ ⟨cut x, cut y, cut z⟩ by
      simp only [eqS, (cut_in _).2]
      unfold rightB
      dsimp only
      cases hi : (inB x && inB y && inB z) with
      | false => rfl
      | true =>
        simp only [inB, Bool.and_eq_true, decide_eq_true_eq] at hi
        simp only [eqS, Bool.and_eq_false_iff, beq_eq_false_iff_ne] at h
        simp only [Bool.true_and, decide_eq_true_eq]
        omega)
    go_enter Try.func111, Try.ntmps111
    go_wp2_with fail
    go_quiet (exact Calls.quiet_of_same (within_same _ _))
    go_wp2_with fail
    go_ret
    exact ⟨by rw [HR.out]; rfl, below_drewN ((Below.refl _ _).alloc (Nat.le_refl _) _) _⟩
end Go.Proofs.Ytljhnkcoknikgaa
