/- Layer 4 (stamp): Right, the code's and the document's. -/
import Derived.Test.YtnkgicjclngnpaaSd
import Derived.Laws.StructEq
namespace Go.Proofs.Ytnkgicjclngnpaa
open Go.RowKit

def inB (n : Int) : Bool := decide (0 ≤ n ∧ n ≤ 1099511627776)
def rightB (s : St) : Bool := inB s.x && inB s.y && inB s.z && decide (0 < s.x + s.y + s.z)
theorem within_same (n : Int) (w : World) :
    Calls Try.prog 51 #[.int .i64 n] w fun e w' => e = .returned (.int .i64 (cut n)) ∧ w' = w := (within_any n w).mono fun _ _ ⟨a, b⟩ => ⟨a, b.symm⟩
theorem cut_in (n : Int) : ((cut n == n) = inB n) ∧ ((n == cut n) = inB n) := by
  have : cut n = n ↔ (0 ≤ n ∧ n ≤ 1099511627776) := by unfold cut; omega
  constructor
  · rw [Bool.eq_iff_iff, beq_iff_eq]; unfold inB; rw [decide_eq_true_iff]; exact this
  · rw [Bool.eq_iff_iff, beq_iff_eq]; unfold inB; rw [decide_eq_true_iff]; exact Iff.trans ⟨Eq.symm, Eq.symm⟩ this
theorem in_any (n : Int) (w : World) :
    Calls Try.prog 52 #[.int .i64 n] w fun e w' => e = .returned (.bool (inB n)) ∧ w = w' := by
  by_cases h : 0 ≤ n
  · have HE := Hid.mk' (show inB n = decide (n ≤ 1099511627776) by simp [inB, h])
    go_enter Try.func52, Try.ntmps52
    go_wp2
    go_ret
    exact ⟨by rw [HE.out]; rfl, rfl⟩
  · have HE := Hid.mk' (show inB n = false by simp [inB, h])
    go_enter Try.func52, Try.ntmps52
    go_wp2
    go_ret
    exact ⟨by rw [HE.out]; rfl, rfl⟩

/-- Two stamps are the same. -/
def eqS (a b : St) : Bool := a.x == b.x && a.y == b.y && a.z == b.z
theorem st_guard : Try.prog.eqGuardType Try.prog.depth 46 = false := by kernel_rfl
theorem run_eqSt (ax ay az bx b_y bz : Int) (w : World) : (binOp .eql 46 (.agg #[.int .i64 ax, .int .i64 ay, .int .i64 az]) (.agg #[.int .i64 bx, .int .i64 b_y, .int .i64 bz])).run Try.prog w = .ok (.bool (eqS ⟨ax, ay, az⟩ ⟨bx, b_y, bz⟩)) w := by
  have u3 := Try.underlying3
  have a3 := Try.isAgg3
  have z3 := Try.sizeOf3
  have hS : Try.prog.underlying 46 = some (.struct (Try.prog.fieldsOf 46)) := by kernel_rfl
  have hp : Try.prog.stoodInHeld 46 = false := by kernel_rfl
  rw [run_eql_struct, show (10000 : Nat) = 9999 + 1 from rfl, run_equalIn_agg w 9999 46 _ _ hS hp]
  simp only [Program.fieldsOf, Try.underlying46]
  go_simp
  by_cases h1 : ax = bx <;> by_cases h2 : ay = b_y <;> by_cases h3 : az = bz <;> simp [h1, h2, h3, eqS]
theorem run_neqSt (ax ay az bx b_y bz : Int) (w : World) : (binOp .neq 46 (.agg #[.int .i64 ax, .int .i64 ay, .int .i64 az]) (.agg #[.int .i64 bx, .int .i64 b_y, .int .i64 bz])).run Try.prog w = .ok (.bool (!eqS ⟨ax, ay, az⟩ ⟨bx, b_y, bz⟩)) w := by
  have u3 := Try.underlying3
  have a3 := Try.isAgg3
  have z3 := Try.sizeOf3
  have hS : Try.prog.underlying 46 = some (.struct (Try.prog.fieldsOf 46)) := by kernel_rfl
  have hp : Try.prog.stoodInHeld 46 = false := by kernel_rfl
  rw [run_neq_struct, show (10000 : Nat) = 9999 + 1 from rfl, run_equalIn_agg w 9999 46 _ _ hS hp]
  simp only [Program.fieldsOf, Try.underlying46]
  go_simp
  by_cases h1 : ax = bx <;> by_cases h2 : ay = b_y <;> by_cases h3 : az = bz <;> simp [h1, h2, h3, eqS]
/-- The guard that the model puts ahead of a comparison lets stamps by. -/
theorem run_stGuard (op : BinOp) (x y : Operand) (xs ys : Array Value) (w : World) : (eqGuard op 46 x y (.agg xs) (.agg ys)).run Try.prog w = .ok () w := run_eqGuard_agg w op _ x y xs ys st_guard

theorem right_any (s : St) (w : World) :
    Calls Try.prog 31 #[.agg s.cells] w fun e w' => e = .returned (.bool (rightB s)) ∧ Below w.heap.size w w' := by
  obtain ⟨x, y, z⟩ := s
  unfold St.cells
  dsimp only
  have hg := run_stGuard
  have heq := run_eqSt
  have hneq := run_neqSt
  cases h : eqS ⟨x, y, z⟩ ⟨0, 0, 0⟩ with
  | true =>
    have hs : x = 0 ∧ y = 0 ∧ z = 0 := by simpa [eqS, and_assoc] using h
    have HR := Hid.mk' (show rightB ⟨x, y, z⟩ = false by obtain ⟨rfl, rfl, rfl⟩ := hs; rfl)
    clear hs
    go_enter Try.func31, Try.ntmps31
    go_wp2_with fail
    go_quiet (exact Calls.quiet_of_same (within_same _ _))
    go_wp2_with fail
    go_ret
    exact ⟨by rw [HR.out]; rfl, below_drewN ((Below.refl _ _).alloc (Nat.le_refl _) _) _⟩
  | false =>
    have HR := Hid.mk' (show rightB ⟨x, y, z⟩ = eqS ⟨x, y, z⟩ ⟨cut x, cut y, cut z⟩ by
      simp only [eqS, (cut_in _).2]
      unfold rightB
      dsimp only
      cases hi : (inB x && inB y && inB z) with
      | false => rfl
      | true =>
        simp only [inB, Bool.and_eq_true, decide_eq_true_eq] at hi
        simp only [eqS, Bool.and_eq_false_iff, beq_eq_false_iff_ne] at h
        simp only [Bool.true_and, decide_eq_true_eq]
        omega)
    go_enter Try.func31, Try.ntmps31
    go_wp2_with fail
    go_quiet (exact Calls.quiet_of_same (within_same _ _))
    go_wp2_with fail
    go_ret
    exact ⟨by rw [HR.out]; rfl, below_drewN ((Below.refl _ _).alloc (Nat.le_refl _) _) _⟩
theorem refright_any (s : St) (w : World) :
    Calls Try.prog 32 #[.agg s.cells] w fun e w' => e = .returned (.bool (rightB s)) ∧ Below w.heap.size w w' := by
  obtain ⟨x, y, z⟩ := s
  unfold St.cells
  dsimp only
  cases hx : inB x with
  | false =>
    have HR := Hid.mk' (show rightB ⟨x, y, z⟩ = false by simp [rightB, hx])
    have C := Hid.mk' (in_any x)
    rw [hx] at C
    clear hx
    go_enter Try.func32, Try.ntmps32
    go_wp2_with (go_at_call 52; refine (C.out _).mono ?_; rintro e w' ⟨rfl, rfl⟩)
    go_ret
    exact ⟨by rw [HR.out]; rfl, ((Below.refl _ _).alloc (Nat.le_refl _) _)⟩
  | true =>
    cases hy : inB y with
    | false =>
      have HR := Hid.mk' (show rightB ⟨x, y, z⟩ = false by simp [rightB, hy])
      have C := Hid.mk' (in_any x)
      have D := Hid.mk' (in_any y)
      rw [hx] at C
      rw [hy] at D
      clear hx hy
      go_enter Try.func32, Try.ntmps32
      go_wp2_with fail
      refine (C.out _).mono ?_; rintro e w' ⟨rfl, rfl⟩
      go_wp2_with fail
      refine (D.out _).mono ?_; rintro e w' ⟨rfl, rfl⟩
      go_wp2_with fail
      go_ret
      exact ⟨by rw [HR.out]; rfl, ((Below.refl _ _).alloc (Nat.le_refl _) _)⟩
    | true =>
      cases hz : inB z with
      | false =>
        have HR := Hid.mk' (show rightB ⟨x, y, z⟩ = false by simp [rightB, hz])
        have C := Hid.mk' (in_any x)
        have D := Hid.mk' (in_any y)
        have E := Hid.mk' (in_any z)
        rw [hx] at C
        rw [hy] at D
        rw [hz] at E
        clear hx hy hz
        go_enter Try.func32, Try.ntmps32
        go_wp2_with fail
        refine (C.out _).mono ?_; rintro e w' ⟨rfl, rfl⟩
        go_wp2_with fail
        refine (D.out _).mono ?_; rintro e w' ⟨rfl, rfl⟩
        go_wp2_with fail
        refine (E.out _).mono ?_; rintro e w' ⟨rfl, rfl⟩
        go_wp2_with fail
        go_ret
        exact ⟨by rw [HR.out]; rfl, ((Below.refl _ _).alloc (Nat.le_refl _) _)⟩
      | true =>
        have HR := Hid.mk' (show rightB ⟨x, y, z⟩ = decide (0 < x + y + z) by simp [rightB, hx, hy, hz])
        have C := Hid.mk' (in_any x)
        have D := Hid.mk' (in_any y)
        have E := Hid.mk' (in_any z)
        rw [hx] at C
        rw [hy] at D
        rw [hz] at E
        simp only [inB, decide_eq_true_eq] at hx hy hz
        obtain ⟨hx1, hx2⟩ := hx
        obtain ⟨hy1, hy2⟩ := hy
        obtain ⟨hz1, hz2⟩ := hz
        go_enter Try.func32, Try.ntmps32
        go_wp2_with fail
        refine (C.out _).mono ?_; rintro e w' ⟨rfl, rfl⟩
        go_wp2_with fail
        refine (D.out _).mono ?_; rintro e w' ⟨rfl, rfl⟩
        go_wp2_with fail
        refine (E.out _).mono ?_; rintro e w' ⟨rfl, rfl⟩
        go_wp2_with fail
        go_ret
        exact ⟨by rw [HR.out]; rfl, ((Below.refl _ _).alloc (Nat.le_refl _) _)⟩
end Go.Proofs.Ytnkgicjclngnpaa
