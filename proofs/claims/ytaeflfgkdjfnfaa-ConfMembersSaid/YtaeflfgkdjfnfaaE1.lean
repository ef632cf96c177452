/- Layer 21 (conf): configurations as values; who is in. -/
import Derived.Test.YtaeflfgkdjfnfaaE0
import Derived.Test.YtaeflfgkdjfnfaaKs
import Derived.Test.YtaeflfgkdjfnfaaKg
import Derived.Lib.Hide
namespace Go.Proofs.Ytaeflfgkdjfnfaa
open Go.RowKit

structure Cf where
  e : Int
  o0 : Bool
  o1 : Bool
  o2 : Bool
  o3 : Bool
  o4 : Bool
  j0 : Int
  j1 : Int
  j2 : Int
  j3 : Int
  j4 : Int
def Cf.cells (c : Cf) : Array Value := #[.int .i64 c.e, .bool c.o0, .bool c.o1, .bool c.o2, .bool c.o3, .bool c.o4, .int .i64 c.j0, .int .i64 c.j1, .int .i64 c.j2, .int .i64 c.j3, .int .i64 c.j4]
def Cf.out (c : Cf) (n : Int) : Bool := if n = 0 then c.o0 else if n = 1 then c.o1 else if n = 2 then c.o2 else if n = 3 then c.o3 else if n = 4 then c.o4 else true
def Cf.join (c : Cf) (n : Int) : Int := if n = 0 then c.j0 else if n = 1 then c.j1 else if n = 2 then c.j2 else if n = 3 then c.j3 else if n = 4 then c.j4 else 0
def Cf.is (c : Cf) (n : Int) : Bool := !c.out n
def Cf.always (c : Cf) (n : Int) : Bool := !c.out n && c.join n == 0
def thr (n : Int) : Bool := decide (0 ≤ n ∧ n < 5)
theorem places (n : Int) : n < 0 ∨ 5 ≤ n ∨ n = 0 ∨ n = 1 ∨ n = 2 ∨ n = 3 ∨ n = 4 := by omega
theorem thr_no {n : Int} (h : n < 0 ∨ 5 ≤ n) : thr n = false := by unfold thr; rw [decide_eq_false_iff_not]; omega
theorem out_no {c : Cf} {n : Int} (h : n < 0 ∨ 5 ≤ n) : c.out n = true := by
  unfold Cf.out
  rw [if_neg (by omega), if_neg (by omega), if_neg (by omega), if_neg (by omega), if_neg (by omega)]
set_option maxHeartbeats 2000000 in
theorem there_any (n : Int) (w : World) : Calls Try.prog 91 #[.int .i64 n] w fun e w' => e = .returned (.bool (thr n)) ∧ w' = w := by
  rcases (show n < 0 ∨ (0 ≤ n ∧ 5 ≤ n) ∨ (0 ≤ n ∧ n < 5) from by omega) with h | ⟨h, h2⟩ | ⟨h, h2⟩
  · have d1 : decide (0 ≤ n) = false := by rw [decide_eq_false_iff_not]; omega
    go_enter Try.func91, Try.ntmps91
    go_wp2_with fail
    go_ret
    exact ⟨cret_b (by rw [thr_no (.inl h)]), by rfl⟩
  · have d2 : decide (n < 5) = false := by rw [decide_eq_false_iff_not]; omega
    go_enter Try.func91, Try.ntmps91
    go_wp2_with fail
    go_ret
    exact ⟨cret_b (by rw [thr_no (.inr h2)]), by rfl⟩
  · go_enter Try.func91, Try.ntmps91
    go_wp2_with fail
    go_ret
    exact ⟨cret_b (by unfold thr; symm; rw [decide_eq_true_eq]; omega), by rfl⟩
set_option maxRecDepth 100000 in
set_option maxHeartbeats 4000000 in
theorem cf_is (c : Cf) (n : Int) (w : World) : Calls Try.prog 23 #[.agg c.cells, .int .i64 n] w fun e w' => e = .returned (.bool (c.is n)) ∧ Below w.heap.size w w' := by
  have C := Lib.hid (there_any n)
  have HB := Lib.hid (show Below w.heap.size w (w.alloc (.cells c.cells 39)) from (Below.refl _ _).alloc (Nat.le_refl _) _)
  obtain ⟨e, o0, o1, o2, o3, o4, j0, j1, j2, j3, j4⟩ := c
  unfold Cf.cells at *
  dsimp only at *
  rcases places n with h | h | rfl | rfl | rfl | rfl | rfl
  · rw [thr_no (.inl h)] at C
    go_enter Try.func23, Try.ntmps23
    go_wp2_with fail
    refine (C.out _).mono ?_; rintro e w1 ⟨rfl, rfl⟩
    go_wp2_with fail
    go_ret
    exact ⟨cret_b (by unfold Cf.is; rw [out_no (.inl h)]; rfl), HB.out⟩
  · rw [thr_no (.inr h)] at C
    go_enter Try.func23, Try.ntmps23
    go_wp2_with fail
    refine (C.out _).mono ?_; rintro e w1 ⟨rfl, rfl⟩
    go_wp2_with fail
    go_ret
    exact ⟨cret_b (by unfold Cf.is; rw [out_no (.inr h)]; rfl), HB.out⟩
  all_goals
    go_enter Try.func23, Try.ntmps23
    go_wp2_with fail
    refine (C.out _).mono ?_; rintro e w1 ⟨rfl, rfl⟩
    go_wp2_with fail
    go_ret
    exact ⟨cret_b (by simp [Cf.is, Cf.out]), HB.out⟩
set_option maxRecDepth 100000 in
set_option maxHeartbeats 4000000 in
theorem cf_always (c : Cf) (n : Int) (w : World) : Calls Try.prog 24 #[.agg c.cells, .int .i64 n] w fun e w' => e = .returned (.bool (c.always n)) ∧ Below w.heap.size w w' := by
  have C := Lib.hid (cf_is c n (w.alloc (.cells c.cells 39)))
  have HB := Lib.hid (And.intro (show Below w.heap.size w (w.alloc (.cells c.cells 39)) from (Below.refl _ _).alloc (Nat.le_refl _) _) (Bx.fresh w 39 c.cells))
  obtain ⟨e, o0, o1, o2, o3, o4, j0, j1, j2, j3, j4⟩ := c
  unfold Cf.cells at *
  dsimp only at *
  rcases places n with h | h | rfl | rfl | rfl | rfl | rfl
  · rw [show Cf.is ⟨e, o0, o1, o2, o3, o4, j0, j1, j2, j3, j4⟩ n = false from by unfold Cf.is; rw [out_no (.inl h)]; rfl] at C
    go_enter Try.func24, Try.ntmps24
    go_wp2_with fail
    refine (C.out).mono ?_; rintro e w1 ⟨rfl, hb1⟩
    have H1 := Lib.hid hb1
    clear hb1
    go_wp2_with fail
    go_ret
    exact ⟨cret_b (by unfold Cf.always; rw [out_no (.inl h)]; rfl), bnext HB.out.1 H1.out⟩
  · rw [show Cf.is ⟨e, o0, o1, o2, o3, o4, j0, j1, j2, j3, j4⟩ n = false from by unfold Cf.is; rw [out_no (.inr h)]; rfl] at C
    go_enter Try.func24, Try.ntmps24
    go_wp2_with fail
    refine (C.out).mono ?_; rintro e w1 ⟨rfl, hb1⟩
    have H1 := Lib.hid hb1
    clear hb1
    go_wp2_with fail
    go_ret
    exact ⟨cret_b (by unfold Cf.always; rw [out_no (.inr h)]; rfl), bnext HB.out.1 H1.out⟩
  · cases o0 with
    | true =>
      have hv : Cf.always ⟨e, true, o1, o2, o3, o4, j0, j1, j2, j3, j4⟩ 0 = false := rfl
      rw [hv]
      rw [show Cf.is ⟨e, true, o1, o2, o3, o4, j0, j1, j2, j3, j4⟩ 0 = false from rfl] at C
      clear hv
      go_enter Try.func24, Try.ntmps24
      go_wp2_with fail
      refine (C.out).mono ?_; rintro e w1 ⟨rfl, hb1⟩
      have H1 := Lib.hid hb1
      clear hb1
      go_wp2_with fail
      go_ret
      exact ⟨rfl, bnext HB.out.1 H1.out⟩
    | false =>
      have hv : Cf.always ⟨e, false, o1, o2, o3, o4, j0, j1, j2, j3, j4⟩ 0 = (j0 == 0) := rfl
      rw [hv]
      rw [show Cf.is ⟨e, false, o1, o2, o3, o4, j0, j1, j2, j3, j4⟩ 0 = true from rfl] at C
      clear hv
      go_enter Try.func24, Try.ntmps24
      go_wp2_with fail
      refine (C.out).mono ?_; rintro e w1 ⟨rfl, hb1⟩
      have H1 := Lib.hid hb1
      have y := (HB.out.2.next hb1).read (i := 6) rfl
      clear hb1
      go_wp2_with fail
      go_ret
      exact ⟨rfl, bnext HB.out.1 H1.out⟩
  · cases o1 with
    | true =>
      have hv : Cf.always ⟨e, o0, true, o2, o3, o4, j0, j1, j2, j3, j4⟩ 1 = false := rfl
      rw [hv]
      rw [show Cf.is ⟨e, o0, true, o2, o3, o4, j0, j1, j2, j3, j4⟩ 1 = false from rfl] at C
      clear hv
      go_enter Try.func24, Try.ntmps24
      go_wp2_with fail
      refine (C.out).mono ?_; rintro e w1 ⟨rfl, hb1⟩
      have H1 := Lib.hid hb1
      clear hb1
      go_wp2_with fail
      go_ret
      exact ⟨rfl, bnext HB.out.1 H1.out⟩
    | false =>
      have hv : Cf.always ⟨e, o0, false, o2, o3, o4, j0, j1, j2, j3, j4⟩ 1 = (j1 == 0) := rfl
      rw [hv]
      rw [show Cf.is ⟨e, o0, false, o2, o3, o4, j0, j1, j2, j3, j4⟩ 1 = true from rfl] at C
      clear hv
      go_enter Try.func24, Try.ntmps24
      go_wp2_with fail
      refine (C.out).mono ?_; rintro e w1 ⟨rfl, hb1⟩
      have H1 := Lib.hid hb1
      have y := (HB.out.2.next hb1).read (i := 7) rfl
      clear hb1
      go_wp2_with fail
      go_ret
      exact ⟨rfl, bnext HB.out.1 H1.out⟩
  · cases o2 with
    | true =>
      have hv : Cf.always ⟨e, o0, o1, true, o3, o4, j0, j1, j2, j3, j4⟩ 2 = false := rfl
      rw [hv]
      rw [show Cf.is ⟨e, o0, o1, true, o3, o4, j0, j1, j2, j3, j4⟩ 2 = false from rfl] at C
      clear hv
      go_enter Try.func24, Try.ntmps24
      go_wp2_with fail
      refine (C.out).mono ?_; rintro e w1 ⟨rfl, hb1⟩
      have H1 := Lib.hid hb1
      clear hb1
      go_wp2_with fail
      go_ret
      exact ⟨rfl, bnext HB.out.1 H1.out⟩
    | false =>
      have hv : Cf.always ⟨e, o0, o1, false, o3, o4, j0, j1, j2, j3, j4⟩ 2 = (j2 == 0) := rfl
      rw [hv]
      rw [show Cf.is ⟨e, o0, o1, false, o3, o4, j0, j1, j2, j3, j4⟩ 2 = true from rfl] at C
      clear hv
      go_enter Try.func24, Try.ntmps24
      go_wp2_with fail
      refine (C.out).mono ?_; rintro e w1 ⟨rfl, hb1⟩
      have H1 := Lib.hid hb1
      have y := (HB.out.2.next hb1).read (i := 8) rfl
      clear hb1
      go_wp2_with fail
      go_ret
      exact ⟨rfl, bnext HB.out.1 H1.out⟩
  · cases o3 with
    | true =>
      have hv : Cf.always ⟨e, o0, o1, o2, true, o4, j0, j1, j2, j3, j4⟩ 3 = false := rfl
      rw [hv]
      rw [show Cf.is ⟨e, o0, o1, o2, true, o4, j0, j1, j2, j3, j4⟩ 3 = false from rfl] at C
      clear hv
      go_enter Try.func24, Try.ntmps24
      go_wp2_with fail
      refine (C.out).mono ?_; rintro e w1 ⟨rfl, hb1⟩
      have H1 := Lib.hid hb1
      clear hb1
      go_wp2_with fail
      go_ret
      exact ⟨rfl, bnext HB.out.1 H1.out⟩
    | false =>
      have hv : Cf.always ⟨e, o0, o1, o2, false, o4, j0, j1, j2, j3, j4⟩ 3 = (j3 == 0) := rfl
      rw [hv]
      rw [show Cf.is ⟨e, o0, o1, o2, false, o4, j0, j1, j2, j3, j4⟩ 3 = true from rfl] at C
      clear hv
      go_enter Try.func24, Try.ntmps24
      go_wp2_with fail
      refine (C.out).mono ?_; rintro e w1 ⟨rfl, hb1⟩
      have H1 := Lib.hid hb1
      have y := (HB.out.2.next hb1).read (i := 9) rfl
      clear hb1
      go_wp2_with fail
      go_ret
      exact ⟨rfl, bnext HB.out.1 H1.out⟩
  · cases o4 with
    | true =>
      have hv : Cf.always ⟨e, o0, o1, o2, o3, true, j0, j1, j2, j3, j4⟩ 4 = false := rfl
      rw [hv]
      rw [show Cf.is ⟨e, o0, o1, o2, o3, true, j0, j1, j2, j3, j4⟩ 4 = false from rfl] at C
      clear hv
      go_enter Try.func24, Try.ntmps24
      go_wp2_with fail
      refine (C.out).mono ?_; rintro e w1 ⟨rfl, hb1⟩
      have H1 := Lib.hid hb1
      clear hb1
      go_wp2_with fail
      go_ret
      exact ⟨rfl, bnext HB.out.1 H1.out⟩
    | false =>
      have hv : Cf.always ⟨e, o0, o1, o2, o3, false, j0, j1, j2, j3, j4⟩ 4 = (j4 == 0) := rfl
      rw [hv]
      rw [show Cf.is ⟨e, o0, o1, o2, o3, false, j0, j1, j2, j3, j4⟩ 4 = true from rfl] at C
      clear hv
      go_enter Try.func24, Try.ntmps24
      go_wp2_with fail
      refine (C.out).mono ?_; rintro e w1 ⟨rfl, hb1⟩
      have H1 := Lib.hid hb1
      have y := (HB.out.2.next hb1).read (i := 10) rfl
      clear hb1
      go_wp2_with fail
      go_ret
      exact ⟨rfl, bnext HB.out.1 H1.out⟩
end Go.Proofs.Ytaeflfgkdjfnfaa
