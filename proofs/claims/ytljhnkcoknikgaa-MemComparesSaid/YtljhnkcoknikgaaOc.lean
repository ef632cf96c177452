/- Layer 4 (stamp): the document's Compare. -/
import Derived.Test.YtljhnkcoknikgaaOb
namespace Go.Proofs.Ytljhnkcoknikgaa
open Go.RowKit

set_option maxRecDepth 100000 in
set_option maxHeartbeats 4000000 in
theorem refcompare_any (a b : St) (w : World) :
    Calls Try.prog 71 #[.agg a.cells, .agg b.cells] w fun e w' => e = .returned (.int .i64 (cmpS a b)) ∧ Below w.heap.size w w' := by
  obtain ⟨ax, ay, az⟩ := a
  obtain ⟨bx, b_y, bz⟩ := b
  unfold St.cells
  dsimp only
  have below : Below w.heap.size w ((((w.alloc (.cells #[.int .i64 ax, .int .i64 ay, .int .i64 az] 37)).alloc (.cells #[.int .i64 bx, .int .i64 b_y, .int .i64 bz] 37)).alloc (.cells #[.int .i64 ax, .int .i64 ay, .int .i64 az] 130)).alloc (.cells #[.int .i64 bx, .int .i64 b_y, .int .i64 bz] 130)) := ((((Below.refl _ _).alloc (Nat.le_refl _) _).alloc (by simp) _).alloc (by simp; omega) _).alloc (by simp; omega) _

  by_cases l0 : ax < bx
  · have g0 : bx ≠ ax := by omega
    have HR := Hid.mk' (show cmpS ⟨ax, ay, az⟩ ⟨bx, b_y, bz⟩ = -1 by simp only [cmpS, cmpI]; simp [l0])
    go_enter Try.func71, Try.ntmps71
    go_wp2_with fail
    refine wp_loop_rounds 4 ?_
    rw [rounds_succ]
    go_wp2_with fail
    go_quiet (fail)
    go_wp2_with fail
    go_ret
    exact ⟨ret_int HR.out.symm, by repeat (first | exact below | refine below_drewN ?_ _)⟩
  · by_cases m0 : bx < ax
    · have HR := Hid.mk' (show cmpS ⟨ax, ay, az⟩ ⟨bx, b_y, bz⟩ = 1 by simp only [cmpS, cmpI]; simp [l0, m0])
      go_enter Try.func71, Try.ntmps71
      go_wp2_with fail
      refine wp_loop_rounds 4 ?_
      rw [rounds_succ]
      go_wp2_with fail
      go_quiet (fail)
      go_wp2_with fail
      go_quiet (fail)
      go_wp2_with fail
      go_ret
      exact ⟨ret_int HR.out.symm, by repeat (first | exact below | refine below_drewN ?_ _)⟩
    · obtain rfl : ax = bx := by omega
      by_cases l1 : ay < b_y
      · have g1 : b_y ≠ ay := by omega
        have HR := Hid.mk' (show cmpS ⟨ax, ay, az⟩ ⟨ax, b_y, bz⟩ = -1 by simp only [cmpS, cmpI]; simp [l1])
        go_enter Try.func71, Try.ntmps71
        go_wp2_with fail
        refine wp_loop_rounds 4 ?_
        rw [rounds_succ]
        go_wp2_with fail
        go_quiet (fail)
        go_wp2_with fail
        go_quiet (fail)
        go_wp2_with fail
        rw [rounds_succ]
        go_wp2_with fail
        go_quiet (fail)
        go_wp2_with fail
        go_ret
        exact ⟨ret_int HR.out.symm, by repeat (first | exact below | refine below_drewN ?_ _)⟩
      · by_cases m1 : b_y < ay
        · have HR := Hid.mk' (show cmpS ⟨ax, ay, az⟩ ⟨ax, b_y, bz⟩ = 1 by simp only [cmpS, cmpI]; simp [l1, m1])
          go_enter Try.func71, Try.ntmps71
          go_wp2_with fail
          refine wp_loop_rounds 4 ?_
          rw [rounds_succ]
          go_wp2_with fail
          go_quiet (fail)
          go_wp2_with fail
          go_quiet (fail)
          go_wp2_with fail
          rw [rounds_succ]
          go_wp2_with fail
          go_quiet (fail)
          go_wp2_with fail
          go_quiet (fail)
          go_wp2_with fail
          go_ret
          exact ⟨ret_int HR.out.symm, by repeat (first | exact below | refine below_drewN ?_ _)⟩
        · obtain rfl : ay = b_y := by omega
          by_cases l2 : az < bz
          · have g2 : bz ≠ az := by omega
            have HR := Hid.mk' (show cmpS ⟨ax, ay, az⟩ ⟨ax, ay, bz⟩ = -1 by simp only [cmpS, cmpI]; simp [l2])
            go_enter Try.func71, Try.ntmps71
            go_wp2_with fail
            refine wp_loop_rounds 4 ?_
            rw [rounds_succ]
            go_wp2_with fail
            go_quiet (fail)
            go_wp2_with fail
            go_quiet (fail)
            go_wp2_with fail
            rw [rounds_succ]
            go_wp2_with fail
            go_quiet (fail)
            go_wp2_with fail
            go_quiet (fail)
            go_wp2_with fail
            rw [rounds_succ]
            go_wp2_with fail
            go_quiet (fail)
            go_wp2_with fail
            go_ret
            exact ⟨ret_int HR.out.symm, by repeat (first | exact below | refine below_drewN ?_ _)⟩
          · by_cases m2 : bz < az
            · have HR := Hid.mk' (show cmpS ⟨ax, ay, az⟩ ⟨ax, ay, bz⟩ = 1 by simp only [cmpS, cmpI]; simp [l2, m2])
              go_enter Try.func71, Try.ntmps71
              go_wp2_with fail
              refine wp_loop_rounds 4 ?_
              rw [rounds_succ]
              go_wp2_with fail
              go_quiet (fail)
              go_wp2_with fail
              go_quiet (fail)
              go_wp2_with fail
              rw [rounds_succ]
              go_wp2_with fail
              go_quiet (fail)
              go_wp2_with fail
              go_quiet (fail)
              go_wp2_with fail
              rw [rounds_succ]
              go_wp2_with fail
              go_quiet (fail)
              go_wp2_with fail
              go_quiet (fail)
              go_wp2_with fail
              go_ret
              exact ⟨ret_int HR.out.symm, by repeat (first | exact below | refine below_drewN ?_ _)⟩
            · obtain rfl : az = bz := by omega
              have h3 : True := trivial
              have HR := Hid.mk' (show cmpS ⟨ax, ay, az⟩ ⟨ax, ay, az⟩ = 0 by simp only [cmpS, cmpI]; simp)
              go_enter Try.func71, Try.ntmps71
              go_wp2_with fail
              refine wp_loop_rounds 4 ?_
              rw [rounds_succ]
              go_wp2_with fail
              go_quiet (fail)
              go_wp2_with fail
              go_quiet (fail)
              go_wp2_with fail
              rw [rounds_succ]
              go_wp2_with fail
              go_quiet (fail)
              go_wp2_with fail
              go_quiet (fail)
              go_wp2_with fail
              rw [rounds_succ]
              go_wp2_with fail
              go_quiet (fail)
              go_wp2_with fail
              go_quiet (fail)
              go_wp2_with fail
              rw [rounds_succ]
              go_wp2_with fail
              go_ret
              exact ⟨ret_int HR.out.symm, by repeat (first | exact below | refine below_drewN ?_ _)⟩
end Go.Proofs.Ytljhnkcoknikgaa
