/- Layer 23 (lease): Ready; alive; the statement LeaseReady's walk. -/
import Derived.Test.YtkkhljneeajkmaaL1
namespace Go.Proofs.Ytkkhljneeajkmaa
open Go.RowKit

theorem Le.below {w w' : World} {g : Nat} {e : Int} (h : Le w g e) (hb : Below w.heap.size w w') : Le w' g e := Bx.next h hb
def readyI (now since : Int) : Bool := decide (since ≤ now) && decide (20 ≤ IntKind.u64.wrap (IntKind.u64.wrap now - IntKind.u64.wrap since))
theorem ready_any (now since : Int) (w : World) :
    Calls Try.prog 15 #[.int .i64 now, .int .i64 since] w fun r w' => r = .returned (.bool (readyI now since)) ∧ w' = w := by
  unfold readyI
  by_cases h1 : since ≤ now
  · go_enter Try.func15, Try.ntmps15
    go_wp2_with fail
    go_ret
    exact ⟨lret_b (by simp [h1]), rfl⟩
  · have d1 : decide (since ≤ now) = false := by rw [decide_eq_false_iff_not]; omega
    go_enter Try.func15, Try.ntmps15
    go_wp2_with fail
    go_ret
    exact ⟨lret_b (by simp [d1]), rfl⟩
set_option maxHeartbeats 1000000 in
theorem alive23_any (w : World) : Calls Try.prog 16 #[] w fun r w' => r = .returned (.bool true) ∧ Below w.heap.size w w' := by
  have H0 := Lib.hid ((Below.refl w.heap.size w).alloc (Nat.le_refl _) (.cells #[.int .i64 0] 29))
  have B0 := Lib.hid (show Le (w.alloc (.cells #[.int .i64 0] 29)) w.heap.size 0 from Bx.fresh w 29 #[.int .i64 0])
  go_enter Try.func16, Try.ntmps16
  go_wp2_with fail
  refine (grant_any _ _ _ _ B0.out).mono ?_; rintro r w1 ⟨rfl, hb, hg⟩
  have hbel := Lib.hid (below_gb H0.out hg (Nat.le_refl _))
  have B1 := Lib.hid hb
  clear hb hg B0 H0
  go_wp2_with fail
  refine (valid_any _ _ _ _ B1.out).mono ?_; rintro r w2 ⟨rfl, rfl⟩
  rw [show lvalid (grI 3) 10 = true from by decide +kernel]
  go_wp2_with fail
  refine (valid_any _ _ _ _ B1.out).mono ?_; rintro r w2 ⟨rfl, rfl⟩
  rw [show lvalid (grI 3) 11 = false from by decide +kernel]
  go_wp2_with fail
  refine (left_any _ _ _ (by decide +kernel) _ B1.out).mono ?_; rintro r w2 ⟨rfl, rfl⟩
  rw [show lleft (grI 3) 10 = 1 from by decide +kernel]
  go_wp2_with fail
  go_ret
  exact ⟨rfl, hbel.out⟩
theorem readylaw (now since : Int) (w : World) : Calls Try.prog 3 #[.int .i64 now, .int .i64 since] w fun r w' => r = .returned (.bool true) ∧ Below w.heap.size w w' := by
  have C := Lib.hid (ready_any now since)
  unfold readyI at *
  by_cases h1 : since ≤ now
  · rw [decide_eq_true h1] at C
    go_enter Try.func3, Try.ntmps3
    go_wp2_with fail
    refine (C.out _).mono ?_; rintro r w1 ⟨rfl, rfl⟩
    go_wp2_with fail
    refine (alive23_any _).mono ?_; rintro r w1 ⟨rfl, hb⟩
    go_wp2_with fail
    go_ret
    exact ⟨rfl, hb⟩
  · have d1 : decide (since ≤ now) = false := by rw [decide_eq_false_iff_not]; omega
    rw [d1] at C
    go_enter Try.func3, Try.ntmps3
    go_wp2_with fail
    refine (C.out _).mono ?_; rintro r w1 ⟨rfl, rfl⟩
    go_wp2_with fail
    refine (alive23_any _).mono ?_; rintro r w1 ⟨rfl, hb⟩
    go_wp2_with fail
    go_ret
    exact ⟨rfl, hb⟩
theorem ready_over (l n : Int) (hl : 0 ≤ l ∧ l ≤ 274877906944) (hn : 0 ≤ n ∧ n ≤ 274877906944) : readyI (l + n) l = decide (20 ≤ n) := by
  unfold readyI
  have e1 : IntKind.u64.wrap (l + n) = l + n := by unfold IntKind.wrap IntKind.signed IntKind.bits; simp; omega
  have e2 : IntKind.u64.wrap l = l := by unfold IntKind.wrap IntKind.signed IntKind.bits; simp; omega
  have e3 : IntKind.u64.wrap (l + n - l) = n := by unfold IntKind.wrap IntKind.signed IntKind.bits; simp; omega
  rw [e1, e2, e3, decide_eq_true (show l ≤ l + n by omega), Bool.true_and]
end Go.Proofs.Ytkkhljneeajkmaa
