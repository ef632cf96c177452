/- Layer 43 (pick): Score, wants; the law's score. -/
import Derived.Test.YtkkhljneeajkmaaP2
import Derived.Deep.Draws
import Derived.Lib.QuietBelow
namespace Go.Proofs.Ytkkhljneeajkmaa
open Go.RowKit

set_option maxHeartbeats 2000000 in
theorem score_any (d : Nd) (now : Int) (w : World) :
    Calls Try.prog 29 #[.agg d.cells, .int .i64 now] w fun e w' => e = .returned (.int .i64 (d.score now)) ∧ Below w.heap.size w w' := by
  have h1 := due_bd d now
  have h2 := bd_bd d.waiting 0 100 (by omega)
  have h3 := bd_bd d.waste 0 100 (by omega)
  have W1 := Lib.hid (show Below w.heap.size w (w.alloc (.cells d.cells 45)) from (Below.refl _ _).alloc (Nat.le_refl _) _)
  have hB : Bx (w.alloc (.cells d.cells 45)) w.heap.size 45 d.cells := Bx.fresh _ _ _
  have cD : ∀ q os, Calls Try.prog 27 #[.agg d.cells, .int .i64 now] (Go.Sort.grow (Go.redrawn (w.alloc (.cells d.cells 45)) q) os) fun e w'' => e = .returned (.int .i64 (d.due now)) ∧ ∃ p : Go.Regrown, w'' = Go.Sort.grow (Go.redrawn (w.alloc (.cells d.cells 45)) p.d) p.os := fun q os => Calls.regrown_of (due_any d now _)
  have cA : ∀ q os, Calls Try.prog 65 #[.int .i64 d.waiting, .int .i64 0, .int .i64 100] (Go.Sort.grow (Go.redrawn (w.alloc (.cells d.cells 45)) q) os) fun e w'' => e = .returned (.int .i64 (bdI d.waiting 0 100)) ∧ ∃ p : Go.Regrown, w'' = Go.Sort.grow (Go.redrawn (w.alloc (.cells d.cells 45)) p.d) p.os := fun q os => Calls.regrown_of ((within_any _ _ _ _).mono fun _ _ ⟨a, b⟩ => ⟨a, by rw [b]; exact Below.refl _ _⟩)
  have cE : ∀ q os, Calls Try.prog 65 #[.int .i64 d.waste, .int .i64 0, .int .i64 100] (Go.Sort.grow (Go.redrawn (w.alloc (.cells d.cells 45)) q) os) fun e w'' => e = .returned (.int .i64 (bdI d.waste 0 100)) ∧ ∃ p : Go.Regrown, w'' = Go.Sort.grow (Go.redrawn (w.alloc (.cells d.cells 45)) p.d) p.os := fun q os => Calls.regrown_of ((within_any _ _ _ _).mono fun _ _ ⟨a, b⟩ => ⟨a, by rw [b]; exact Below.refl _ _⟩)
  obtain ⟨last, waste, waiting⟩ := d
  unfold Nd.cells Nd.score at *
  dsimp only at *
  have m0 := Go.cell_regrown (hB.read (i := 0) (v := .int .i64 last) rfl)
  have m1 := Go.cell_regrown (hB.read (i := 1) (v := .int .i64 waste) rfl)
  have m2 := Go.cell_regrown (hB.read (i := 2) (v := .int .i64 waiting) rfl)
  have CD := Lib.hid cD
  have CA := Lib.hid cA
  have CE := Lib.hid cE
  clear cD cA cE hB
  generalize Nd.due ⟨last, waste, waiting⟩ now = n at *
  generalize bdI waiting 0 100 = a at *
  generalize bdI waste 0 100 = b at *
  obtain ⟨h11, h12⟩ := h1
  obtain ⟨h21, h22⟩ := h2
  obtain ⟨h31, h32⟩ := h3
  have s1 : IntKind.i64.wrap (10 * a) = 10 * a := IntWalk.i64_in _ (by omega)
  have s2 : IntKind.i64.wrap (n + 10 * a) = n + 10 * a := IntWalk.i64_in _ (by omega)
  have s3 : IntKind.i64.wrap (b.tdiv 10) = b / 10 := by rw [Int.tdiv_eq_ediv_of_nonneg h31]; exact IntWalk.i64_in _ (by omega)
  have s6 : IntKind.i64.wrap (b / 10) = b / 10 := IntWalk.i64_in _ (by omega)
  have s5 : b.tdiv 10 = b / 10 := Int.tdiv_eq_ediv_of_nonneg h31
  have s4 : IntKind.i64.wrap (n + 10 * a + b / 10) = n + 10 * a + b / 10 := IntWalk.i64_in _ (by omega)
  go_enter Try.func29, Try.ntmps29
  go_wp2_with fail
  refine Go.wp_region_quiet_below (by kernel_rfl) (by kernel_rfl) ?_
  repeat (quiet_step (first | with_reducible exact CD.out _ _ | with_reducible exact CA.out _ _ | with_reducible exact CE.out _ _))
  refine wpQuiet_nil ?_
  intro _ hw'
  obtain ⟨⟨dq, osq⟩, hw''⟩ := hw'
  subst hw''
  have HB := Lib.hid (bnext W1.out (Go.below_regrown _ dq osq))
  clear m0 m1 m2
  generalize Go.Sort.grow (Go.redrawn _ dq) osq = W9 at *
  go_wp2_with fail
  go_ret
  exact ⟨ret_int (by first | rfl | omega), HB.out⟩
set_option maxHeartbeats 2000000 in
theorem lscore_any (d : Nd) (now : Int) (w : World) :
    Calls Try.prog 30 #[.agg d.cells, .int .i64 now] w fun e w' => e = .returned (.int .i64 (d.score now)) ∧ Below w.heap.size w w' := by
  have h1 := due_bd d now
  have h2 := bd_bd d.waiting 0 100 (by omega)
  have h3 := bd_bd d.waste 0 100 (by omega)
  have W1 := Lib.hid (show Below w.heap.size w (w.alloc (.cells d.cells 45)) from (Below.refl _ _).alloc (Nat.le_refl _) _)
  have hB : Bx (w.alloc (.cells d.cells 45)) w.heap.size 45 d.cells := Bx.fresh _ _ _
  have cD : ∀ q os, Calls Try.prog 28 #[.agg d.cells, .int .i64 now] (Go.Sort.grow (Go.redrawn (w.alloc (.cells d.cells 45)) q) os) fun e w'' => e = .returned (.int .i64 (d.due now)) ∧ ∃ p : Go.Regrown, w'' = Go.Sort.grow (Go.redrawn (w.alloc (.cells d.cells 45)) p.d) p.os := fun q os => Calls.regrown_of (ldue_any d now _)
  have cA : ∀ q os, Calls Try.prog 21 #[.int .i64 d.waiting, .int .i64 0, .int .i64 100] (Go.Sort.grow (Go.redrawn (w.alloc (.cells d.cells 45)) q) os) fun e w'' => e = .returned (.int .i64 (bdI d.waiting 0 100)) ∧ ∃ p : Go.Regrown, w'' = Go.Sort.grow (Go.redrawn (w.alloc (.cells d.cells 45)) p.d) p.os := fun q os => Calls.regrown_of ((cut_any _ _ _ _).mono fun _ _ ⟨a, b⟩ => ⟨a, by rw [b]; exact Below.refl _ _⟩)
  have cE : ∀ q os, Calls Try.prog 21 #[.int .i64 d.waste, .int .i64 0, .int .i64 100] (Go.Sort.grow (Go.redrawn (w.alloc (.cells d.cells 45)) q) os) fun e w'' => e = .returned (.int .i64 (bdI d.waste 0 100)) ∧ ∃ p : Go.Regrown, w'' = Go.Sort.grow (Go.redrawn (w.alloc (.cells d.cells 45)) p.d) p.os := fun q os => Calls.regrown_of ((cut_any _ _ _ _).mono fun _ _ ⟨a, b⟩ => ⟨a, by rw [b]; exact Below.refl _ _⟩)
  obtain ⟨last, waste, waiting⟩ := d
  unfold Nd.cells Nd.score at *
  dsimp only at *
  have m0 := Go.cell_regrown (hB.read (i := 0) (v := .int .i64 last) rfl)
  have m1 := Go.cell_regrown (hB.read (i := 1) (v := .int .i64 waste) rfl)
  have m2 := Go.cell_regrown (hB.read (i := 2) (v := .int .i64 waiting) rfl)
  have CD := Lib.hid cD
  have CA := Lib.hid cA
  have CE := Lib.hid cE
  clear cD cA cE hB
  generalize Nd.due ⟨last, waste, waiting⟩ now = n at *
  generalize bdI waiting 0 100 = a at *
  generalize bdI waste 0 100 = b at *
  obtain ⟨h11, h12⟩ := h1
  obtain ⟨h21, h22⟩ := h2
  obtain ⟨h31, h32⟩ := h3
  have s1 : IntKind.i64.wrap (10 * a) = 10 * a := IntWalk.i64_in _ (by omega)
  have s2 : IntKind.i64.wrap (n + 10 * a) = n + 10 * a := IntWalk.i64_in _ (by omega)
  have s3 : IntKind.i64.wrap (b.tdiv 10) = b / 10 := by rw [Int.tdiv_eq_ediv_of_nonneg h31]; exact IntWalk.i64_in _ (by omega)
  have s6 : IntKind.i64.wrap (b / 10) = b / 10 := IntWalk.i64_in _ (by omega)
  have s5 : b.tdiv 10 = b / 10 := Int.tdiv_eq_ediv_of_nonneg h31
  have s4 : IntKind.i64.wrap (n + 10 * a + b / 10) = n + 10 * a + b / 10 := IntWalk.i64_in _ (by omega)
  go_enter Try.func30, Try.ntmps30
  go_wp2_with fail
  refine Go.wp_region_quiet_below (by kernel_rfl) (by kernel_rfl) ?_
  repeat (quiet_step (first | with_reducible exact CD.out _ _ | with_reducible exact CA.out _ _ | with_reducible exact CE.out _ _))
  refine wpQuiet_nil ?_
  intro _ hw'
  obtain ⟨⟨dq, osq⟩, hw''⟩ := hw'
  subst hw''
  have HB := Lib.hid (bnext W1.out (Go.below_regrown _ dq osq))
  clear m0 m1 m2
  generalize Go.Sort.grow (Go.redrawn _ dq) osq = W9 at *
  go_wp2_with fail
  go_ret
  exact ⟨ret_int (by first | rfl | omega), HB.out⟩
set_option maxHeartbeats 1000000 in
theorem wants_any (d : Nd) (now : Int) (w : World) :
    Calls Try.prog 66 #[.agg d.cells, .int .i64 now] w fun e w' => e = .returned (.bool (decide (d.wants now))) ∧ Below w.heap.size w w' := by
  have W1 := Lib.hid (show Below w.heap.size w (w.alloc (.cells d.cells 45)) from (Below.refl _ _).alloc (Nat.le_refl _) _)
  have hB : Bx (w.alloc (.cells d.cells 45)) w.heap.size 45 d.cells := Bx.fresh _ _ _
  have CD := Lib.hid (fun W => due_any d now W)
  have HV : Nd.wants d now ↔ (5 ≤ d.due now ∨ 0 < d.waiting) := Iff.rfl
  have HB := Lib.hid hB
  clear hB
  obtain ⟨last, waste, waiting⟩ := d
  unfold Nd.cells at *
  dsimp only at *
  generalize Nd.due ⟨last, waste, waiting⟩ now = n at *
  by_cases h5 : 5 ≤ n
  · have hv : decide (Nd.wants ⟨last, waste, waiting⟩ now) = true := decide_eq_true (HV.2 (.inl h5))
    rw [hv]
    clear HV hv
    go_enter Try.func66, Try.ntmps66
    go_wp2_with fail
    refine (CD.out _).mono ?_; rintro e w1 ⟨rfl, hb1⟩
    have HW := Lib.hid (bnext W1.out hb1)
    obtain ⟨c0, c1, c2⟩ := (HB.out.next hb1).reads3
    clear hb1
    go_wp2_with fail
    go_ret
    exact ⟨rfl, HW.out⟩
  · have d5 : decide (5 ≤ n) = false := decide_eq_false h5
    by_cases h0 : 0 < waiting
    · have hv : decide (Nd.wants ⟨last, waste, waiting⟩ now) = true := decide_eq_true (HV.2 (.inr h0))
      rw [hv]
      clear HV hv
      go_enter Try.func66, Try.ntmps66
      go_wp2_with fail
      refine (CD.out _).mono ?_; rintro e w1 ⟨rfl, hb1⟩
      have HW := Lib.hid (bnext W1.out hb1)
      obtain ⟨c0, c1, c2⟩ := (HB.out.next hb1).reads3
      clear hb1
      go_wp2_with fail
      go_ret
      exact ⟨rfl, HW.out⟩
    · have d0 : decide (0 < waiting) = false := decide_eq_false h0
      have hv : decide (Nd.wants ⟨last, waste, waiting⟩ now) = false := decide_eq_false (fun h => (HV.1 h).elim h5 h0)
      rw [hv]
      clear HV hv
      go_enter Try.func66, Try.ntmps66
      go_wp2_with fail
      refine (CD.out _).mono ?_; rintro e w1 ⟨rfl, hb1⟩
      have HW := Lib.hid (bnext W1.out hb1)
      obtain ⟨c0, c1, c2⟩ := (HB.out.next hb1).reads3
      clear hb1
      go_wp2_with fail
      go_ret
      exact ⟨rfl, HW.out⟩
end Go.Proofs.Ytkkhljneeajkmaa
