/- Layer 4 (stamp): the chapter's example; the statement on how stamps stand. -/
import Derived.Test.YtnkgicjclngnpaaSg
namespace Go.Proofs.Ytnkgicjclngnpaa
open Go.RowKit

def k0 : Ck := ⟨3, 7, ⟨0, 0, 0⟩⟩
def k1 : Ck := ⟨3, 7, ⟨7, 0, 3⟩⟩
def k2 : Ck := ⟨3, 7, ⟨7, 1, 3⟩⟩
theorem k0_ok : k0.Ok := ⟨by decide, by decide, by decide, by decide, by decide⟩
theorem k1_ok : k1.Ok := ⟨by decide, by decide, by decide, by decide, by decide⟩
theorem ex_new (w : World) : Calls Try.prog 34 #[.int .i64 3, .int .i64 7] w fun e w' => e = .returned (.pointer (some ⟨w.heap.size, 0, none⟩)) ∧ Clk w' w.heap.size k0 ∧ Below w.heap.size w w' := new_any 3 7 w
theorem ex_now1 (c : Nat) (w : World) (h : Clk w c k0) : Calls Try.prog 38 #[.pointer (some ⟨c, 0, none⟩)] w fun e w' => e = .returned (.tuple #[.agg #[.int .i64 7, .int .i64 0, .int .i64 3], .bool true]) ∧ Clk w' c k1 ∧ w.grownBy w' (some c) := now_any c k0 k0_ok w h
theorem ex_now2 (c : Nat) (w : World) (h : Clk w c k1) : Calls Try.prog 38 #[.pointer (some ⟨c, 0, none⟩)] w fun e w' => e = .returned (.tuple #[.agg #[.int .i64 7, .int .i64 1, .int .i64 3], .bool true]) ∧ Clk w' c k2 ∧ w.grownBy w' (some c) := now_any c k1 k1_ok w h

set_option maxHeartbeats 1000000 in
theorem alive4_any (w : World) : Calls Try.prog 33 #[] w fun e w' => e = .returned (.bool true) ∧ Below w.heap.size w w' := by
  have hg := run_stGuard
  have h1 : ∀ w, (binOp .eql 46 (.agg #[.int .i64 7, .int .i64 0, .int .i64 3]) (.agg #[.int .i64 7, .int .i64 0, .int .i64 3])).run Try.prog w = .ok (.bool true) w := run_eqSt 7 0 3 7 0 3
  have h2 : ∀ w, (binOp .eql 46 (.agg #[.int .i64 7, .int .i64 1, .int .i64 3]) (.agg #[.int .i64 7, .int .i64 1, .int .i64 3])).run Try.prog w = .ok (.bool true) w := run_eqSt 7 1 3 7 1 3
  go_enter Try.func33, Try.ntmps33
  go_wp2_with fail
  refine (ex_new _).mono ?_; rintro e w1 ⟨rfl, hc1, hb1⟩
  go_wp2_with fail
  refine (ex_now1 _ _ hc1).mono ?_; rintro e w2 ⟨rfl, hc2, hg2⟩
  have below2 := below_gb hb1 hg2 (Nat.le_refl _)
  have below3 := below2.alloc below2.size (.cells #[.int .i64 7, .int .i64 0, .int .i64 3] 46)
  have hc3 : Clk (w2.alloc (.cells #[.int .i64 7, .int .i64 0, .int .i64 3] 46)) w.heap.size k1 := hc2.past _
  have bA := Bx.fresh w2 46 #[.int .i64 7, .int .i64 0, .int .i64 3]
  have hne : w.heap.size < w2.heap.size := hc2.inside
  have HNE := Hid.mk' hne
  clear hc1 hb1 hc2 hg2 below2 hne
  go_wp2_with fail
  refine (ex_now2 _ _ hc3).mono ?_; rintro e w4 ⟨rfl, hc4, hg4⟩
  have below4 := below_gb below3 hg4 (Nat.le_refl _)
  have bA4 := bA.grown hg4 (by intro h; have h1 := Option.some.inj h; have h2 := HNE.out; omega)
  have bB := Bx.fresh w4 46 #[.int .i64 7, .int .i64 1, .int .i64 3]
  have bA5 := bA4.past (.cells #[.int .i64 7, .int .i64 1, .int .i64 3] 46)
  have below5 := below4.alloc below4.size (.cells #[.int .i64 7, .int .i64 1, .int .i64 3] 46)
  clear below3 hc3 bA hc4 hg4 below4 bA4
  obtain ⟨a0, a1, a2⟩ := bA5.reads3
  obtain ⟨b0, b1, b2⟩ := bB.reads3
  clear bA5 bB
  go_wp2_with fail
  go_ret
  exact ⟨rfl, below5⟩

theorem eqS_refl (a : St) : eqS a a = true := by simp [eqS]
set_option maxHeartbeats 2000000 in
theorem orderslaw (ax ay az bx b_y bz : Int) (w : World) :
    Calls Try.prog 6 #[.agg #[.int .i64 ax, .int .i64 ay, .int .i64 az], .agg #[.int .i64 bx, .int .i64 b_y, .int .i64 bz]] w fun e w' => e = .returned (.bool true) ∧ Below w.heap.size w w' := by
  have below : Below w.heap.size w ((w.alloc (.cells #[.int .i64 ax, .int .i64 ay, .int .i64 az] 46)).alloc (.cells #[.int .i64 bx, .int .i64 b_y, .int .i64 bz] 46)) := ((Below.refl _ _).alloc (Nat.le_refl _) _).alloc (by simp) _
  have bA := (Bx.fresh w 46 #[.int .i64 ax, .int .i64 ay, .int .i64 az]).past (.cells #[.int .i64 bx, .int .i64 b_y, .int .i64 bz] 46)
  have bB := Bx.fresh' (w.alloc (.cells #[.int .i64 ax, .int .i64 ay, .int .i64 az] 46)) (n := w.heap.size + 1) (by simp) 46 #[.int .i64 bx, .int .i64 b_y, .int .i64 bz]
  have hg := run_stGuard
  have h1 := compare_any ⟨ax, ay, az⟩ ⟨bx, b_y, bz⟩
  have h2 := refcompare_any ⟨ax, ay, az⟩ ⟨bx, b_y, bz⟩
  have h3 := less_any ⟨ax, ay, az⟩ ⟨bx, b_y, bz⟩
  have h4 := refless_any ⟨ax, ay, az⟩ ⟨bx, b_y, bz⟩
  have h5 := max_any ⟨ax, ay, az⟩ ⟨bx, b_y, bz⟩
  have h6 := refmax_any ⟨ax, ay, az⟩ ⟨bx, b_y, bz⟩
  have h7 := right_any ⟨ax, ay, az⟩
  have h8 := refright_any ⟨ax, ay, az⟩
  generalize cmpS ⟨ax, ay, az⟩ ⟨bx, b_y, bz⟩ = k at *
  generalize lessS ⟨ax, ay, az⟩ ⟨bx, b_y, bz⟩ = l at *
  generalize maxS ⟨ax, ay, az⟩ ⟨bx, b_y, bz⟩ = m at *
  generalize rightB ⟨ax, ay, az⟩ = r at *
  obtain ⟨mx, my, mz⟩ := m
  unfold St.cells at *
  dsimp only at *
  have heq : ∀ w, (binOp .eql 46 (.agg #[.int .i64 mx, .int .i64 my, .int .i64 mz]) (.agg #[.int .i64 mx, .int .i64 my, .int .i64 mz])).run Try.prog w = .ok (.bool true) w := fun w => by rw [run_eqSt, eqS_refl]
  go_enter Try.func6, Try.ntmps6
  go_wp2_with fail
  generalize (w.alloc (.cells #[.int .i64 ax, .int .i64 ay, .int .i64 az] 46)).alloc (.cells #[.int .i64 bx, .int .i64 b_y, .int .i64 bz] 46) = W at *
  have a0 := Go.cell_regrown (bA.read (i := 0) (v := .int .i64 ax) rfl)
  have a1 := Go.cell_regrown (bA.read (i := 1) (v := .int .i64 ay) rfl)
  have a2 := Go.cell_regrown (bA.read (i := 2) (v := .int .i64 az) rfl)
  have b0 := Go.cell_regrown (bB.read (i := 0) (v := .int .i64 bx) rfl)
  have b1 := Go.cell_regrown (bB.read (i := 1) (v := .int .i64 b_y) rfl)
  have b2 := Go.cell_regrown (bB.read (i := 2) (v := .int .i64 bz) rfl)
  have c0 : ∀ d os, Calls Try.prog 25 #[.agg #[.int .i64 ax, .int .i64 ay, .int .i64 az], .agg #[.int .i64 bx, .int .i64 b_y, .int .i64 bz]] (Go.Sort.grow (Go.redrawn W d) os) fun e w'' => e = .returned (.int .i64 k) ∧ ∃ p : Go.Regrown, w'' = Go.Sort.grow (Go.redrawn W p.d) p.os := fun d os => Calls.regrown_of (h1 _)
  have C0 := Hid.mk' c0
  have c1 : ∀ d os, Calls Try.prog 26 #[.agg #[.int .i64 ax, .int .i64 ay, .int .i64 az], .agg #[.int .i64 bx, .int .i64 b_y, .int .i64 bz]] (Go.Sort.grow (Go.redrawn W d) os) fun e w'' => e = .returned (.int .i64 k) ∧ ∃ p : Go.Regrown, w'' = Go.Sort.grow (Go.redrawn W p.d) p.os := fun d os => Calls.regrown_of (h2 _)
  have C1 := Hid.mk' c1
  have c2 : ∀ d os, Calls Try.prog 27 #[.agg #[.int .i64 ax, .int .i64 ay, .int .i64 az], .agg #[.int .i64 bx, .int .i64 b_y, .int .i64 bz]] (Go.Sort.grow (Go.redrawn W d) os) fun e w'' => e = .returned (.bool l) ∧ ∃ p : Go.Regrown, w'' = Go.Sort.grow (Go.redrawn W p.d) p.os := fun d os => Calls.regrown_of (h3 _)
  have C2 := Hid.mk' c2
  have c3 : ∀ d os, Calls Try.prog 28 #[.agg #[.int .i64 ax, .int .i64 ay, .int .i64 az], .agg #[.int .i64 bx, .int .i64 b_y, .int .i64 bz]] (Go.Sort.grow (Go.redrawn W d) os) fun e w'' => e = .returned (.bool l) ∧ ∃ p : Go.Regrown, w'' = Go.Sort.grow (Go.redrawn W p.d) p.os := fun d os => Calls.regrown_of (h4 _)
  have C3 := Hid.mk' c3
  have c4 : ∀ d os, Calls Try.prog 29 #[.agg #[.int .i64 ax, .int .i64 ay, .int .i64 az], .agg #[.int .i64 bx, .int .i64 b_y, .int .i64 bz]] (Go.Sort.grow (Go.redrawn W d) os) fun e w'' => e = .returned (.agg #[.int .i64 mx, .int .i64 my, .int .i64 mz]) ∧ ∃ p : Go.Regrown, w'' = Go.Sort.grow (Go.redrawn W p.d) p.os := fun d os => Calls.regrown_of (h5 _)
  have C4 := Hid.mk' c4
  have c5 : ∀ d os, Calls Try.prog 30 #[.agg #[.int .i64 ax, .int .i64 ay, .int .i64 az], .agg #[.int .i64 bx, .int .i64 b_y, .int .i64 bz]] (Go.Sort.grow (Go.redrawn W d) os) fun e w'' => e = .returned (.agg #[.int .i64 mx, .int .i64 my, .int .i64 mz]) ∧ ∃ p : Go.Regrown, w'' = Go.Sort.grow (Go.redrawn W p.d) p.os := fun d os => Calls.regrown_of (h6 _)
  have C5 := Hid.mk' c5
  have c6 : ∀ d os, Calls Try.prog 31 #[.agg #[.int .i64 ax, .int .i64 ay, .int .i64 az]] (Go.Sort.grow (Go.redrawn W d) os) fun e w'' => e = .returned (.bool r) ∧ ∃ p : Go.Regrown, w'' = Go.Sort.grow (Go.redrawn W p.d) p.os := fun d os => Calls.regrown_of (h7 _)
  have C6 := Hid.mk' c6
  have c7 : ∀ d os, Calls Try.prog 32 #[.agg #[.int .i64 ax, .int .i64 ay, .int .i64 az]] (Go.Sort.grow (Go.redrawn W d) os) fun e w'' => e = .returned (.bool r) ∧ ∃ p : Go.Regrown, w'' = Go.Sort.grow (Go.redrawn W p.d) p.os := fun d os => Calls.regrown_of (h8 _)
  have C7 := Hid.mk' c7
  have c8 : ∀ d os, Calls Try.prog 33 #[] (Go.Sort.grow (Go.redrawn W d) os) fun e w'' => e = .returned (.bool true) ∧ ∃ p : Go.Regrown, w'' = Go.Sort.grow (Go.redrawn W p.d) p.os := fun d os => Calls.regrown_of (alive4_any _)
  have C8 := Hid.mk' c8
  clear c0 c1 c2 c3 c4 c5 c6 c7 c8 h1 h2 h3 h4 h5 h6 h7 h8 bA bB
  refine Go.wp_region_quiet_below (by kernel_rfl) (by kernel_rfl) ?_
  repeat (quiet_step (first | with_reducible exact C0.out _ _ | with_reducible exact C1.out _ _ | with_reducible exact C2.out _ _ | with_reducible exact C3.out _ _ | with_reducible exact C4.out _ _ | with_reducible exact C5.out _ _ | with_reducible exact C6.out _ _ | with_reducible exact C7.out _ _ | with_reducible exact C8.out _ _))
  refine wpQuiet_nil ?_
  intro _ hw'
  obtain ⟨⟨dq, osq⟩, hw''⟩ := hw'
  subst hw''
  go_wp2
  go_ret
  exact ⟨rfl, below.trans ((Go.below_regrown W dq osq).mono below.size)⟩
end Go.Proofs.Ytnkgicjclngnpaa
