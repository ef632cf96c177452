/- Layer 21 (conf): the statement ConfTurns' walk, node 1. -/
import Derived.Test.YtaeflfgkdjfnfaaE4
import Derived.Lib.QuietBelow
namespace Go.Proofs.Ytaeflfgkdjfnfaa
open Go.RowKit
attribute [local irreducible] wpQuiet

set_option maxRecDepth 100000 in
set_option maxHeartbeats 16000000 in
theorem turns_1if (e : Int) (o0 o2 o3 o4 : Bool) (j0 j1 j2 j3 j4 : Int) (h0 : -9223372036854775808 ≤ e) (hm : ¬ e < 1099511627776) (w : World) : Calls Try.prog 5 #[.agg #[.int .i64 e, .bool o0, .bool false, .bool o2, .bool o3, .bool o4, .int .i64 j0, .int .i64 j1, .int .i64 j2, .int .i64 j3, .int .i64 j4], .int .i64 1] w fun e w' => e = .returned (.bool true) ∧ Below w.heap.size w w' := by
  have hC : Cf.cells ⟨e, o0, false, o2, o3, o4, j0, j1, j2, j3, j4⟩ = #[.int .i64 e, .bool o0, .bool false, .bool o2, .bool o3, .bool o4, .int .i64 j0, .int .i64 j1, .int .i64 j2, .int .i64 j3, .int .i64 j4] := rfl
  have hi : Cf.is ⟨e, o0, false, o2, o3, o4, j0, j1, j2, j3, j4⟩ 1 = true := rfl
  have ha : Cf.always ⟨e, o0, false, o2, o3, o4, j0, j1, j2, j3, j4⟩ 1 = (j1 == 0) := rfl
  have hth : thr 1 = true := by decide
  have hmo : Cf.more ⟨e, o0, false, o2, o3, o4, j0, j1, j2, j3, j4⟩ = false := by unfold Cf.more; rw [decide_eq_false_iff_not]; exact hm
  have hex : Cf.excl ⟨e, o0, false, o2, o3, o4, j0, j1, j2, j3, j4⟩ 1 = ⟨e, o0, false, o2, o3, o4, j0, j1, j2, j3, j4⟩ := by unfold Cf.excl; rw [hi, hmo]; rfl
  have hin : Cf.incl ⟨e, o0, false, o2, o3, o4, j0, j1, j2, j3, j4⟩ 1 = ⟨e, o0, false, o2, o3, o4, j0, j1, j2, j3, j4⟩ := by unfold Cf.incl; rw [hth, hi, hmo]; rfl
  have hok : (Cf.is ⟨e, o0, false, o2, o3, o4, j0, j1, j2, j3, j4⟩ 1 && Cf.more ⟨e, o0, false, o2, o3, o4, j0, j1, j2, j3, j4⟩) = false := by rw [hi, hmo]; rfl
  have hik : (thr 1 && !Cf.is ⟨e, o0, false, o2, o3, o4, j0, j1, j2, j3, j4⟩ 1 && Cf.more ⟨e, o0, false, o2, o3, o4, j0, j1, j2, j3, j4⟩) = false := by rw [hth, hi, hmo]; rfl
  have CEX : Hid (∀ W, Calls Try.prog 25 #[.agg #[.int .i64 e, .bool o0, .bool false, .bool o2, .bool o3, .bool o4, .int .i64 j0, .int .i64 j1, .int .i64 j2, .int .i64 j3, .int .i64 j4], .int .i64 1] W fun r w' => r = .returned (.tuple #[.agg #[.int .i64 e, .bool o0, .bool false, .bool o2, .bool o3, .bool o4, .int .i64 j0, .int .i64 j1, .int .i64 j2, .int .i64 j3, .int .i64 j4], .bool false]) ∧ Below W.heap.size W w') := Lib.hid (fun W => by have h := cf_excl ⟨e, o0, false, o2, o3, o4, j0, j1, j2, j3, j4⟩ 1 h0 W; rw [hex, hok] at h; exact h)
  have CIN : Hid (∀ W, Calls Try.prog 26 #[.agg #[.int .i64 e, .bool o0, .bool false, .bool o2, .bool o3, .bool o4, .int .i64 j0, .int .i64 j1, .int .i64 j2, .int .i64 j3, .int .i64 j4], .int .i64 1] W fun r w' => r = .returned (.tuple #[.agg #[.int .i64 e, .bool o0, .bool false, .bool o2, .bool o3, .bool o4, .int .i64 j0, .int .i64 j1, .int .i64 j2, .int .i64 j3, .int .i64 j4], .bool false]) ∧ Below W.heap.size W w') := Lib.hid (fun W => by have h := cf_incl ⟨e, o0, false, o2, o3, o4, j0, j1, j2, j3, j4⟩ 1 h0 W; rw [hin, hik] at h; exact h)
  have CR := Lib.hid (fun d os => Calls.regrown_of (d := d) (os := os) (cf_right ⟨e, o0, false, o2, o3, o4, j0, j1, j2, j3, j4⟩ (Go.Sort.grow (Go.redrawn (w.alloc (.cells #[.int .i64 e, .bool o0, .bool false, .bool o2, .bool o3, .bool o4, .int .i64 j0, .int .i64 j1, .int .i64 j2, .int .i64 j3, .int .i64 j4] 39)) d) os)))
  have CL := Lib.hid (fun d os => Calls.regrown_of (d := d) (os := os) (law_right ⟨e, o0, false, o2, o3, o4, j0, j1, j2, j3, j4⟩ (Go.Sort.grow (Go.redrawn (w.alloc (.cells #[.int .i64 e, .bool o0, .bool false, .bool o2, .bool o3, .bool o4, .int .i64 j0, .int .i64 j1, .int .i64 j2, .int .i64 j3, .int .i64 j4] 39)) d) os)))
  have CI := Lib.hid (fun d os => Calls.regrown_of (d := d) (os := os) (cf_is ⟨e, o0, false, o2, o3, o4, j0, j1, j2, j3, j4⟩ 1 (Go.Sort.grow (Go.redrawn (w.alloc (.cells #[.int .i64 e, .bool o0, .bool false, .bool o2, .bool o3, .bool o4, .int .i64 j0, .int .i64 j1, .int .i64 j2, .int .i64 j3, .int .i64 j4] 39)) d) os)))
  have CA := Lib.hid (fun d os => Calls.regrown_of (d := d) (os := os) (cf_always ⟨e, o0, false, o2, o3, o4, j0, j1, j2, j3, j4⟩ 1 (Go.Sort.grow (Go.redrawn (w.alloc (.cells #[.int .i64 e, .bool o0, .bool false, .bool o2, .bool o3, .bool o4, .int .i64 j0, .int .i64 j1, .int .i64 j2, .int .i64 j3, .int .i64 j4] 39)) d) os)))
  rw [hi] at CI
  rw [ha] at CA
  rw [hC] at CR CL CI CA
  have ex1 : ∀ W, (binOp .eql 39 (.agg #[.int .i64 e, .bool o0, .bool false, .bool o2, .bool o3, .bool o4, .int .i64 j0, .int .i64 j1, .int .i64 j2, .int .i64 j3, .int .i64 j4]) (.agg #[.int .i64 e, .bool o0, .bool false, .bool o2, .bool o3, .bool o4, .int .i64 j0, .int .i64 j1, .int .i64 j2, .int .i64 j3, .int .i64 j4])).run Try.prog W = .ok (.bool true) W := fun W => by have h := run_eqlCf ⟨e, o0, false, o2, o3, o4, j0, j1, j2, j3, j4⟩ ⟨e, o0, false, o2, o3, o4, j0, j1, j2, j3, j4⟩ W; rw [show (Cf.eq ⟨e, o0, false, o2, o3, o4, j0, j1, j2, j3, j4⟩ ⟨e, o0, false, o2, o3, o4, j0, j1, j2, j3, j4⟩) = true from Cf.eq_refl _] at h; exact h
  have ex1n : ∀ W, (binOp .neq 39 (.agg #[.int .i64 e, .bool o0, .bool false, .bool o2, .bool o3, .bool o4, .int .i64 j0, .int .i64 j1, .int .i64 j2, .int .i64 j3, .int .i64 j4]) (.agg #[.int .i64 e, .bool o0, .bool false, .bool o2, .bool o3, .bool o4, .int .i64 j0, .int .i64 j1, .int .i64 j2, .int .i64 j3, .int .i64 j4])).run Try.prog W = .ok (.bool false) W := fun W => by have h := run_neqCf ⟨e, o0, false, o2, o3, o4, j0, j1, j2, j3, j4⟩ ⟨e, o0, false, o2, o3, o4, j0, j1, j2, j3, j4⟩ W; rw [show (!Cf.eq ⟨e, o0, false, o2, o3, o4, j0, j1, j2, j3, j4⟩ ⟨e, o0, false, o2, o3, o4, j0, j1, j2, j3, j4⟩) = false from by rw [Cf.eq_refl]; rfl] at h; exact h
  have hgd := fun (op : BinOp) (x y : Operand) (xs ys : Array Value) (W : World) => run_cfGuard op x y xs ys W
  have hd : decide (e < 1099511627776) = false := by simp [hm]
  generalize Cf.right ⟨e, o0, false, o2, o3, o4, j0, j1, j2, j3, j4⟩ = r at CR CL
  have hr : (r != r) = false := by simp
  have hj : ((j1 == 0) != (j1 == 0)) = false := by simp
  clear hC
  clear hi
  clear ha
  clear hth
  clear hex
  clear hin
  clear hok
  clear hik
  clear hmo
  have HB := Lib.hid (And.intro ((Below.refl w.heap.size w).alloc (Nat.le_refl _) (.cells #[.int .i64 e, .bool o0, .bool false, .bool o2, .bool o3, .bool o4, .int .i64 j0, .int .i64 j1, .int .i64 j2, .int .i64 j3, .int .i64 j4] 39)) (Bx.fresh w 39 #[.int .i64 e, .bool o0, .bool false, .bool o2, .bool o3, .bool o4, .int .i64 j0, .int .i64 j1, .int .i64 j2, .int .i64 j3, .int .i64 j4]))
  have HM := Lib.hid (fun d os i v (h : (w.alloc (.cells #[.int .i64 e, .bool o0, .bool false, .bool o2, .bool o3, .bool o4, .int .i64 j0, .int .i64 j1, .int .i64 j2, .int .i64 j3, .int .i64 j4] 39)).cell? ⟨w.heap.size, i, none⟩ = some v) => Go.cell_regrown h d os)
  have m0 : ∀ d os, (Go.Sort.grow (Go.redrawn (w.alloc (.cells #[.int .i64 e, .bool o0, .bool false, .bool o2, .bool o3, .bool o4, .int .i64 j0, .int .i64 j1, .int .i64 j2, .int .i64 j3, .int .i64 j4] 39)) d) os).cell? ⟨w.heap.size, 0, none⟩ = some (.int .i64 e) := fun d os => Go.cell_regrown (HB.out.2.read (i := 0) rfl) d os
  have m1 : ∀ d os, (Go.Sort.grow (Go.redrawn (w.alloc (.cells #[.int .i64 e, .bool o0, .bool false, .bool o2, .bool o3, .bool o4, .int .i64 j0, .int .i64 j1, .int .i64 j2, .int .i64 j3, .int .i64 j4] 39)) d) os).cell? ⟨w.heap.size, 1, none⟩ = some (.bool o0) := fun d os => Go.cell_regrown (HB.out.2.read (i := 1) rfl) d os
  have m2 : ∀ d os, (Go.Sort.grow (Go.redrawn (w.alloc (.cells #[.int .i64 e, .bool o0, .bool false, .bool o2, .bool o3, .bool o4, .int .i64 j0, .int .i64 j1, .int .i64 j2, .int .i64 j3, .int .i64 j4] 39)) d) os).cell? ⟨w.heap.size, 2, none⟩ = some (.bool false) := fun d os => Go.cell_regrown (HB.out.2.read (i := 2) rfl) d os
  have m3 : ∀ d os, (Go.Sort.grow (Go.redrawn (w.alloc (.cells #[.int .i64 e, .bool o0, .bool false, .bool o2, .bool o3, .bool o4, .int .i64 j0, .int .i64 j1, .int .i64 j2, .int .i64 j3, .int .i64 j4] 39)) d) os).cell? ⟨w.heap.size, 3, none⟩ = some (.bool o2) := fun d os => Go.cell_regrown (HB.out.2.read (i := 3) rfl) d os
  have m4 : ∀ d os, (Go.Sort.grow (Go.redrawn (w.alloc (.cells #[.int .i64 e, .bool o0, .bool false, .bool o2, .bool o3, .bool o4, .int .i64 j0, .int .i64 j1, .int .i64 j2, .int .i64 j3, .int .i64 j4] 39)) d) os).cell? ⟨w.heap.size, 4, none⟩ = some (.bool o3) := fun d os => Go.cell_regrown (HB.out.2.read (i := 4) rfl) d os
  have m5 : ∀ d os, (Go.Sort.grow (Go.redrawn (w.alloc (.cells #[.int .i64 e, .bool o0, .bool false, .bool o2, .bool o3, .bool o4, .int .i64 j0, .int .i64 j1, .int .i64 j2, .int .i64 j3, .int .i64 j4] 39)) d) os).cell? ⟨w.heap.size, 5, none⟩ = some (.bool o4) := fun d os => Go.cell_regrown (HB.out.2.read (i := 5) rfl) d os
  have m6 : ∀ d os, (Go.Sort.grow (Go.redrawn (w.alloc (.cells #[.int .i64 e, .bool o0, .bool false, .bool o2, .bool o3, .bool o4, .int .i64 j0, .int .i64 j1, .int .i64 j2, .int .i64 j3, .int .i64 j4] 39)) d) os).cell? ⟨w.heap.size, 6, none⟩ = some (.int .i64 j0) := fun d os => Go.cell_regrown (HB.out.2.read (i := 6) rfl) d os
  have m7 : ∀ d os, (Go.Sort.grow (Go.redrawn (w.alloc (.cells #[.int .i64 e, .bool o0, .bool false, .bool o2, .bool o3, .bool o4, .int .i64 j0, .int .i64 j1, .int .i64 j2, .int .i64 j3, .int .i64 j4] 39)) d) os).cell? ⟨w.heap.size, 7, none⟩ = some (.int .i64 j1) := fun d os => Go.cell_regrown (HB.out.2.read (i := 7) rfl) d os
  have m8 : ∀ d os, (Go.Sort.grow (Go.redrawn (w.alloc (.cells #[.int .i64 e, .bool o0, .bool false, .bool o2, .bool o3, .bool o4, .int .i64 j0, .int .i64 j1, .int .i64 j2, .int .i64 j3, .int .i64 j4] 39)) d) os).cell? ⟨w.heap.size, 8, none⟩ = some (.int .i64 j2) := fun d os => Go.cell_regrown (HB.out.2.read (i := 8) rfl) d os
  have m9 : ∀ d os, (Go.Sort.grow (Go.redrawn (w.alloc (.cells #[.int .i64 e, .bool o0, .bool false, .bool o2, .bool o3, .bool o4, .int .i64 j0, .int .i64 j1, .int .i64 j2, .int .i64 j3, .int .i64 j4] 39)) d) os).cell? ⟨w.heap.size, 9, none⟩ = some (.int .i64 j3) := fun d os => Go.cell_regrown (HB.out.2.read (i := 9) rfl) d os
  have m10 : ∀ d os, (Go.Sort.grow (Go.redrawn (w.alloc (.cells #[.int .i64 e, .bool o0, .bool false, .bool o2, .bool o3, .bool o4, .int .i64 j0, .int .i64 j1, .int .i64 j2, .int .i64 j3, .int .i64 j4] 39)) d) os).cell? ⟨w.heap.size, 10, none⟩ = some (.int .i64 j4) := fun d os => Go.cell_regrown (HB.out.2.read (i := 10) rfl) d os
  go_enter Try.func5, Try.ntmps5
  go_wp2_with fail
  refine Go.wp_region_quiet_below (by kernel_rfl) (by kernel_rfl) ?_
  repeat (quiet_step (first | with_reducible exact CR.out _ _ | with_reducible exact CL.out _ _ | with_reducible exact CI.out _ _ | with_reducible exact CA.out _ _))
  refine wpQuiet_nil ?_
  intro _ hw'
  obtain ⟨⟨dq, osq⟩, hw''⟩ := hw'
  subst hw''
  have hbq := Go.below_regrown (w.alloc (.cells #[.int .i64 e, .bool o0, .bool false, .bool o2, .bool o3, .bool o4, .int .i64 j0, .int .i64 j1, .int .i64 j2, .int .i64 j3, .int .i64 j4] 39)) dq osq
  have HX9 := Lib.hid (HB.out.2.next hbq)
  have HB9 := Lib.hid (bnext HB.out.1 hbq)
  clear hbq m0 m1 m2 m3 m4 m5 m6 m7 m8 m9 m10 CR CL CI CA HM
  generalize Go.Sort.grow (Go.redrawn (w.alloc (.cells #[.int .i64 e, .bool o0, .bool false, .bool o2, .bool o3, .bool o4, .int .i64 j0, .int .i64 j1, .int .i64 j2, .int .i64 j3, .int .i64 j4] 39)) dq) osq = W9 at *
  obtain ⟨x0, x1, x2, x3, x4, x5, x6, x7, x8, x9, x10⟩ := HX9.out.reads11
  go_wp2_with fail
  refine (CEX.out _).mono ?_; rintro _ w2 ⟨rfl, hb2⟩
  clear x0 x1 x2 x3 x4 x5 x6 x7 x8 x9 x10
  have HX2 := Lib.hid (HX9.out.next hb2)
  have HB2 := Lib.hid (bnext HB9.out hb2)
  have hlt2 := HX2.out.inside
  have hlt2' : w.heap.size < w2.heap.size + 1 := Nat.lt_succ_of_lt hlt2
  have hl2 : ¬ (w.heap.size = w2.heap.size) := by have := HX2.out.inside; omega
  have hl3 : ¬ (w.heap.size = w2.heap.size + 1) := by have := HX2.out.inside; omega
  obtain ⟨x0, x1, x2, x3, x4, x5, x6, x7, x8, x9, x10⟩ := HX2.out.reads11
  clear hb2
  go_wp2_with fail
  refine (Calls.kept (S := fun W => Below w.heap.size w W ∧ Bx W w.heap.size 39 #[.int .i64 e, .bool o0, .bool false, .bool o2, .bool o3, .bool o4, .int .i64 j0, .int .i64 j1, .int .i64 j2, .int .i64 j3, .int .i64 j4] ∧ Bx W w2.heap.size 39 #[.int .i64 e, .bool o0, .bool false, .bool o2, .bool o3, .bool o4, .int .i64 j0, .int .i64 j1, .int .i64 j2, .int .i64 j3, .int .i64 j4] ∧ Bx W (w2.heap.size + 1) 39 #[.int .i64 e, .bool o0, .bool false, .bool o2, .bool o3, .bool o4, .int .i64 j0, .int .i64 j1, .int .i64 j2, .int .i64 j3, .int .i64 j4]) (CIN.out _) ⟨((HB2.out).alloc HB2.out.size _).alloc (by rw [World.size_alloc]; exact Nat.le_succ_of_le HB2.out.size) _, (HX2.out.past _).past _, (Bx.fresh w2 _ _).past _, Bx.fresh' (w2.alloc _) (by simp) _ _⟩ (fun w' hb hS => ⟨hS.1.trans (hb.mono hS.1.size), hS.2.1.next hb, hS.2.2.1.next hb, hS.2.2.2.next hb⟩)).mono ?_; rintro _ w3 ⟨rfl, hb3, hx3, hy3, hz3⟩
  clear x0 x1 x2 x3 x4 x5 x6 x7 x8 x9 x10
  have HB3 := Lib.hid hb3
  have i3 := hx3.inside
  have k3 := hy3.inside
  have l3 := hz3.inside
  have p1 : ¬ (w.heap.size = w3.heap.size) := by omega
  have p2 : ¬ (w.heap.size = w3.heap.size + 1) := by omega
  have p3 : ¬ (w2.heap.size = w3.heap.size) := by omega
  have p4 : ¬ (w2.heap.size = w3.heap.size + 1) := by omega
  have p5 : ¬ (w2.heap.size + 1 = w3.heap.size) := by omega
  obtain ⟨x0, x1, x2, x3, x4, x5, x6, x7, x8, x9, x10⟩ := hx3.reads11
  obtain ⟨y0, y1, y2, y3, y4, y5, y6, y7, y8, y9, y10⟩ := hy3.reads11
  obtain ⟨z0, z1, z2, z3, z4, z5, z6, z7, z8, z9, z10⟩ := hz3.reads11
  clear hx3 hy3 hz3 hb3 hlt2 hlt2'
  have i3' := Nat.lt_succ_of_lt i3
  have k3' := Nat.lt_succ_of_lt k3
  have l3' := Nat.lt_succ_of_lt l3
  have AL := Lib.hid alive21_any
  go_wp2_with fail
  refine (Calls.kept (S := fun W => Below w.heap.size w W) (AL.out _) (((HB3.out).alloc HB3.out.size _).alloc (by rw [World.size_alloc]; exact Nat.le_succ_of_le HB3.out.size) _) (fun w' hb hS => hS.trans (hb.mono hS.size))).mono ?_; rintro _ w4 ⟨rfl, hb4⟩
  have HB4 := Lib.hid hb4
  clear hb4 x0 x1 x2 x3 x4 x5 x6 x7 x8 x9 x10 y0 y1 y2 y3 y4 y5 y6 y7 y8 y9 y10 z0 z1 z2 z3 z4 z5 z6 z7 z8 z9 z10
  go_wp2_with fail
  go_ret
  exact ⟨rfl, HB4.out⟩
set_option maxRecDepth 100000 in
set_option maxHeartbeats 16000000 in
theorem turns_1im (e : Int) (o0 o2 o3 o4 : Bool) (j0 j1 j2 j3 j4 : Int) (h0 : -9223372036854775808 ≤ e) (hm : e < 1099511627776) (w : World) : Calls Try.prog 5 #[.agg #[.int .i64 e, .bool o0, .bool false, .bool o2, .bool o3, .bool o4, .int .i64 j0, .int .i64 j1, .int .i64 j2, .int .i64 j3, .int .i64 j4], .int .i64 1] w fun e w' => e = .returned (.bool true) ∧ Below w.heap.size w w' := by
  have hC : Cf.cells ⟨e, o0, false, o2, o3, o4, j0, j1, j2, j3, j4⟩ = #[.int .i64 e, .bool o0, .bool false, .bool o2, .bool o3, .bool o4, .int .i64 j0, .int .i64 j1, .int .i64 j2, .int .i64 j3, .int .i64 j4] := rfl
  have hi : Cf.is ⟨e, o0, false, o2, o3, o4, j0, j1, j2, j3, j4⟩ 1 = true := rfl
  have ha : Cf.always ⟨e, o0, false, o2, o3, o4, j0, j1, j2, j3, j4⟩ 1 = (j1 == 0) := rfl
  have hth : thr 1 = true := by decide
  have hmo : Cf.more ⟨e, o0, false, o2, o3, o4, j0, j1, j2, j3, j4⟩ = true := by unfold Cf.more; rw [decide_eq_true_eq]; exact hm
  have hex : Cf.excl ⟨e, o0, false, o2, o3, o4, j0, j1, j2, j3, j4⟩ 1 = ⟨e + 1, o0, true, o2, o3, o4, j0, j1, j2, j3, j4⟩ := by unfold Cf.excl; rw [hi, hmo]; rfl
  have hin : Cf.incl ⟨e, o0, false, o2, o3, o4, j0, j1, j2, j3, j4⟩ 1 = ⟨e, o0, false, o2, o3, o4, j0, j1, j2, j3, j4⟩ := by unfold Cf.incl; rw [hth, hi, hmo]; rfl
  have hok : (Cf.is ⟨e, o0, false, o2, o3, o4, j0, j1, j2, j3, j4⟩ 1 && Cf.more ⟨e, o0, false, o2, o3, o4, j0, j1, j2, j3, j4⟩) = true := by rw [hi, hmo]; rfl
  have hik : (thr 1 && !Cf.is ⟨e, o0, false, o2, o3, o4, j0, j1, j2, j3, j4⟩ 1 && Cf.more ⟨e, o0, false, o2, o3, o4, j0, j1, j2, j3, j4⟩) = false := by rw [hth, hi, hmo]; rfl
  have CEX : Hid (∀ W, Calls Try.prog 25 #[.agg #[.int .i64 e, .bool o0, .bool false, .bool o2, .bool o3, .bool o4, .int .i64 j0, .int .i64 j1, .int .i64 j2, .int .i64 j3, .int .i64 j4], .int .i64 1] W fun r w' => r = .returned (.tuple #[.agg #[.int .i64 (e + 1), .bool o0, .bool true, .bool o2, .bool o3, .bool o4, .int .i64 j0, .int .i64 j1, .int .i64 j2, .int .i64 j3, .int .i64 j4], .bool true]) ∧ Below W.heap.size W w') := Lib.hid (fun W => by have h := cf_excl ⟨e, o0, false, o2, o3, o4, j0, j1, j2, j3, j4⟩ 1 h0 W; rw [hex, hok] at h; exact h)
  have CIN : Hid (∀ W, Calls Try.prog 26 #[.agg #[.int .i64 e, .bool o0, .bool false, .bool o2, .bool o3, .bool o4, .int .i64 j0, .int .i64 j1, .int .i64 j2, .int .i64 j3, .int .i64 j4], .int .i64 1] W fun r w' => r = .returned (.tuple #[.agg #[.int .i64 e, .bool o0, .bool false, .bool o2, .bool o3, .bool o4, .int .i64 j0, .int .i64 j1, .int .i64 j2, .int .i64 j3, .int .i64 j4], .bool false]) ∧ Below W.heap.size W w') := Lib.hid (fun W => by have h := cf_incl ⟨e, o0, false, o2, o3, o4, j0, j1, j2, j3, j4⟩ 1 h0 W; rw [hin, hik] at h; exact h)
  have CR := Lib.hid (fun d os => Calls.regrown_of (d := d) (os := os) (cf_right ⟨e, o0, false, o2, o3, o4, j0, j1, j2, j3, j4⟩ (Go.Sort.grow (Go.redrawn (w.alloc (.cells #[.int .i64 e, .bool o0, .bool false, .bool o2, .bool o3, .bool o4, .int .i64 j0, .int .i64 j1, .int .i64 j2, .int .i64 j3, .int .i64 j4] 39)) d) os)))
  have CL := Lib.hid (fun d os => Calls.regrown_of (d := d) (os := os) (law_right ⟨e, o0, false, o2, o3, o4, j0, j1, j2, j3, j4⟩ (Go.Sort.grow (Go.redrawn (w.alloc (.cells #[.int .i64 e, .bool o0, .bool false, .bool o2, .bool o3, .bool o4, .int .i64 j0, .int .i64 j1, .int .i64 j2, .int .i64 j3, .int .i64 j4] 39)) d) os)))
  have CI := Lib.hid (fun d os => Calls.regrown_of (d := d) (os := os) (cf_is ⟨e, o0, false, o2, o3, o4, j0, j1, j2, j3, j4⟩ 1 (Go.Sort.grow (Go.redrawn (w.alloc (.cells #[.int .i64 e, .bool o0, .bool false, .bool o2, .bool o3, .bool o4, .int .i64 j0, .int .i64 j1, .int .i64 j2, .int .i64 j3, .int .i64 j4] 39)) d) os)))
  have CA := Lib.hid (fun d os => Calls.regrown_of (d := d) (os := os) (cf_always ⟨e, o0, false, o2, o3, o4, j0, j1, j2, j3, j4⟩ 1 (Go.Sort.grow (Go.redrawn (w.alloc (.cells #[.int .i64 e, .bool o0, .bool false, .bool o2, .bool o3, .bool o4, .int .i64 j0, .int .i64 j1, .int .i64 j2, .int .i64 j3, .int .i64 j4] 39)) d) os)))
  rw [hi] at CI
  rw [ha] at CA
  rw [hC] at CR CL CI CA
  have ex1 : ∀ W, (binOp .eql 39 (.agg #[.int .i64 (e + 1), .bool o0, .bool true, .bool o2, .bool o3, .bool o4, .int .i64 j0, .int .i64 j1, .int .i64 j2, .int .i64 j3, .int .i64 j4]) (.agg #[.int .i64 (e + 1), .bool o0, .bool true, .bool o2, .bool o3, .bool o4, .int .i64 j0, .int .i64 j1, .int .i64 j2, .int .i64 j3, .int .i64 j4])).run Try.prog W = .ok (.bool true) W := fun W => by have h := run_eqlCf ⟨e + 1, o0, true, o2, o3, o4, j0, j1, j2, j3, j4⟩ ⟨e + 1, o0, true, o2, o3, o4, j0, j1, j2, j3, j4⟩ W; rw [show (Cf.eq ⟨e + 1, o0, true, o2, o3, o4, j0, j1, j2, j3, j4⟩ ⟨e + 1, o0, true, o2, o3, o4, j0, j1, j2, j3, j4⟩) = true from Cf.eq_refl _] at h; exact h
  have ex1n : ∀ W, (binOp .neq 39 (.agg #[.int .i64 (e + 1), .bool o0, .bool true, .bool o2, .bool o3, .bool o4, .int .i64 j0, .int .i64 j1, .int .i64 j2, .int .i64 j3, .int .i64 j4]) (.agg #[.int .i64 e, .bool o0, .bool false, .bool o2, .bool o3, .bool o4, .int .i64 j0, .int .i64 j1, .int .i64 j2, .int .i64 j3, .int .i64 j4])).run Try.prog W = .ok (.bool true) W := fun W => by have h := run_neqCf ⟨e + 1, o0, true, o2, o3, o4, j0, j1, j2, j3, j4⟩ ⟨e, o0, false, o2, o3, o4, j0, j1, j2, j3, j4⟩ W; rw [show (!Cf.eq ⟨e + 1, o0, true, o2, o3, o4, j0, j1, j2, j3, j4⟩ ⟨e, o0, false, o2, o3, o4, j0, j1, j2, j3, j4⟩) = true from by rw [Cf.eq_e (by show e + 1 ≠ e; omega)]; rfl] at h; exact h
  have ex2 : ∀ W, (binOp .eql 39 (.agg #[.int .i64 e, .bool o0, .bool false, .bool o2, .bool o3, .bool o4, .int .i64 j0, .int .i64 j1, .int .i64 j2, .int .i64 j3, .int .i64 j4]) (.agg #[.int .i64 e, .bool o0, .bool false, .bool o2, .bool o3, .bool o4, .int .i64 j0, .int .i64 j1, .int .i64 j2, .int .i64 j3, .int .i64 j4])).run Try.prog W = .ok (.bool true) W := fun W => by have h := run_eqlCf ⟨e, o0, false, o2, o3, o4, j0, j1, j2, j3, j4⟩ ⟨e, o0, false, o2, o3, o4, j0, j1, j2, j3, j4⟩ W; rw [show (Cf.eq ⟨e, o0, false, o2, o3, o4, j0, j1, j2, j3, j4⟩ ⟨e, o0, false, o2, o3, o4, j0, j1, j2, j3, j4⟩) = true from Cf.eq_refl _] at h; exact h
  have ex2n : ∀ W, (binOp .neq 39 (.agg #[.int .i64 e, .bool o0, .bool false, .bool o2, .bool o3, .bool o4, .int .i64 j0, .int .i64 j1, .int .i64 j2, .int .i64 j3, .int .i64 j4]) (.agg #[.int .i64 e, .bool o0, .bool false, .bool o2, .bool o3, .bool o4, .int .i64 j0, .int .i64 j1, .int .i64 j2, .int .i64 j3, .int .i64 j4])).run Try.prog W = .ok (.bool false) W := fun W => by have h := run_neqCf ⟨e, o0, false, o2, o3, o4, j0, j1, j2, j3, j4⟩ ⟨e, o0, false, o2, o3, o4, j0, j1, j2, j3, j4⟩ W; rw [show (!Cf.eq ⟨e, o0, false, o2, o3, o4, j0, j1, j2, j3, j4⟩ ⟨e, o0, false, o2, o3, o4, j0, j1, j2, j3, j4⟩) = false from by rw [Cf.eq_refl]; rfl] at h; exact h
  have hgd := fun (op : BinOp) (x y : Operand) (xs ys : Array Value) (W : World) => run_cfGuard op x y xs ys W
  have hw := wrap_up h0 hm
  have hd : decide (e < 1099511627776) = true := by simp [hm]
  generalize Cf.right ⟨e, o0, false, o2, o3, o4, j0, j1, j2, j3, j4⟩ = r at CR CL
  have hr : (r != r) = false := by simp
  have hj : ((j1 == 0) != (j1 == 0)) = false := by simp
  clear hC
  clear hi
  clear ha
  clear hth
  clear hex
  clear hin
  clear hok
  clear hik
  clear hmo
  have HB := Lib.hid (And.intro ((Below.refl w.heap.size w).alloc (Nat.le_refl _) (.cells #[.int .i64 e, .bool o0, .bool false, .bool o2, .bool o3, .bool o4, .int .i64 j0, .int .i64 j1, .int .i64 j2, .int .i64 j3, .int .i64 j4] 39)) (Bx.fresh w 39 #[.int .i64 e, .bool o0, .bool false, .bool o2, .bool o3, .bool o4, .int .i64 j0, .int .i64 j1, .int .i64 j2, .int .i64 j3, .int .i64 j4]))
  have HM := Lib.hid (fun d os i v (h : (w.alloc (.cells #[.int .i64 e, .bool o0, .bool false, .bool o2, .bool o3, .bool o4, .int .i64 j0, .int .i64 j1, .int .i64 j2, .int .i64 j3, .int .i64 j4] 39)).cell? ⟨w.heap.size, i, none⟩ = some v) => Go.cell_regrown h d os)
  have m0 : ∀ d os, (Go.Sort.grow (Go.redrawn (w.alloc (.cells #[.int .i64 e, .bool o0, .bool false, .bool o2, .bool o3, .bool o4, .int .i64 j0, .int .i64 j1, .int .i64 j2, .int .i64 j3, .int .i64 j4] 39)) d) os).cell? ⟨w.heap.size, 0, none⟩ = some (.int .i64 e) := fun d os => Go.cell_regrown (HB.out.2.read (i := 0) rfl) d os
  have m1 : ∀ d os, (Go.Sort.grow (Go.redrawn (w.alloc (.cells #[.int .i64 e, .bool o0, .bool false, .bool o2, .bool o3, .bool o4, .int .i64 j0, .int .i64 j1, .int .i64 j2, .int .i64 j3, .int .i64 j4] 39)) d) os).cell? ⟨w.heap.size, 1, none⟩ = some (.bool o0) := fun d os => Go.cell_regrown (HB.out.2.read (i := 1) rfl) d os
  have m2 : ∀ d os, (Go.Sort.grow (Go.redrawn (w.alloc (.cells #[.int .i64 e, .bool o0, .bool false, .bool o2, .bool o3, .bool o4, .int .i64 j0, .int .i64 j1, .int .i64 j2, .int .i64 j3, .int .i64 j4] 39)) d) os).cell? ⟨w.heap.size, 2, none⟩ = some (.bool false) := fun d os => Go.cell_regrown (HB.out.2.read (i := 2) rfl) d os
  have m3 : ∀ d os, (Go.Sort.grow (Go.redrawn (w.alloc (.cells #[.int .i64 e, .bool o0, .bool false, .bool o2, .bool o3, .bool o4, .int .i64 j0, .int .i64 j1, .int .i64 j2, .int .i64 j3, .int .i64 j4] 39)) d) os).cell? ⟨w.heap.size, 3, none⟩ = some (.bool o2) := fun d os => Go.cell_regrown (HB.out.2.read (i := 3) rfl) d os
  have m4 : ∀ d os, (Go.Sort.grow (Go.redrawn (w.alloc (.cells #[.int .i64 e, .bool o0, .bool false, .bool o2, .bool o3, .bool o4, .int .i64 j0, .int .i64 j1, .int .i64 j2, .int .i64 j3, .int .i64 j4] 39)) d) os).cell? ⟨w.heap.size, 4, none⟩ = some (.bool o3) := fun d os => Go.cell_regrown (HB.out.2.read (i := 4) rfl) d os
  have m5 : ∀ d os, (Go.Sort.grow (Go.redrawn (w.alloc (.cells #[.int .i64 e, .bool o0, .bool false, .bool o2, .bool o3, .bool o4, .int .i64 j0, .int .i64 j1, .int .i64 j2, .int .i64 j3, .int .i64 j4] 39)) d) os).cell? ⟨w.heap.size, 5, none⟩ = some (.bool o4) := fun d os => Go.cell_regrown (HB.out.2.read (i := 5) rfl) d os
  have m6 : ∀ d os, (Go.Sort.grow (Go.redrawn (w.alloc (.cells #[.int .i64 e, .bool o0, .bool false, .bool o2, .bool o3, .bool o4, .int .i64 j0, .int .i64 j1, .int .i64 j2, .int .i64 j3, .int .i64 j4] 39)) d) os).cell? ⟨w.heap.size, 6, none⟩ = some (.int .i64 j0) := fun d os => Go.cell_regrown (HB.out.2.read (i := 6) rfl) d os
  have m7 : ∀ d os, (Go.Sort.grow (Go.redrawn (w.alloc (.cells #[.int .i64 e, .bool o0, .bool false, .bool o2, .bool o3, .bool o4, .int .i64 j0, .int .i64 j1, .int .i64 j2, .int .i64 j3, .int .i64 j4] 39)) d) os).cell? ⟨w.heap.size, 7, none⟩ = some (.int .i64 j1) := fun d os => Go.cell_regrown (HB.out.2.read (i := 7) rfl) d os
  have m8 : ∀ d os, (Go.Sort.grow (Go.redrawn (w.alloc (.cells #[.int .i64 e, .bool o0, .bool false, .bool o2, .bool o3, .bool o4, .int .i64 j0, .int .i64 j1, .int .i64 j2, .int .i64 j3, .int .i64 j4] 39)) d) os).cell? ⟨w.heap.size, 8, none⟩ = some (.int .i64 j2) := fun d os => Go.cell_regrown (HB.out.2.read (i := 8) rfl) d os
  have m9 : ∀ d os, (Go.Sort.grow (Go.redrawn (w.alloc (.cells #[.int .i64 e, .bool o0, .bool false, .bool o2, .bool o3, .bool o4, .int .i64 j0, .int .i64 j1, .int .i64 j2, .int .i64 j3, .int .i64 j4] 39)) d) os).cell? ⟨w.heap.size, 9, none⟩ = some (.int .i64 j3) := fun d os => Go.cell_regrown (HB.out.2.read (i := 9) rfl) d os
  have m10 : ∀ d os, (Go.Sort.grow (Go.redrawn (w.alloc (.cells #[.int .i64 e, .bool o0, .bool false, .bool o2, .bool o3, .bool o4, .int .i64 j0, .int .i64 j1, .int .i64 j2, .int .i64 j3, .int .i64 j4] 39)) d) os).cell? ⟨w.heap.size, 10, none⟩ = some (.int .i64 j4) := fun d os => Go.cell_regrown (HB.out.2.read (i := 10) rfl) d os
  go_enter Try.func5, Try.ntmps5
  go_wp2_with fail
  refine Go.wp_region_quiet_below (by kernel_rfl) (by kernel_rfl) ?_
  repeat (quiet_step (first | with_reducible exact CR.out _ _ | with_reducible exact CL.out _ _ | with_reducible exact CI.out _ _ | with_reducible exact CA.out _ _))
  refine wpQuiet_nil ?_
  intro _ hw'
  obtain ⟨⟨dq, osq⟩, hw''⟩ := hw'
  subst hw''
  have hbq := Go.below_regrown (w.alloc (.cells #[.int .i64 e, .bool o0, .bool false, .bool o2, .bool o3, .bool o4, .int .i64 j0, .int .i64 j1, .int .i64 j2, .int .i64 j3, .int .i64 j4] 39)) dq osq
  have HX9 := Lib.hid (HB.out.2.next hbq)
  have HB9 := Lib.hid (bnext HB.out.1 hbq)
  clear hbq m0 m1 m2 m3 m4 m5 m6 m7 m8 m9 m10 CR CL CI CA HM
  generalize Go.Sort.grow (Go.redrawn (w.alloc (.cells #[.int .i64 e, .bool o0, .bool false, .bool o2, .bool o3, .bool o4, .int .i64 j0, .int .i64 j1, .int .i64 j2, .int .i64 j3, .int .i64 j4] 39)) dq) osq = W9 at *
  obtain ⟨x0, x1, x2, x3, x4, x5, x6, x7, x8, x9, x10⟩ := HX9.out.reads11
  go_wp2_with fail
  refine (CEX.out _).mono ?_; rintro _ w2 ⟨rfl, hb2⟩
  clear x0 x1 x2 x3 x4 x5 x6 x7 x8 x9 x10
  have HX2 := Lib.hid (HX9.out.next hb2)
  have HB2 := Lib.hid (bnext HB9.out hb2)
  have hlt2 := HX2.out.inside
  have hlt2' : w.heap.size < w2.heap.size + 1 := Nat.lt_succ_of_lt hlt2
  have hl2 : ¬ (w.heap.size = w2.heap.size) := by have := HX2.out.inside; omega
  have hl3 : ¬ (w.heap.size = w2.heap.size + 1) := by have := HX2.out.inside; omega
  obtain ⟨x0, x1, x2, x3, x4, x5, x6, x7, x8, x9, x10⟩ := HX2.out.reads11
  clear hb2
  go_wp2_with fail
  refine (Calls.kept (S := fun W => Below w.heap.size w W ∧ Bx W w.heap.size 39 #[.int .i64 e, .bool o0, .bool false, .bool o2, .bool o3, .bool o4, .int .i64 j0, .int .i64 j1, .int .i64 j2, .int .i64 j3, .int .i64 j4] ∧ Bx W w2.heap.size 39 #[.int .i64 (e + 1), .bool o0, .bool true, .bool o2, .bool o3, .bool o4, .int .i64 j0, .int .i64 j1, .int .i64 j2, .int .i64 j3, .int .i64 j4] ∧ Bx W (w2.heap.size + 1) 39 #[.int .i64 (e + 1), .bool o0, .bool true, .bool o2, .bool o3, .bool o4, .int .i64 j0, .int .i64 j1, .int .i64 j2, .int .i64 j3, .int .i64 j4]) (CIN.out _) ⟨((HB2.out).alloc HB2.out.size _).alloc (by rw [World.size_alloc]; exact Nat.le_succ_of_le HB2.out.size) _, (HX2.out.past _).past _, (Bx.fresh w2 _ _).past _, Bx.fresh' (w2.alloc _) (by simp) _ _⟩ (fun w' hb hS => ⟨hS.1.trans (hb.mono hS.1.size), hS.2.1.next hb, hS.2.2.1.next hb, hS.2.2.2.next hb⟩)).mono ?_; rintro _ w3 ⟨rfl, hb3, hx3, hy3, hz3⟩
  clear x0 x1 x2 x3 x4 x5 x6 x7 x8 x9 x10
  have HB3 := Lib.hid hb3
  have i3 := hx3.inside
  have k3 := hy3.inside
  have l3 := hz3.inside
  have p1 : ¬ (w.heap.size = w3.heap.size) := by omega
  have p2 : ¬ (w.heap.size = w3.heap.size + 1) := by omega
  have p3 : ¬ (w2.heap.size = w3.heap.size) := by omega
  have p4 : ¬ (w2.heap.size = w3.heap.size + 1) := by omega
  have p5 : ¬ (w2.heap.size + 1 = w3.heap.size) := by omega
  obtain ⟨x0, x1, x2, x3, x4, x5, x6, x7, x8, x9, x10⟩ := hx3.reads11
  obtain ⟨y0, y1, y2, y3, y4, y5, y6, y7, y8, y9, y10⟩ := hy3.reads11
  obtain ⟨z0, z1, z2, z3, z4, z5, z6, z7, z8, z9, z10⟩ := hz3.reads11
  clear hx3 hy3 hz3 hb3 hlt2 hlt2'
  have i3' := Nat.lt_succ_of_lt i3
  have k3' := Nat.lt_succ_of_lt k3
  have l3' := Nat.lt_succ_of_lt l3
  have AL := Lib.hid alive21_any
  go_wp2_with fail
  refine (Calls.kept (S := fun W => Below w.heap.size w W) (AL.out _) (((HB3.out).alloc HB3.out.size _).alloc (by rw [World.size_alloc]; exact Nat.le_succ_of_le HB3.out.size) _) (fun w' hb hS => hS.trans (hb.mono hS.size))).mono ?_; rintro _ w4 ⟨rfl, hb4⟩
  have HB4 := Lib.hid hb4
  clear hb4 x0 x1 x2 x3 x4 x5 x6 x7 x8 x9 x10 y0 y1 y2 y3 y4 y5 y6 y7 y8 y9 y10 z0 z1 z2 z3 z4 z5 z6 z7 z8 z9 z10
  go_wp2_with fail
  go_ret
  exact ⟨rfl, HB4.out⟩
set_option maxRecDepth 100000 in
set_option maxHeartbeats 16000000 in
theorem turns_1of (e : Int) (o0 o2 o3 o4 : Bool) (j0 j1 j2 j3 j4 : Int) (h0 : -9223372036854775808 ≤ e) (hm : ¬ e < 1099511627776) (w : World) : Calls Try.prog 5 #[.agg #[.int .i64 e, .bool o0, .bool true, .bool o2, .bool o3, .bool o4, .int .i64 j0, .int .i64 j1, .int .i64 j2, .int .i64 j3, .int .i64 j4], .int .i64 1] w fun e w' => e = .returned (.bool true) ∧ Below w.heap.size w w' := by
  have hC : Cf.cells ⟨e, o0, true, o2, o3, o4, j0, j1, j2, j3, j4⟩ = #[.int .i64 e, .bool o0, .bool true, .bool o2, .bool o3, .bool o4, .int .i64 j0, .int .i64 j1, .int .i64 j2, .int .i64 j3, .int .i64 j4] := rfl
  have hi : Cf.is ⟨e, o0, true, o2, o3, o4, j0, j1, j2, j3, j4⟩ 1 = false := rfl
  have ha : Cf.always ⟨e, o0, true, o2, o3, o4, j0, j1, j2, j3, j4⟩ 1 = false := rfl
  have hth : thr 1 = true := by decide
  have hmo : Cf.more ⟨e, o0, true, o2, o3, o4, j0, j1, j2, j3, j4⟩ = false := by unfold Cf.more; rw [decide_eq_false_iff_not]; exact hm
  have hex : Cf.excl ⟨e, o0, true, o2, o3, o4, j0, j1, j2, j3, j4⟩ 1 = ⟨e, o0, true, o2, o3, o4, j0, j1, j2, j3, j4⟩ := by unfold Cf.excl; rw [hi, hmo]; rfl
  have hin : Cf.incl ⟨e, o0, true, o2, o3, o4, j0, j1, j2, j3, j4⟩ 1 = ⟨e, o0, true, o2, o3, o4, j0, j1, j2, j3, j4⟩ := by unfold Cf.incl; rw [hth, hi, hmo]; rfl
  have hok : (Cf.is ⟨e, o0, true, o2, o3, o4, j0, j1, j2, j3, j4⟩ 1 && Cf.more ⟨e, o0, true, o2, o3, o4, j0, j1, j2, j3, j4⟩) = false := by rw [hi, hmo]; rfl
  have hik : (thr 1 && !Cf.is ⟨e, o0, true, o2, o3, o4, j0, j1, j2, j3, j4⟩ 1 && Cf.more ⟨e, o0, true, o2, o3, o4, j0, j1, j2, j3, j4⟩) = false := by rw [hth, hi, hmo]; rfl
  have CEX : Hid (∀ W, Calls Try.prog 25 #[.agg #[.int .i64 e, .bool o0, .bool true, .bool o2, .bool o3, .bool o4, .int .i64 j0, .int .i64 j1, .int .i64 j2, .int .i64 j3, .int .i64 j4], .int .i64 1] W fun r w' => r = .returned (.tuple #[.agg #[.int .i64 e, .bool o0, .bool true, .bool o2, .bool o3, .bool o4, .int .i64 j0, .int .i64 j1, .int .i64 j2, .int .i64 j3, .int .i64 j4], .bool false]) ∧ Below W.heap.size W w') := Lib.hid (fun W => by have h := cf_excl ⟨e, o0, true, o2, o3, o4, j0, j1, j2, j3, j4⟩ 1 h0 W; rw [hex, hok] at h; exact h)
  have CIN : Hid (∀ W, Calls Try.prog 26 #[.agg #[.int .i64 e, .bool o0, .bool true, .bool o2, .bool o3, .bool o4, .int .i64 j0, .int .i64 j1, .int .i64 j2, .int .i64 j3, .int .i64 j4], .int .i64 1] W fun r w' => r = .returned (.tuple #[.agg #[.int .i64 e, .bool o0, .bool true, .bool o2, .bool o3, .bool o4, .int .i64 j0, .int .i64 j1, .int .i64 j2, .int .i64 j3, .int .i64 j4], .bool false]) ∧ Below W.heap.size W w') := Lib.hid (fun W => by have h := cf_incl ⟨e, o0, true, o2, o3, o4, j0, j1, j2, j3, j4⟩ 1 h0 W; rw [hin, hik] at h; exact h)
  have CR := Lib.hid (fun d os => Calls.regrown_of (d := d) (os := os) (cf_right ⟨e, o0, true, o2, o3, o4, j0, j1, j2, j3, j4⟩ (Go.Sort.grow (Go.redrawn (w.alloc (.cells #[.int .i64 e, .bool o0, .bool true, .bool o2, .bool o3, .bool o4, .int .i64 j0, .int .i64 j1, .int .i64 j2, .int .i64 j3, .int .i64 j4] 39)) d) os)))
  have CL := Lib.hid (fun d os => Calls.regrown_of (d := d) (os := os) (law_right ⟨e, o0, true, o2, o3, o4, j0, j1, j2, j3, j4⟩ (Go.Sort.grow (Go.redrawn (w.alloc (.cells #[.int .i64 e, .bool o0, .bool true, .bool o2, .bool o3, .bool o4, .int .i64 j0, .int .i64 j1, .int .i64 j2, .int .i64 j3, .int .i64 j4] 39)) d) os)))
  have CI := Lib.hid (fun d os => Calls.regrown_of (d := d) (os := os) (cf_is ⟨e, o0, true, o2, o3, o4, j0, j1, j2, j3, j4⟩ 1 (Go.Sort.grow (Go.redrawn (w.alloc (.cells #[.int .i64 e, .bool o0, .bool true, .bool o2, .bool o3, .bool o4, .int .i64 j0, .int .i64 j1, .int .i64 j2, .int .i64 j3, .int .i64 j4] 39)) d) os)))
  have CA := Lib.hid (fun d os => Calls.regrown_of (d := d) (os := os) (cf_always ⟨e, o0, true, o2, o3, o4, j0, j1, j2, j3, j4⟩ 1 (Go.Sort.grow (Go.redrawn (w.alloc (.cells #[.int .i64 e, .bool o0, .bool true, .bool o2, .bool o3, .bool o4, .int .i64 j0, .int .i64 j1, .int .i64 j2, .int .i64 j3, .int .i64 j4] 39)) d) os)))
  rw [hi] at CI
  rw [ha] at CA
  rw [hC] at CR CL CI CA
  have ex1 : ∀ W, (binOp .eql 39 (.agg #[.int .i64 e, .bool o0, .bool true, .bool o2, .bool o3, .bool o4, .int .i64 j0, .int .i64 j1, .int .i64 j2, .int .i64 j3, .int .i64 j4]) (.agg #[.int .i64 e, .bool o0, .bool true, .bool o2, .bool o3, .bool o4, .int .i64 j0, .int .i64 j1, .int .i64 j2, .int .i64 j3, .int .i64 j4])).run Try.prog W = .ok (.bool true) W := fun W => by have h := run_eqlCf ⟨e, o0, true, o2, o3, o4, j0, j1, j2, j3, j4⟩ ⟨e, o0, true, o2, o3, o4, j0, j1, j2, j3, j4⟩ W; rw [show (Cf.eq ⟨e, o0, true, o2, o3, o4, j0, j1, j2, j3, j4⟩ ⟨e, o0, true, o2, o3, o4, j0, j1, j2, j3, j4⟩) = true from Cf.eq_refl _] at h; exact h
  have ex1n : ∀ W, (binOp .neq 39 (.agg #[.int .i64 e, .bool o0, .bool true, .bool o2, .bool o3, .bool o4, .int .i64 j0, .int .i64 j1, .int .i64 j2, .int .i64 j3, .int .i64 j4]) (.agg #[.int .i64 e, .bool o0, .bool true, .bool o2, .bool o3, .bool o4, .int .i64 j0, .int .i64 j1, .int .i64 j2, .int .i64 j3, .int .i64 j4])).run Try.prog W = .ok (.bool false) W := fun W => by have h := run_neqCf ⟨e, o0, true, o2, o3, o4, j0, j1, j2, j3, j4⟩ ⟨e, o0, true, o2, o3, o4, j0, j1, j2, j3, j4⟩ W; rw [show (!Cf.eq ⟨e, o0, true, o2, o3, o4, j0, j1, j2, j3, j4⟩ ⟨e, o0, true, o2, o3, o4, j0, j1, j2, j3, j4⟩) = false from by rw [Cf.eq_refl]; rfl] at h; exact h
  have hgd := fun (op : BinOp) (x y : Operand) (xs ys : Array Value) (W : World) => run_cfGuard op x y xs ys W
  have hd : decide (e < 1099511627776) = false := by simp [hm]
  generalize Cf.right ⟨e, o0, true, o2, o3, o4, j0, j1, j2, j3, j4⟩ = r at CR CL
  have hr : (r != r) = false := by simp
  clear hC
  clear hi
  clear ha
  clear hth
  clear hex
  clear hin
  clear hok
  clear hik
  clear hmo
  have HB := Lib.hid (And.intro ((Below.refl w.heap.size w).alloc (Nat.le_refl _) (.cells #[.int .i64 e, .bool o0, .bool true, .bool o2, .bool o3, .bool o4, .int .i64 j0, .int .i64 j1, .int .i64 j2, .int .i64 j3, .int .i64 j4] 39)) (Bx.fresh w 39 #[.int .i64 e, .bool o0, .bool true, .bool o2, .bool o3, .bool o4, .int .i64 j0, .int .i64 j1, .int .i64 j2, .int .i64 j3, .int .i64 j4]))
  have HM := Lib.hid (fun d os i v (h : (w.alloc (.cells #[.int .i64 e, .bool o0, .bool true, .bool o2, .bool o3, .bool o4, .int .i64 j0, .int .i64 j1, .int .i64 j2, .int .i64 j3, .int .i64 j4] 39)).cell? ⟨w.heap.size, i, none⟩ = some v) => Go.cell_regrown h d os)
  have m0 : ∀ d os, (Go.Sort.grow (Go.redrawn (w.alloc (.cells #[.int .i64 e, .bool o0, .bool true, .bool o2, .bool o3, .bool o4, .int .i64 j0, .int .i64 j1, .int .i64 j2, .int .i64 j3, .int .i64 j4] 39)) d) os).cell? ⟨w.heap.size, 0, none⟩ = some (.int .i64 e) := fun d os => Go.cell_regrown (HB.out.2.read (i := 0) rfl) d os
  have m1 : ∀ d os, (Go.Sort.grow (Go.redrawn (w.alloc (.cells #[.int .i64 e, .bool o0, .bool true, .bool o2, .bool o3, .bool o4, .int .i64 j0, .int .i64 j1, .int .i64 j2, .int .i64 j3, .int .i64 j4] 39)) d) os).cell? ⟨w.heap.size, 1, none⟩ = some (.bool o0) := fun d os => Go.cell_regrown (HB.out.2.read (i := 1) rfl) d os
  have m2 : ∀ d os, (Go.Sort.grow (Go.redrawn (w.alloc (.cells #[.int .i64 e, .bool o0, .bool true, .bool o2, .bool o3, .bool o4, .int .i64 j0, .int .i64 j1, .int .i64 j2, .int .i64 j3, .int .i64 j4] 39)) d) os).cell? ⟨w.heap.size, 2, none⟩ = some (.bool true) := fun d os => Go.cell_regrown (HB.out.2.read (i := 2) rfl) d os
  have m3 : ∀ d os, (Go.Sort.grow (Go.redrawn (w.alloc (.cells #[.int .i64 e, .bool o0, .bool true, .bool o2, .bool o3, .bool o4, .int .i64 j0, .int .i64 j1, .int .i64 j2, .int .i64 j3, .int .i64 j4] 39)) d) os).cell? ⟨w.heap.size, 3, none⟩ = some (.bool o2) := fun d os => Go.cell_regrown (HB.out.2.read (i := 3) rfl) d os
  have m4 : ∀ d os, (Go.Sort.grow (Go.redrawn (w.alloc (.cells #[.int .i64 e, .bool o0, .bool true, .bool o2, .bool o3, .bool o4, .int .i64 j0, .int .i64 j1, .int .i64 j2, .int .i64 j3, .int .i64 j4] 39)) d) os).cell? ⟨w.heap.size, 4, none⟩ = some (.bool o3) := fun d os => Go.cell_regrown (HB.out.2.read (i := 4) rfl) d os
  have m5 : ∀ d os, (Go.Sort.grow (Go.redrawn (w.alloc (.cells #[.int .i64 e, .bool o0, .bool true, .bool o2, .bool o3, .bool o4, .int .i64 j0, .int .i64 j1, .int .i64 j2, .int .i64 j3, .int .i64 j4] 39)) d) os).cell? ⟨w.heap.size, 5, none⟩ = some (.bool o4) := fun d os => Go.cell_regrown (HB.out.2.read (i := 5) rfl) d os
  have m6 : ∀ d os, (Go.Sort.grow (Go.redrawn (w.alloc (.cells #[.int .i64 e, .bool o0, .bool true, .bool o2, .bool o3, .bool o4, .int .i64 j0, .int .i64 j1, .int .i64 j2, .int .i64 j3, .int .i64 j4] 39)) d) os).cell? ⟨w.heap.size, 6, none⟩ = some (.int .i64 j0) := fun d os => Go.cell_regrown (HB.out.2.read (i := 6) rfl) d os
  have m7 : ∀ d os, (Go.Sort.grow (Go.redrawn (w.alloc (.cells #[.int .i64 e, .bool o0, .bool true, .bool o2, .bool o3, .bool o4, .int .i64 j0, .int .i64 j1, .int .i64 j2, .int .i64 j3, .int .i64 j4] 39)) d) os).cell? ⟨w.heap.size, 7, none⟩ = some (.int .i64 j1) := fun d os => Go.cell_regrown (HB.out.2.read (i := 7) rfl) d os
  have m8 : ∀ d os, (Go.Sort.grow (Go.redrawn (w.alloc (.cells #[.int .i64 e, .bool o0, .bool true, .bool o2, .bool o3, .bool o4, .int .i64 j0, .int .i64 j1, .int .i64 j2, .int .i64 j3, .int .i64 j4] 39)) d) os).cell? ⟨w.heap.size, 8, none⟩ = some (.int .i64 j2) := fun d os => Go.cell_regrown (HB.out.2.read (i := 8) rfl) d os
  have m9 : ∀ d os, (Go.Sort.grow (Go.redrawn (w.alloc (.cells #[.int .i64 e, .bool o0, .bool true, .bool o2, .bool o3, .bool o4, .int .i64 j0, .int .i64 j1, .int .i64 j2, .int .i64 j3, .int .i64 j4] 39)) d) os).cell? ⟨w.heap.size, 9, none⟩ = some (.int .i64 j3) := fun d os => Go.cell_regrown (HB.out.2.read (i := 9) rfl) d os
  have m10 : ∀ d os, (Go.Sort.grow (Go.redrawn (w.alloc (.cells #[.int .i64 e, .bool o0, .bool true, .bool o2, .bool o3, .bool o4, .int .i64 j0, .int .i64 j1, .int .i64 j2, .int .i64 j3, .int .i64 j4] 39)) d) os).cell? ⟨w.heap.size, 10, none⟩ = some (.int .i64 j4) := fun d os => Go.cell_regrown (HB.out.2.read (i := 10) rfl) d os
  go_enter Try.func5, Try.ntmps5
  go_wp2_with fail
  refine Go.wp_region_quiet_below (by kernel_rfl) (by kernel_rfl) ?_
  repeat (quiet_step (first | with_reducible exact CR.out _ _ | with_reducible exact CL.out _ _ | with_reducible exact CI.out _ _ | with_reducible exact CA.out _ _))
  refine wpQuiet_nil ?_
  intro _ hw'
  obtain ⟨⟨dq, osq⟩, hw''⟩ := hw'
  subst hw''
  have hbq := Go.below_regrown (w.alloc (.cells #[.int .i64 e, .bool o0, .bool true, .bool o2, .bool o3, .bool o4, .int .i64 j0, .int .i64 j1, .int .i64 j2, .int .i64 j3, .int .i64 j4] 39)) dq osq
  have HX9 := Lib.hid (HB.out.2.next hbq)
  have HB9 := Lib.hid (bnext HB.out.1 hbq)
  clear hbq m0 m1 m2 m3 m4 m5 m6 m7 m8 m9 m10 CR CL CI CA HM
  generalize Go.Sort.grow (Go.redrawn (w.alloc (.cells #[.int .i64 e, .bool o0, .bool true, .bool o2, .bool o3, .bool o4, .int .i64 j0, .int .i64 j1, .int .i64 j2, .int .i64 j3, .int .i64 j4] 39)) dq) osq = W9 at *
  obtain ⟨x0, x1, x2, x3, x4, x5, x6, x7, x8, x9, x10⟩ := HX9.out.reads11
  go_wp2_with fail
  refine (CEX.out _).mono ?_; rintro _ w2 ⟨rfl, hb2⟩
  clear x0 x1 x2 x3 x4 x5 x6 x7 x8 x9 x10
  have HX2 := Lib.hid (HX9.out.next hb2)
  have HB2 := Lib.hid (bnext HB9.out hb2)
  have hlt2 := HX2.out.inside
  have hlt2' : w.heap.size < w2.heap.size + 1 := Nat.lt_succ_of_lt hlt2
  have hl2 : ¬ (w.heap.size = w2.heap.size) := by have := HX2.out.inside; omega
  have hl3 : ¬ (w.heap.size = w2.heap.size + 1) := by have := HX2.out.inside; omega
  obtain ⟨x0, x1, x2, x3, x4, x5, x6, x7, x8, x9, x10⟩ := HX2.out.reads11
  clear hb2
  go_wp2_with fail
  refine (Calls.kept (S := fun W => Below w.heap.size w W ∧ Bx W w.heap.size 39 #[.int .i64 e, .bool o0, .bool true, .bool o2, .bool o3, .bool o4, .int .i64 j0, .int .i64 j1, .int .i64 j2, .int .i64 j3, .int .i64 j4] ∧ Bx W w2.heap.size 39 #[.int .i64 e, .bool o0, .bool true, .bool o2, .bool o3, .bool o4, .int .i64 j0, .int .i64 j1, .int .i64 j2, .int .i64 j3, .int .i64 j4] ∧ Bx W (w2.heap.size + 1) 39 #[.int .i64 e, .bool o0, .bool true, .bool o2, .bool o3, .bool o4, .int .i64 j0, .int .i64 j1, .int .i64 j2, .int .i64 j3, .int .i64 j4]) (CIN.out _) ⟨((HB2.out).alloc HB2.out.size _).alloc (by rw [World.size_alloc]; exact Nat.le_succ_of_le HB2.out.size) _, (HX2.out.past _).past _, (Bx.fresh w2 _ _).past _, Bx.fresh' (w2.alloc _) (by simp) _ _⟩ (fun w' hb hS => ⟨hS.1.trans (hb.mono hS.1.size), hS.2.1.next hb, hS.2.2.1.next hb, hS.2.2.2.next hb⟩)).mono ?_; rintro _ w3 ⟨rfl, hb3, hx3, hy3, hz3⟩
  clear x0 x1 x2 x3 x4 x5 x6 x7 x8 x9 x10
  have HB3 := Lib.hid hb3
  have i3 := hx3.inside
  have k3 := hy3.inside
  have l3 := hz3.inside
  have p1 : ¬ (w.heap.size = w3.heap.size) := by omega
  have p2 : ¬ (w.heap.size = w3.heap.size + 1) := by omega
  have p3 : ¬ (w2.heap.size = w3.heap.size) := by omega
  have p4 : ¬ (w2.heap.size = w3.heap.size + 1) := by omega
  have p5 : ¬ (w2.heap.size + 1 = w3.heap.size) := by omega
  obtain ⟨x0, x1, x2, x3, x4, x5, x6, x7, x8, x9, x10⟩ := hx3.reads11
  obtain ⟨y0, y1, y2, y3, y4, y5, y6, y7, y8, y9, y10⟩ := hy3.reads11
  obtain ⟨z0, z1, z2, z3, z4, z5, z6, z7, z8, z9, z10⟩ := hz3.reads11
  clear hx3 hy3 hz3 hb3 hlt2 hlt2'
  have i3' := Nat.lt_succ_of_lt i3
  have k3' := Nat.lt_succ_of_lt k3
  have l3' := Nat.lt_succ_of_lt l3
  have AL := Lib.hid alive21_any
  go_wp2_with fail
  refine (Calls.kept (S := fun W => Below w.heap.size w W) (AL.out _) (((HB3.out).alloc HB3.out.size _).alloc (by rw [World.size_alloc]; exact Nat.le_succ_of_le HB3.out.size) _) (fun w' hb hS => hS.trans (hb.mono hS.size))).mono ?_; rintro _ w4 ⟨rfl, hb4⟩
  have HB4 := Lib.hid hb4
  clear hb4 x0 x1 x2 x3 x4 x5 x6 x7 x8 x9 x10 y0 y1 y2 y3 y4 y5 y6 y7 y8 y9 y10 z0 z1 z2 z3 z4 z5 z6 z7 z8 z9 z10
  go_wp2_with fail
  go_ret
  exact ⟨rfl, HB4.out⟩
set_option maxRecDepth 100000 in
set_option maxHeartbeats 16000000 in
theorem turns_1om (e : Int) (o0 o2 o3 o4 : Bool) (j0 j1 j2 j3 j4 : Int) (h0 : -9223372036854775808 ≤ e) (hm : e < 1099511627776) (w : World) : Calls Try.prog 5 #[.agg #[.int .i64 e, .bool o0, .bool true, .bool o2, .bool o3, .bool o4, .int .i64 j0, .int .i64 j1, .int .i64 j2, .int .i64 j3, .int .i64 j4], .int .i64 1] w fun e w' => e = .returned (.bool true) ∧ Below w.heap.size w w' := by
  have hC : Cf.cells ⟨e, o0, true, o2, o3, o4, j0, j1, j2, j3, j4⟩ = #[.int .i64 e, .bool o0, .bool true, .bool o2, .bool o3, .bool o4, .int .i64 j0, .int .i64 j1, .int .i64 j2, .int .i64 j3, .int .i64 j4] := rfl
  have hi : Cf.is ⟨e, o0, true, o2, o3, o4, j0, j1, j2, j3, j4⟩ 1 = false := rfl
  have ha : Cf.always ⟨e, o0, true, o2, o3, o4, j0, j1, j2, j3, j4⟩ 1 = false := rfl
  have hth : thr 1 = true := by decide
  have hmo : Cf.more ⟨e, o0, true, o2, o3, o4, j0, j1, j2, j3, j4⟩ = true := by unfold Cf.more; rw [decide_eq_true_eq]; exact hm
  have hex : Cf.excl ⟨e, o0, true, o2, o3, o4, j0, j1, j2, j3, j4⟩ 1 = ⟨e, o0, true, o2, o3, o4, j0, j1, j2, j3, j4⟩ := by unfold Cf.excl; rw [hi, hmo]; rfl
  have hin : Cf.incl ⟨e, o0, true, o2, o3, o4, j0, j1, j2, j3, j4⟩ 1 = ⟨e + 1, o0, false, o2, o3, o4, j0, e + 1, j2, j3, j4⟩ := by unfold Cf.incl; rw [hth, hi, hmo]; rfl
  have hok : (Cf.is ⟨e, o0, true, o2, o3, o4, j0, j1, j2, j3, j4⟩ 1 && Cf.more ⟨e, o0, true, o2, o3, o4, j0, j1, j2, j3, j4⟩) = false := by rw [hi, hmo]; rfl
  have hik : (thr 1 && !Cf.is ⟨e, o0, true, o2, o3, o4, j0, j1, j2, j3, j4⟩ 1 && Cf.more ⟨e, o0, true, o2, o3, o4, j0, j1, j2, j3, j4⟩) = true := by rw [hth, hi, hmo]; rfl
  have CEX : Hid (∀ W, Calls Try.prog 25 #[.agg #[.int .i64 e, .bool o0, .bool true, .bool o2, .bool o3, .bool o4, .int .i64 j0, .int .i64 j1, .int .i64 j2, .int .i64 j3, .int .i64 j4], .int .i64 1] W fun r w' => r = .returned (.tuple #[.agg #[.int .i64 e, .bool o0, .bool true, .bool o2, .bool o3, .bool o4, .int .i64 j0, .int .i64 j1, .int .i64 j2, .int .i64 j3, .int .i64 j4], .bool false]) ∧ Below W.heap.size W w') := Lib.hid (fun W => by have h := cf_excl ⟨e, o0, true, o2, o3, o4, j0, j1, j2, j3, j4⟩ 1 h0 W; rw [hex, hok] at h; exact h)
  have CIN : Hid (∀ W, Calls Try.prog 26 #[.agg #[.int .i64 e, .bool o0, .bool true, .bool o2, .bool o3, .bool o4, .int .i64 j0, .int .i64 j1, .int .i64 j2, .int .i64 j3, .int .i64 j4], .int .i64 1] W fun r w' => r = .returned (.tuple #[.agg #[.int .i64 (e + 1), .bool o0, .bool false, .bool o2, .bool o3, .bool o4, .int .i64 j0, .int .i64 (e + 1), .int .i64 j2, .int .i64 j3, .int .i64 j4], .bool true]) ∧ Below W.heap.size W w') := Lib.hid (fun W => by have h := cf_incl ⟨e, o0, true, o2, o3, o4, j0, j1, j2, j3, j4⟩ 1 h0 W; rw [hin, hik] at h; exact h)
  have CR := Lib.hid (fun d os => Calls.regrown_of (d := d) (os := os) (cf_right ⟨e, o0, true, o2, o3, o4, j0, j1, j2, j3, j4⟩ (Go.Sort.grow (Go.redrawn (w.alloc (.cells #[.int .i64 e, .bool o0, .bool true, .bool o2, .bool o3, .bool o4, .int .i64 j0, .int .i64 j1, .int .i64 j2, .int .i64 j3, .int .i64 j4] 39)) d) os)))
  have CL := Lib.hid (fun d os => Calls.regrown_of (d := d) (os := os) (law_right ⟨e, o0, true, o2, o3, o4, j0, j1, j2, j3, j4⟩ (Go.Sort.grow (Go.redrawn (w.alloc (.cells #[.int .i64 e, .bool o0, .bool true, .bool o2, .bool o3, .bool o4, .int .i64 j0, .int .i64 j1, .int .i64 j2, .int .i64 j3, .int .i64 j4] 39)) d) os)))
  have CI := Lib.hid (fun d os => Calls.regrown_of (d := d) (os := os) (cf_is ⟨e, o0, true, o2, o3, o4, j0, j1, j2, j3, j4⟩ 1 (Go.Sort.grow (Go.redrawn (w.alloc (.cells #[.int .i64 e, .bool o0, .bool true, .bool o2, .bool o3, .bool o4, .int .i64 j0, .int .i64 j1, .int .i64 j2, .int .i64 j3, .int .i64 j4] 39)) d) os)))
  have CA := Lib.hid (fun d os => Calls.regrown_of (d := d) (os := os) (cf_always ⟨e, o0, true, o2, o3, o4, j0, j1, j2, j3, j4⟩ 1 (Go.Sort.grow (Go.redrawn (w.alloc (.cells #[.int .i64 e, .bool o0, .bool true, .bool o2, .bool o3, .bool o4, .int .i64 j0, .int .i64 j1, .int .i64 j2, .int .i64 j3, .int .i64 j4] 39)) d) os)))
  rw [hi] at CI
  rw [ha] at CA
  rw [hC] at CR CL CI CA
  have ex1 : ∀ W, (binOp .eql 39 (.agg #[.int .i64 e, .bool o0, .bool true, .bool o2, .bool o3, .bool o4, .int .i64 j0, .int .i64 j1, .int .i64 j2, .int .i64 j3, .int .i64 j4]) (.agg #[.int .i64 e, .bool o0, .bool true, .bool o2, .bool o3, .bool o4, .int .i64 j0, .int .i64 j1, .int .i64 j2, .int .i64 j3, .int .i64 j4])).run Try.prog W = .ok (.bool true) W := fun W => by have h := run_eqlCf ⟨e, o0, true, o2, o3, o4, j0, j1, j2, j3, j4⟩ ⟨e, o0, true, o2, o3, o4, j0, j1, j2, j3, j4⟩ W; rw [show (Cf.eq ⟨e, o0, true, o2, o3, o4, j0, j1, j2, j3, j4⟩ ⟨e, o0, true, o2, o3, o4, j0, j1, j2, j3, j4⟩) = true from Cf.eq_refl _] at h; exact h
  have ex1n : ∀ W, (binOp .neq 39 (.agg #[.int .i64 e, .bool o0, .bool true, .bool o2, .bool o3, .bool o4, .int .i64 j0, .int .i64 j1, .int .i64 j2, .int .i64 j3, .int .i64 j4]) (.agg #[.int .i64 e, .bool o0, .bool true, .bool o2, .bool o3, .bool o4, .int .i64 j0, .int .i64 j1, .int .i64 j2, .int .i64 j3, .int .i64 j4])).run Try.prog W = .ok (.bool false) W := fun W => by have h := run_neqCf ⟨e, o0, true, o2, o3, o4, j0, j1, j2, j3, j4⟩ ⟨e, o0, true, o2, o3, o4, j0, j1, j2, j3, j4⟩ W; rw [show (!Cf.eq ⟨e, o0, true, o2, o3, o4, j0, j1, j2, j3, j4⟩ ⟨e, o0, true, o2, o3, o4, j0, j1, j2, j3, j4⟩) = false from by rw [Cf.eq_refl]; rfl] at h; exact h
  have ex2 : ∀ W, (binOp .eql 39 (.agg #[.int .i64 (e + 1), .bool o0, .bool false, .bool o2, .bool o3, .bool o4, .int .i64 j0, .int .i64 (e + 1), .int .i64 j2, .int .i64 j3, .int .i64 j4]) (.agg #[.int .i64 (e + 1), .bool o0, .bool false, .bool o2, .bool o3, .bool o4, .int .i64 j0, .int .i64 (e + 1), .int .i64 j2, .int .i64 j3, .int .i64 j4])).run Try.prog W = .ok (.bool true) W := fun W => by have h := run_eqlCf ⟨e + 1, o0, false, o2, o3, o4, j0, e + 1, j2, j3, j4⟩ ⟨e + 1, o0, false, o2, o3, o4, j0, e + 1, j2, j3, j4⟩ W; rw [show (Cf.eq ⟨e + 1, o0, false, o2, o3, o4, j0, e + 1, j2, j3, j4⟩ ⟨e + 1, o0, false, o2, o3, o4, j0, e + 1, j2, j3, j4⟩) = true from Cf.eq_refl _] at h; exact h
  have ex2n : ∀ W, (binOp .neq 39 (.agg #[.int .i64 (e + 1), .bool o0, .bool false, .bool o2, .bool o3, .bool o4, .int .i64 j0, .int .i64 (e + 1), .int .i64 j2, .int .i64 j3, .int .i64 j4]) (.agg #[.int .i64 e, .bool o0, .bool true, .bool o2, .bool o3, .bool o4, .int .i64 j0, .int .i64 j1, .int .i64 j2, .int .i64 j3, .int .i64 j4])).run Try.prog W = .ok (.bool true) W := fun W => by have h := run_neqCf ⟨e + 1, o0, false, o2, o3, o4, j0, e + 1, j2, j3, j4⟩ ⟨e, o0, true, o2, o3, o4, j0, j1, j2, j3, j4⟩ W; rw [show (!Cf.eq ⟨e + 1, o0, false, o2, o3, o4, j0, e + 1, j2, j3, j4⟩ ⟨e, o0, true, o2, o3, o4, j0, j1, j2, j3, j4⟩) = true from by rw [Cf.eq_e (by show e + 1 ≠ e; omega)]; rfl] at h; exact h
  have hgd := fun (op : BinOp) (x y : Operand) (xs ys : Array Value) (W : World) => run_cfGuard op x y xs ys W
  have hw := wrap_up h0 hm
  have hd : decide (e < 1099511627776) = true := by simp [hm]
  generalize Cf.right ⟨e, o0, true, o2, o3, o4, j0, j1, j2, j3, j4⟩ = r at CR CL
  have hr : (r != r) = false := by simp
  clear hC
  clear hi
  clear ha
  clear hth
  clear hex
  clear hin
  clear hok
  clear hik
  clear hmo
  have HB := Lib.hid (And.intro ((Below.refl w.heap.size w).alloc (Nat.le_refl _) (.cells #[.int .i64 e, .bool o0, .bool true, .bool o2, .bool o3, .bool o4, .int .i64 j0, .int .i64 j1, .int .i64 j2, .int .i64 j3, .int .i64 j4] 39)) (Bx.fresh w 39 #[.int .i64 e, .bool o0, .bool true, .bool o2, .bool o3, .bool o4, .int .i64 j0, .int .i64 j1, .int .i64 j2, .int .i64 j3, .int .i64 j4]))
  have HM := Lib.hid (fun d os i v (h : (w.alloc (.cells #[.int .i64 e, .bool o0, .bool true, .bool o2, .bool o3, .bool o4, .int .i64 j0, .int .i64 j1, .int .i64 j2, .int .i64 j3, .int .i64 j4] 39)).cell? ⟨w.heap.size, i, none⟩ = some v) => Go.cell_regrown h d os)
  have m0 : ∀ d os, (Go.Sort.grow (Go.redrawn (w.alloc (.cells #[.int .i64 e, .bool o0, .bool true, .bool o2, .bool o3, .bool o4, .int .i64 j0, .int .i64 j1, .int .i64 j2, .int .i64 j3, .int .i64 j4] 39)) d) os).cell? ⟨w.heap.size, 0, none⟩ = some (.int .i64 e) := fun d os => Go.cell_regrown (HB.out.2.read (i := 0) rfl) d os
  have m1 : ∀ d os, (Go.Sort.grow (Go.redrawn (w.alloc (.cells #[.int .i64 e, .bool o0, .bool true, .bool o2, .bool o3, .bool o4, .int .i64 j0, .int .i64 j1, .int .i64 j2, .int .i64 j3, .int .i64 j4] 39)) d) os).cell? ⟨w.heap.size, 1, none⟩ = some (.bool o0) := fun d os => Go.cell_regrown (HB.out.2.read (i := 1) rfl) d os
  have m2 : ∀ d os, (Go.Sort.grow (Go.redrawn (w.alloc (.cells #[.int .i64 e, .bool o0, .bool true, .bool o2, .bool o3, .bool o4, .int .i64 j0, .int .i64 j1, .int .i64 j2, .int .i64 j3, .int .i64 j4] 39)) d) os).cell? ⟨w.heap.size, 2, none⟩ = some (.bool true) := fun d os => Go.cell_regrown (HB.out.2.read (i := 2) rfl) d os
  have m3 : ∀ d os, (Go.Sort.grow (Go.redrawn (w.alloc (.cells #[.int .i64 e, .bool o0, .bool true, .bool o2, .bool o3, .bool o4, .int .i64 j0, .int .i64 j1, .int .i64 j2, .int .i64 j3, .int .i64 j4] 39)) d) os).cell? ⟨w.heap.size, 3, none⟩ = some (.bool o2) := fun d os => Go.cell_regrown (HB.out.2.read (i := 3) rfl) d os
  have m4 : ∀ d os, (Go.Sort.grow (Go.redrawn (w.alloc (.cells #[.int .i64 e, .bool o0, .bool true, .bool o2, .bool o3, .bool o4, .int .i64 j0, .int .i64 j1, .int .i64 j2, .int .i64 j3, .int .i64 j4] 39)) d) os).cell? ⟨w.heap.size, 4, none⟩ = some (.bool o3) := fun d os => Go.cell_regrown (HB.out.2.read (i := 4) rfl) d os
  have m5 : ∀ d os, (Go.Sort.grow (Go.redrawn (w.alloc (.cells #[.int .i64 e, .bool o0, .bool true, .bool o2, .bool o3, .bool o4, .int .i64 j0, .int .i64 j1, .int .i64 j2, .int .i64 j3, .int .i64 j4] 39)) d) os).cell? ⟨w.heap.size, 5, none⟩ = some (.bool o4) := fun d os => Go.cell_regrown (HB.out.2.read (i := 5) rfl) d os
  have m6 : ∀ d os, (Go.Sort.grow (Go.redrawn (w.alloc (.cells #[.int .i64 e, .bool o0, .bool true, .bool o2, .bool o3, .bool o4, .int .i64 j0, .int .i64 j1, .int .i64 j2, .int .i64 j3, .int .i64 j4] 39)) d) os).cell? ⟨w.heap.size, 6, none⟩ = some (.int .i64 j0) := fun d os => Go.cell_regrown (HB.out.2.read (i := 6) rfl) d os
  have m7 : ∀ d os, (Go.Sort.grow (Go.redrawn (w.alloc (.cells #[.int .i64 e, .bool o0, .bool true, .bool o2, .bool o3, .bool o4, .int .i64 j0, .int .i64 j1, .int .i64 j2, .int .i64 j3, .int .i64 j4] 39)) d) os).cell? ⟨w.heap.size, 7, none⟩ = some (.int .i64 j1) := fun d os => Go.cell_regrown (HB.out.2.read (i := 7) rfl) d os
  have m8 : ∀ d os, (Go.Sort.grow (Go.redrawn (w.alloc (.cells #[.int .i64 e, .bool o0, .bool true, .bool o2, .bool o3, .bool o4, .int .i64 j0, .int .i64 j1, .int .i64 j2, .int .i64 j3, .int .i64 j4] 39)) d) os).cell? ⟨w.heap.size, 8, none⟩ = some (.int .i64 j2) := fun d os => Go.cell_regrown (HB.out.2.read (i := 8) rfl) d os
  have m9 : ∀ d os, (Go.Sort.grow (Go.redrawn (w.alloc (.cells #[.int .i64 e, .bool o0, .bool true, .bool o2, .bool o3, .bool o4, .int .i64 j0, .int .i64 j1, .int .i64 j2, .int .i64 j3, .int .i64 j4] 39)) d) os).cell? ⟨w.heap.size, 9, none⟩ = some (.int .i64 j3) := fun d os => Go.cell_regrown (HB.out.2.read (i := 9) rfl) d os
  have m10 : ∀ d os, (Go.Sort.grow (Go.redrawn (w.alloc (.cells #[.int .i64 e, .bool o0, .bool true, .bool o2, .bool o3, .bool o4, .int .i64 j0, .int .i64 j1, .int .i64 j2, .int .i64 j3, .int .i64 j4] 39)) d) os).cell? ⟨w.heap.size, 10, none⟩ = some (.int .i64 j4) := fun d os => Go.cell_regrown (HB.out.2.read (i := 10) rfl) d os
  go_enter Try.func5, Try.ntmps5
  go_wp2_with fail
  refine Go.wp_region_quiet_below (by kernel_rfl) (by kernel_rfl) ?_
  repeat (quiet_step (first | with_reducible exact CR.out _ _ | with_reducible exact CL.out _ _ | with_reducible exact CI.out _ _ | with_reducible exact CA.out _ _))
  refine wpQuiet_nil ?_
  intro _ hw'
  obtain ⟨⟨dq, osq⟩, hw''⟩ := hw'
  subst hw''
  have hbq := Go.below_regrown (w.alloc (.cells #[.int .i64 e, .bool o0, .bool true, .bool o2, .bool o3, .bool o4, .int .i64 j0, .int .i64 j1, .int .i64 j2, .int .i64 j3, .int .i64 j4] 39)) dq osq
  have HX9 := Lib.hid (HB.out.2.next hbq)
  have HB9 := Lib.hid (bnext HB.out.1 hbq)
  clear hbq m0 m1 m2 m3 m4 m5 m6 m7 m8 m9 m10 CR CL CI CA HM
  generalize Go.Sort.grow (Go.redrawn (w.alloc (.cells #[.int .i64 e, .bool o0, .bool true, .bool o2, .bool o3, .bool o4, .int .i64 j0, .int .i64 j1, .int .i64 j2, .int .i64 j3, .int .i64 j4] 39)) dq) osq = W9 at *
  obtain ⟨x0, x1, x2, x3, x4, x5, x6, x7, x8, x9, x10⟩ := HX9.out.reads11
  go_wp2_with fail
  refine (CEX.out _).mono ?_; rintro _ w2 ⟨rfl, hb2⟩
  clear x0 x1 x2 x3 x4 x5 x6 x7 x8 x9 x10
  have HX2 := Lib.hid (HX9.out.next hb2)
  have HB2 := Lib.hid (bnext HB9.out hb2)
  have hlt2 := HX2.out.inside
  have hlt2' : w.heap.size < w2.heap.size + 1 := Nat.lt_succ_of_lt hlt2
  have hl2 : ¬ (w.heap.size = w2.heap.size) := by have := HX2.out.inside; omega
  have hl3 : ¬ (w.heap.size = w2.heap.size + 1) := by have := HX2.out.inside; omega
  obtain ⟨x0, x1, x2, x3, x4, x5, x6, x7, x8, x9, x10⟩ := HX2.out.reads11
  clear hb2
  go_wp2_with fail
  refine (Calls.kept (S := fun W => Below w.heap.size w W ∧ Bx W w.heap.size 39 #[.int .i64 e, .bool o0, .bool true, .bool o2, .bool o3, .bool o4, .int .i64 j0, .int .i64 j1, .int .i64 j2, .int .i64 j3, .int .i64 j4] ∧ Bx W w2.heap.size 39 #[.int .i64 e, .bool o0, .bool true, .bool o2, .bool o3, .bool o4, .int .i64 j0, .int .i64 j1, .int .i64 j2, .int .i64 j3, .int .i64 j4] ∧ Bx W (w2.heap.size + 1) 39 #[.int .i64 e, .bool o0, .bool true, .bool o2, .bool o3, .bool o4, .int .i64 j0, .int .i64 j1, .int .i64 j2, .int .i64 j3, .int .i64 j4]) (CIN.out _) ⟨((HB2.out).alloc HB2.out.size _).alloc (by rw [World.size_alloc]; exact Nat.le_succ_of_le HB2.out.size) _, (HX2.out.past _).past _, (Bx.fresh w2 _ _).past _, Bx.fresh' (w2.alloc _) (by simp) _ _⟩ (fun w' hb hS => ⟨hS.1.trans (hb.mono hS.1.size), hS.2.1.next hb, hS.2.2.1.next hb, hS.2.2.2.next hb⟩)).mono ?_; rintro _ w3 ⟨rfl, hb3, hx3, hy3, hz3⟩
  clear x0 x1 x2 x3 x4 x5 x6 x7 x8 x9 x10
  have HB3 := Lib.hid hb3
  have i3 := hx3.inside
  have k3 := hy3.inside
  have l3 := hz3.inside
  have p1 : ¬ (w.heap.size = w3.heap.size) := by omega
  have p2 : ¬ (w.heap.size = w3.heap.size + 1) := by omega
  have p3 : ¬ (w2.heap.size = w3.heap.size) := by omega
  have p4 : ¬ (w2.heap.size = w3.heap.size + 1) := by omega
  have p5 : ¬ (w2.heap.size + 1 = w3.heap.size) := by omega
  obtain ⟨x0, x1, x2, x3, x4, x5, x6, x7, x8, x9, x10⟩ := hx3.reads11
  obtain ⟨y0, y1, y2, y3, y4, y5, y6, y7, y8, y9, y10⟩ := hy3.reads11
  obtain ⟨z0, z1, z2, z3, z4, z5, z6, z7, z8, z9, z10⟩ := hz3.reads11
  clear hx3 hy3 hz3 hb3 hlt2 hlt2'
  have i3' := Nat.lt_succ_of_lt i3
  have k3' := Nat.lt_succ_of_lt k3
  have l3' := Nat.lt_succ_of_lt l3
  have AL := Lib.hid alive21_any
  go_wp2_with fail
  refine (Calls.kept (S := fun W => Below w.heap.size w W) (AL.out _) (((HB3.out).alloc HB3.out.size _).alloc (by rw [World.size_alloc]; exact Nat.le_succ_of_le HB3.out.size) _) (fun w' hb hS => hS.trans (hb.mono hS.size))).mono ?_; rintro _ w4 ⟨rfl, hb4⟩
  have HB4 := Lib.hid hb4
  clear hb4 x0 x1 x2 x3 x4 x5 x6 x7 x8 x9 x10 y0 y1 y2 y3 y4 y5 y6 y7 y8 y9 y10 z0 z1 z2 z3 z4 z5 z6 z7 z8 z9 z10
  go_wp2_with fail
  go_ret
  exact ⟨rfl, HB4.out⟩
end Go.Proofs.Ytaeflfgkdjfnfaa
