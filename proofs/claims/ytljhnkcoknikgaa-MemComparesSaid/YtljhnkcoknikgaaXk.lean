/- Layer 13 (mem): Right of the example's mutations. Printed by wip/tools/gen_xk.py. -/
import Derived.Test.YtljhnkcoknikgaaXe
import Derived.Test.YtljhnkcoknikgaaXj
namespace Go.Proofs.Ytljhnkcoknikgaa
open Go.RowKit
attribute [local irreducible] wpQuiet

theorem broken_b (w : World) : Calls Try.prog 146 #[.string ⟨#[98]⟩, .int .i64 0, .int .i32 98] w fun e w' => e = .returned (.bool false) ∧ w' = w := by
  go_enter Try.func146, Try.ntmps146
  go_wp2_with fail
  go_ret
  exact ⟨rfl, rfl⟩
theorem letter_b (w : World) : Calls Try.prog 147 #[.int .i32 98] w fun e w' => e = .returned (.bool true) ∧ w' = w := by
  go_enter Try.func147, Try.ntmps147
  go_wp2_with fail
  go_ret
  exact ⟨rfl, rfl⟩
set_option maxRecDepth 100000 in
theorem key_b (w : World) : Calls Try.prog 113 #[.string ⟨#[98]⟩] w fun e w' => e = .returned (.bool true) ∧ Below w.heap.size w w' := by
  have hit := It.fresh w ⟨#[98]⟩ 0
  have hbel : Below w.heap.size w (w.iter ⟨#[98]⟩ 0) := (Below.refl _ _).alloc (Nat.le_refl _) _
  have hnx : ∀ ty, (Instr.next (.pointer (some ⟨w.heap.size, 0, none⟩)) true ty).run Try.prog (w.iter ⟨#[98]⟩ 0) = .ok (.tuple #[.bool true, .int .i64 0, .int .i32 98]) ((w.iter ⟨#[98]⟩ 0).iterAt w.heap.size ⟨#[98]⟩ 1) := fun ty => Lib.run_next_ascii_at _ w.heap.size ⟨#[98]⟩ 0 ty hit (by decide) (by decide)
  have hit1 := hit.step 1
  have hbel1 := Lib.below_iterAt hbel (k := w.heap.size) (Nat.le_refl _) ⟨#[98]⟩ 1
  have HB := Lib.hid (And.intro hit1 hbel1)
  have CB := Lib.hid (fun W => broken_b W)
  have CL := Lib.hid (fun W => letter_b W)
  clear hit hbel hit1 hbel1
  go_enter Try.func113, Try.ntmps113
  go_wp2_with fail
  refine wp_loop_rounds 4 ?_
  rw [rounds_succ]
  go_wp2_with fail
  generalize (w.iter ⟨#[98]⟩ 0).iterAt w.heap.size ⟨#[98]⟩ 1 = W1 at *
  clear hnx
  have hnx2 : ∀ ty, (Instr.next (.pointer (some ⟨w.heap.size, 0, none⟩)) true ty).run Try.prog W1 = .ok (.tuple #[.bool false]) W1 := fun ty => Lib.run_next_end_at _ w.heap.size ⟨#[98]⟩ 1 ty HB.out.1 (by decide)
  refine (CB.out _).mono ?_; rintro e w2 ⟨rfl, rfl⟩
  go_wp2_with fail
  refine (CL.out _).mono ?_; rintro e w2 ⟨rfl, rfl⟩
  go_wp2_with fail
  rw [rounds_succ]
  go_wp2_with fail
  go_ret
  exact ⟨rfl, HB.out.2⟩
theorem kind_b (w : World) : Calls Try.prog 110 #[.agg #[.int .i64 1, .int .i64 1, .string ⟨#[98]⟩, .string ⟨#[]⟩, .string ⟨#[]⟩, .int .i64 0, .int .i64 1, .int .i64 0, .int .i64 0, .slice none 0 0]] w fun e w' => e = .returned (.bool true) ∧ Below w.heap.size w w' := by
  have HB := Lib.hid ((Below.refl w.heap.size w).alloc (Nat.le_refl _) (.cells #[.int .i64 1, .int .i64 1, .string ⟨#[98]⟩, .string ⟨#[]⟩, .string ⟨#[]⟩, .int .i64 0, .int .i64 1, .int .i64 0, .int .i64 0, .slice none 0 0] 40))
  go_enter Try.func110, Try.ntmps110
  go_wp2_with fail
  go_ret
  exact ⟨rfl, HB.out⟩
theorem end_b (w : World) : Calls Try.prog 114 #[.agg #[.int .i64 1, .int .i64 1, .string ⟨#[98]⟩, .string ⟨#[]⟩, .string ⟨#[]⟩, .int .i64 0, .int .i64 1, .int .i64 0, .int .i64 0, .slice none 0 0]] w fun e w' => e = .returned (.bool true) ∧ Below w.heap.size w w' := by
  have HB := Lib.hid ((Below.refl w.heap.size w).alloc (Nat.le_refl _) (.cells #[.int .i64 1, .int .i64 1, .string ⟨#[98]⟩, .string ⟨#[]⟩, .string ⟨#[]⟩, .int .i64 0, .int .i64 1, .int .i64 0, .int .i64 0, .slice none 0 0] 40))
  go_enter Try.func114, Try.ntmps114
  go_wp2_with fail
  go_ret
  exact ⟨rfl, HB.out⟩
theorem val_b (w : World) : Calls Try.prog 115 #[.agg #[.int .i64 1, .int .i64 1, .string ⟨#[98]⟩, .string ⟨#[]⟩, .string ⟨#[]⟩, .int .i64 0, .int .i64 1, .int .i64 0, .int .i64 0, .slice none 0 0]] w fun e w' => e = .returned (.bool true) ∧ Below w.heap.size w w' := by
  have HB := Lib.hid ((Below.refl w.heap.size w).alloc (Nat.le_refl _) (.cells #[.int .i64 1, .int .i64 1, .string ⟨#[98]⟩, .string ⟨#[]⟩, .string ⟨#[]⟩, .int .i64 0, .int .i64 1, .int .i64 0, .int .i64 0, .slice none 0 0] 40))
  go_enter Try.func115, Try.ntmps115
  go_wp2_with fail
  go_ret
  exact ⟨rfl, HB.out⟩
theorem expiry_b (w : World) : Calls Try.prog 116 #[.agg #[.int .i64 1, .int .i64 1, .string ⟨#[98]⟩, .string ⟨#[]⟩, .string ⟨#[]⟩, .int .i64 0, .int .i64 1, .int .i64 0, .int .i64 0, .slice none 0 0]] w fun e w' => e = .returned (.bool true) ∧ Below w.heap.size w w' := by
  have HB := Lib.hid ((Below.refl w.heap.size w).alloc (Nat.le_refl _) (.cells #[.int .i64 1, .int .i64 1, .string ⟨#[98]⟩, .string ⟨#[]⟩, .string ⟨#[]⟩, .int .i64 0, .int .i64 1, .int .i64 0, .int .i64 0, .slice none 0 0] 40))
  go_enter Try.func116, Try.ntmps116
  go_wp2_with fail
  go_ret
  exact ⟨rfl, HB.out⟩
theorem over_b (w : World) : Calls Try.prog 112 #[.agg #[.int .i64 1, .int .i64 1, .string ⟨#[98]⟩, .string ⟨#[]⟩, .string ⟨#[]⟩, .int .i64 0, .int .i64 1, .int .i64 0, .int .i64 0, .slice none 0 0]] w fun e w' => e = .returned (.bool true) ∧ Below w.heap.size w w' := by
  have HB := Lib.hid ((Below.refl w.heap.size w).alloc (Nat.le_refl _) (.cells #[.int .i64 1, .int .i64 1, .string ⟨#[98]⟩, .string ⟨#[]⟩, .string ⟨#[]⟩, .int .i64 0, .int .i64 1, .int .i64 0, .int .i64 0, .slice none 0 0] 40))
  go_enter Try.func112, Try.ntmps112
  go_wp2_with fail
  refine wp_loop_rounds 4 ?_
  rw [rounds_succ]
  go_wp2_with fail
  go_ret
  exact ⟨rfl, HB.out⟩
set_option maxRecDepth 100000 in
set_option maxHeartbeats 4000000 in
theorem right_b (w : World) : Calls Try.prog 75 #[.agg #[.int .i64 1, .int .i64 1, .string ⟨#[98]⟩, .string ⟨#[]⟩, .string ⟨#[]⟩, .int .i64 0, .int .i64 1, .int .i64 0, .int .i64 0, .slice none 0 0]] w fun e w' => e = .returned (.bool true) ∧ Below w.heap.size w w' := by
  have H0 := Lib.hid (show Below w.heap.size w (w.alloc (.cells #[.int .i64 1, .int .i64 1, .string ⟨#[98]⟩, .string ⟨#[]⟩, .string ⟨#[]⟩, .int .i64 0, .int .i64 1, .int .i64 0, .int .i64 0, .slice none 0 0] 40)) ∧ Bx (w.alloc (.cells #[.int .i64 1, .int .i64 1, .string ⟨#[98]⟩, .string ⟨#[]⟩, .string ⟨#[]⟩, .int .i64 0, .int .i64 1, .int .i64 0, .int .i64 0, .slice none 0 0] 40)) w.heap.size 40 #[.int .i64 1, .int .i64 1, .string ⟨#[98]⟩, .string ⟨#[]⟩, .string ⟨#[]⟩, .int .i64 0, .int .i64 1, .int .i64 0, .int .i64 0, .slice none 0 0] from ⟨(Below.refl _ _).alloc (Nat.le_refl _) _, Bx.fresh _ _ _⟩)
  have C1 := Lib.hid (fun W => kind_b W)
  have C2 := Lib.hid (fun W => (show Calls Try.prog 111 #[.agg #[.int .i64 1, .int .i64 0, .int .i64 0]] W fun e w' => e = .returned (.bool true) ∧ Below W.heap.size W w' from right_any ⟨1, 0, 0⟩ W))
  have C3 := Lib.hid (fun W => over_b W)
  have C4 := Lib.hid (fun W => key_b W)
  have C5 := Lib.hid (fun W => end_b W)
  have C6 := Lib.hid (fun W => val_b W)
  have C7 := Lib.hid (fun W => expiry_b W)
  go_enter Try.func75, Try.ntmps75
  go_wp2_with fail
  refine (C1.out _).mono ?_; rintro e w1 ⟨rfl, hb⟩
  have H1 := Lib.hid (And.intro (bnext H0.out.1 hb) (H0.out.2.next hb))
  have r6 := H1.out.2.read (i := 6) rfl
  have r7 := H1.out.2.read (i := 7) rfl
  have r8 := H1.out.2.read (i := 8) rfl
  clear hb H0
  go_wp2_with fail
  clear r6 r7 r8
  refine (C2.out _).mono ?_; rintro e w2 ⟨rfl, hb⟩
  have H2 := Lib.hid (And.intro (bnext H1.out.1 hb) (H1.out.2.next hb))
  have r0 := H2.out.2.read (i := 0) rfl
  have r1 := H2.out.2.read (i := 1) rfl
  have r2 := H2.out.2.read (i := 2) rfl
  have r3 := H2.out.2.read (i := 3) rfl
  have r4 := H2.out.2.read (i := 4) rfl
  have r5 := H2.out.2.read (i := 5) rfl
  have r6 := H2.out.2.read (i := 6) rfl
  have r7 := H2.out.2.read (i := 7) rfl
  have r8 := H2.out.2.read (i := 8) rfl
  have r9 := H2.out.2.read (i := 9) rfl
  clear hb H1
  go_wp2_with fail
  clear r0 r1 r2 r3 r4 r5 r6 r7 r8 r9
  refine (C3.out _).mono ?_; rintro e w3 ⟨rfl, hb⟩
  have H3 := Lib.hid (And.intro (bnext H2.out.1 hb) (H2.out.2.next hb))
  have r2 := H3.out.2.read (i := 2) rfl
  clear hb H2
  go_wp2_with fail
  clear r2
  refine (C4.out _).mono ?_; rintro e w4 ⟨rfl, hb⟩
  have H4 := Lib.hid (And.intro (bnext H3.out.1 hb) (H3.out.2.next hb))
  have r0 := H4.out.2.read (i := 0) rfl
  have r1 := H4.out.2.read (i := 1) rfl
  have r2 := H4.out.2.read (i := 2) rfl
  have r3 := H4.out.2.read (i := 3) rfl
  have r4 := H4.out.2.read (i := 4) rfl
  have r5 := H4.out.2.read (i := 5) rfl
  have r6 := H4.out.2.read (i := 6) rfl
  have r7 := H4.out.2.read (i := 7) rfl
  have r8 := H4.out.2.read (i := 8) rfl
  have r9 := H4.out.2.read (i := 9) rfl
  clear hb H3
  go_wp2_with fail
  clear r0 r1 r2 r3 r4 r5 r6 r7 r8 r9
  refine (C5.out _).mono ?_; rintro e w5 ⟨rfl, hb⟩
  have H5 := Lib.hid (And.intro (bnext H4.out.1 hb) (H4.out.2.next hb))
  have r0 := H5.out.2.read (i := 0) rfl
  have r1 := H5.out.2.read (i := 1) rfl
  have r2 := H5.out.2.read (i := 2) rfl
  have r3 := H5.out.2.read (i := 3) rfl
  have r4 := H5.out.2.read (i := 4) rfl
  have r5 := H5.out.2.read (i := 5) rfl
  have r6 := H5.out.2.read (i := 6) rfl
  have r7 := H5.out.2.read (i := 7) rfl
  have r8 := H5.out.2.read (i := 8) rfl
  have r9 := H5.out.2.read (i := 9) rfl
  clear hb H4
  go_wp2_with fail
  clear r0 r1 r2 r3 r4 r5 r6 r7 r8 r9
  refine (C6.out _).mono ?_; rintro e w6 ⟨rfl, hb⟩
  have H6 := Lib.hid (And.intro (bnext H5.out.1 hb) (H5.out.2.next hb))
  have r0 := H6.out.2.read (i := 0) rfl
  have r1 := H6.out.2.read (i := 1) rfl
  have r2 := H6.out.2.read (i := 2) rfl
  have r3 := H6.out.2.read (i := 3) rfl
  have r4 := H6.out.2.read (i := 4) rfl
  have r5 := H6.out.2.read (i := 5) rfl
  have r6 := H6.out.2.read (i := 6) rfl
  have r7 := H6.out.2.read (i := 7) rfl
  have r8 := H6.out.2.read (i := 8) rfl
  have r9 := H6.out.2.read (i := 9) rfl
  clear hb H5
  go_wp2_with fail
  clear r0 r1 r2 r3 r4 r5 r6 r7 r8 r9
  refine (C7.out _).mono ?_; rintro e w7 ⟨rfl, hb⟩
  have H7 := Lib.hid (And.intro (bnext H6.out.1 hb) (H6.out.2.next hb))
  clear hb H6
  go_wp2_with fail
  go_ret
  exact ⟨rfl, H7.out.1⟩
theorem broken_a (w : World) : Calls Try.prog 146 #[.string ⟨#[97]⟩, .int .i64 0, .int .i32 97] w fun e w' => e = .returned (.bool false) ∧ w' = w := by
  go_enter Try.func146, Try.ntmps146
  go_wp2_with fail
  go_ret
  exact ⟨rfl, rfl⟩
theorem letter_a (w : World) : Calls Try.prog 147 #[.int .i32 97] w fun e w' => e = .returned (.bool true) ∧ w' = w := by
  go_enter Try.func147, Try.ntmps147
  go_wp2_with fail
  go_ret
  exact ⟨rfl, rfl⟩
set_option maxRecDepth 100000 in
theorem key_a (w : World) : Calls Try.prog 113 #[.string ⟨#[97]⟩] w fun e w' => e = .returned (.bool true) ∧ Below w.heap.size w w' := by
  have hit := It.fresh w ⟨#[97]⟩ 0
  have hbel : Below w.heap.size w (w.iter ⟨#[97]⟩ 0) := (Below.refl _ _).alloc (Nat.le_refl _) _
  have hnx : ∀ ty, (Instr.next (.pointer (some ⟨w.heap.size, 0, none⟩)) true ty).run Try.prog (w.iter ⟨#[97]⟩ 0) = .ok (.tuple #[.bool true, .int .i64 0, .int .i32 97]) ((w.iter ⟨#[97]⟩ 0).iterAt w.heap.size ⟨#[97]⟩ 1) := fun ty => Lib.run_next_ascii_at _ w.heap.size ⟨#[97]⟩ 0 ty hit (by decide) (by decide)
  have hit1 := hit.step 1
  have hbel1 := Lib.below_iterAt hbel (k := w.heap.size) (Nat.le_refl _) ⟨#[97]⟩ 1
  have HB := Lib.hid (And.intro hit1 hbel1)
  have CB := Lib.hid (fun W => broken_a W)
  have CL := Lib.hid (fun W => letter_a W)
  clear hit hbel hit1 hbel1
  go_enter Try.func113, Try.ntmps113
  go_wp2_with fail
  refine wp_loop_rounds 4 ?_
  rw [rounds_succ]
  go_wp2_with fail
  generalize (w.iter ⟨#[97]⟩ 0).iterAt w.heap.size ⟨#[97]⟩ 1 = W1 at *
  clear hnx
  have hnx2 : ∀ ty, (Instr.next (.pointer (some ⟨w.heap.size, 0, none⟩)) true ty).run Try.prog W1 = .ok (.tuple #[.bool false]) W1 := fun ty => Lib.run_next_end_at _ w.heap.size ⟨#[97]⟩ 1 ty HB.out.1 (by decide)
  refine (CB.out _).mono ?_; rintro e w2 ⟨rfl, rfl⟩
  go_wp2_with fail
  refine (CL.out _).mono ?_; rintro e w2 ⟨rfl, rfl⟩
  go_wp2_with fail
  rw [rounds_succ]
  go_wp2_with fail
  go_ret
  exact ⟨rfl, HB.out.2⟩
theorem kind_a (w : World) : Calls Try.prog 110 #[.agg #[.int .i64 1, .int .i64 1, .string ⟨#[97]⟩, .string ⟨#[]⟩, .string ⟨#[]⟩, .int .i64 0, .int .i64 2, .int .i64 0, .int .i64 0, .slice none 0 0]] w fun e w' => e = .returned (.bool true) ∧ Below w.heap.size w w' := by
  have HB := Lib.hid ((Below.refl w.heap.size w).alloc (Nat.le_refl _) (.cells #[.int .i64 1, .int .i64 1, .string ⟨#[97]⟩, .string ⟨#[]⟩, .string ⟨#[]⟩, .int .i64 0, .int .i64 2, .int .i64 0, .int .i64 0, .slice none 0 0] 40))
  go_enter Try.func110, Try.ntmps110
  go_wp2_with fail
  go_ret
  exact ⟨rfl, HB.out⟩
theorem end_a (w : World) : Calls Try.prog 114 #[.agg #[.int .i64 1, .int .i64 1, .string ⟨#[97]⟩, .string ⟨#[]⟩, .string ⟨#[]⟩, .int .i64 0, .int .i64 2, .int .i64 0, .int .i64 0, .slice none 0 0]] w fun e w' => e = .returned (.bool true) ∧ Below w.heap.size w w' := by
  have HB := Lib.hid ((Below.refl w.heap.size w).alloc (Nat.le_refl _) (.cells #[.int .i64 1, .int .i64 1, .string ⟨#[97]⟩, .string ⟨#[]⟩, .string ⟨#[]⟩, .int .i64 0, .int .i64 2, .int .i64 0, .int .i64 0, .slice none 0 0] 40))
  go_enter Try.func114, Try.ntmps114
  go_wp2_with fail
  go_ret
  exact ⟨rfl, HB.out⟩
theorem val_a (w : World) : Calls Try.prog 115 #[.agg #[.int .i64 1, .int .i64 1, .string ⟨#[97]⟩, .string ⟨#[]⟩, .string ⟨#[]⟩, .int .i64 0, .int .i64 2, .int .i64 0, .int .i64 0, .slice none 0 0]] w fun e w' => e = .returned (.bool true) ∧ Below w.heap.size w w' := by
  have HB := Lib.hid ((Below.refl w.heap.size w).alloc (Nat.le_refl _) (.cells #[.int .i64 1, .int .i64 1, .string ⟨#[97]⟩, .string ⟨#[]⟩, .string ⟨#[]⟩, .int .i64 0, .int .i64 2, .int .i64 0, .int .i64 0, .slice none 0 0] 40))
  go_enter Try.func115, Try.ntmps115
  go_wp2_with fail
  go_ret
  exact ⟨rfl, HB.out⟩
theorem expiry_a (w : World) : Calls Try.prog 116 #[.agg #[.int .i64 1, .int .i64 1, .string ⟨#[97]⟩, .string ⟨#[]⟩, .string ⟨#[]⟩, .int .i64 0, .int .i64 2, .int .i64 0, .int .i64 0, .slice none 0 0]] w fun e w' => e = .returned (.bool true) ∧ Below w.heap.size w w' := by
  have HB := Lib.hid ((Below.refl w.heap.size w).alloc (Nat.le_refl _) (.cells #[.int .i64 1, .int .i64 1, .string ⟨#[97]⟩, .string ⟨#[]⟩, .string ⟨#[]⟩, .int .i64 0, .int .i64 2, .int .i64 0, .int .i64 0, .slice none 0 0] 40))
  go_enter Try.func116, Try.ntmps116
  go_wp2_with fail
  go_ret
  exact ⟨rfl, HB.out⟩
theorem over_a (w : World) : Calls Try.prog 112 #[.agg #[.int .i64 1, .int .i64 1, .string ⟨#[97]⟩, .string ⟨#[]⟩, .string ⟨#[]⟩, .int .i64 0, .int .i64 2, .int .i64 0, .int .i64 0, .slice none 0 0]] w fun e w' => e = .returned (.bool true) ∧ Below w.heap.size w w' := by
  have HB := Lib.hid ((Below.refl w.heap.size w).alloc (Nat.le_refl _) (.cells #[.int .i64 1, .int .i64 1, .string ⟨#[97]⟩, .string ⟨#[]⟩, .string ⟨#[]⟩, .int .i64 0, .int .i64 2, .int .i64 0, .int .i64 0, .slice none 0 0] 40))
  go_enter Try.func112, Try.ntmps112
  go_wp2_with fail
  refine wp_loop_rounds 4 ?_
  rw [rounds_succ]
  go_wp2_with fail
  go_ret
  exact ⟨rfl, HB.out⟩
set_option maxRecDepth 100000 in
set_option maxHeartbeats 4000000 in
theorem right_a (w : World) : Calls Try.prog 75 #[.agg #[.int .i64 1, .int .i64 1, .string ⟨#[97]⟩, .string ⟨#[]⟩, .string ⟨#[]⟩, .int .i64 0, .int .i64 2, .int .i64 0, .int .i64 0, .slice none 0 0]] w fun e w' => e = .returned (.bool true) ∧ Below w.heap.size w w' := by
  have H0 := Lib.hid (show Below w.heap.size w (w.alloc (.cells #[.int .i64 1, .int .i64 1, .string ⟨#[97]⟩, .string ⟨#[]⟩, .string ⟨#[]⟩, .int .i64 0, .int .i64 2, .int .i64 0, .int .i64 0, .slice none 0 0] 40)) ∧ Bx (w.alloc (.cells #[.int .i64 1, .int .i64 1, .string ⟨#[97]⟩, .string ⟨#[]⟩, .string ⟨#[]⟩, .int .i64 0, .int .i64 2, .int .i64 0, .int .i64 0, .slice none 0 0] 40)) w.heap.size 40 #[.int .i64 1, .int .i64 1, .string ⟨#[97]⟩, .string ⟨#[]⟩, .string ⟨#[]⟩, .int .i64 0, .int .i64 2, .int .i64 0, .int .i64 0, .slice none 0 0] from ⟨(Below.refl _ _).alloc (Nat.le_refl _) _, Bx.fresh _ _ _⟩)
  have C1 := Lib.hid (fun W => kind_a W)
  have C2 := Lib.hid (fun W => (show Calls Try.prog 111 #[.agg #[.int .i64 2, .int .i64 0, .int .i64 0]] W fun e w' => e = .returned (.bool true) ∧ Below W.heap.size W w' from right_any ⟨2, 0, 0⟩ W))
  have C3 := Lib.hid (fun W => over_a W)
  have C4 := Lib.hid (fun W => key_a W)
  have C5 := Lib.hid (fun W => end_a W)
  have C6 := Lib.hid (fun W => val_a W)
  have C7 := Lib.hid (fun W => expiry_a W)
  go_enter Try.func75, Try.ntmps75
  go_wp2_with fail
  refine (C1.out _).mono ?_; rintro e w1 ⟨rfl, hb⟩
  have H1 := Lib.hid (And.intro (bnext H0.out.1 hb) (H0.out.2.next hb))
  have r6 := H1.out.2.read (i := 6) rfl
  have r7 := H1.out.2.read (i := 7) rfl
  have r8 := H1.out.2.read (i := 8) rfl
  clear hb H0
  go_wp2_with fail
  clear r6 r7 r8
  refine (C2.out _).mono ?_; rintro e w2 ⟨rfl, hb⟩
  have H2 := Lib.hid (And.intro (bnext H1.out.1 hb) (H1.out.2.next hb))
  have r0 := H2.out.2.read (i := 0) rfl
  have r1 := H2.out.2.read (i := 1) rfl
  have r2 := H2.out.2.read (i := 2) rfl
  have r3 := H2.out.2.read (i := 3) rfl
  have r4 := H2.out.2.read (i := 4) rfl
  have r5 := H2.out.2.read (i := 5) rfl
  have r6 := H2.out.2.read (i := 6) rfl
  have r7 := H2.out.2.read (i := 7) rfl
  have r8 := H2.out.2.read (i := 8) rfl
  have r9 := H2.out.2.read (i := 9) rfl
  clear hb H1
  go_wp2_with fail
  clear r0 r1 r2 r3 r4 r5 r6 r7 r8 r9
  refine (C3.out _).mono ?_; rintro e w3 ⟨rfl, hb⟩
  have H3 := Lib.hid (And.intro (bnext H2.out.1 hb) (H2.out.2.next hb))
  have r2 := H3.out.2.read (i := 2) rfl
  clear hb H2
  go_wp2_with fail
  clear r2
  refine (C4.out _).mono ?_; rintro e w4 ⟨rfl, hb⟩
  have H4 := Lib.hid (And.intro (bnext H3.out.1 hb) (H3.out.2.next hb))
  have r0 := H4.out.2.read (i := 0) rfl
  have r1 := H4.out.2.read (i := 1) rfl
  have r2 := H4.out.2.read (i := 2) rfl
  have r3 := H4.out.2.read (i := 3) rfl
  have r4 := H4.out.2.read (i := 4) rfl
  have r5 := H4.out.2.read (i := 5) rfl
  have r6 := H4.out.2.read (i := 6) rfl
  have r7 := H4.out.2.read (i := 7) rfl
  have r8 := H4.out.2.read (i := 8) rfl
  have r9 := H4.out.2.read (i := 9) rfl
  clear hb H3
  go_wp2_with fail
  clear r0 r1 r2 r3 r4 r5 r6 r7 r8 r9
  refine (C5.out _).mono ?_; rintro e w5 ⟨rfl, hb⟩
  have H5 := Lib.hid (And.intro (bnext H4.out.1 hb) (H4.out.2.next hb))
  have r0 := H5.out.2.read (i := 0) rfl
  have r1 := H5.out.2.read (i := 1) rfl
  have r2 := H5.out.2.read (i := 2) rfl
  have r3 := H5.out.2.read (i := 3) rfl
  have r4 := H5.out.2.read (i := 4) rfl
  have r5 := H5.out.2.read (i := 5) rfl
  have r6 := H5.out.2.read (i := 6) rfl
  have r7 := H5.out.2.read (i := 7) rfl
  have r8 := H5.out.2.read (i := 8) rfl
  have r9 := H5.out.2.read (i := 9) rfl
  clear hb H4
  go_wp2_with fail
  clear r0 r1 r2 r3 r4 r5 r6 r7 r8 r9
  refine (C6.out _).mono ?_; rintro e w6 ⟨rfl, hb⟩
  have H6 := Lib.hid (And.intro (bnext H5.out.1 hb) (H5.out.2.next hb))
  have r0 := H6.out.2.read (i := 0) rfl
  have r1 := H6.out.2.read (i := 1) rfl
  have r2 := H6.out.2.read (i := 2) rfl
  have r3 := H6.out.2.read (i := 3) rfl
  have r4 := H6.out.2.read (i := 4) rfl
  have r5 := H6.out.2.read (i := 5) rfl
  have r6 := H6.out.2.read (i := 6) rfl
  have r7 := H6.out.2.read (i := 7) rfl
  have r8 := H6.out.2.read (i := 8) rfl
  have r9 := H6.out.2.read (i := 9) rfl
  clear hb H5
  go_wp2_with fail
  clear r0 r1 r2 r3 r4 r5 r6 r7 r8 r9
  refine (C7.out _).mono ?_; rintro e w7 ⟨rfl, hb⟩
  have H7 := Lib.hid (And.intro (bnext H6.out.1 hb) (H6.out.2.next hb))
  clear hb H6
  go_wp2_with fail
  go_ret
  exact ⟨rfl, H7.out.1⟩
end Go.Proofs.Ytljhnkcoknikgaa
