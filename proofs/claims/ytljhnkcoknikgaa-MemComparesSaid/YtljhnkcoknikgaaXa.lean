/- Layer 7 (mut): the law's alive: Right of the example. -/
import Derived.Test.YtljhnkcoknikgaaX2
import Derived.Lib.OthersKept
import Derived.Lib.QuietBelow
namespace Go.Proofs.Ytljhnkcoknikgaa
open Go.RowKit
attribute [local irreducible] wpQuiet

theorem broken_k (w : World) : Calls Try.prog 146 #[.string ⟨#[107]⟩, .int .i64 0, .int .i32 107] w fun e w' => e = .returned (.bool false) ∧ w' = w := by
  go_enter Try.func146, Try.ntmps146
  go_wp2_with fail
  go_ret
  exact ⟨rfl, rfl⟩
theorem letter_k (w : World) : Calls Try.prog 147 #[.int .i32 107] w fun e w' => e = .returned (.bool true) ∧ w' = w := by
  go_enter Try.func147, Try.ntmps147
  go_wp2_with fail
  go_ret
  exact ⟨rfl, rfl⟩
set_option maxRecDepth 100000 in
theorem key_k (w : World) : Calls Try.prog 113 #[.string ⟨#[107]⟩] w fun e w' => e = .returned (.bool true) ∧ Below w.heap.size w w' := by
  have hit := It.fresh w ⟨#[107]⟩ 0
  have hbel : Below w.heap.size w (w.iter ⟨#[107]⟩ 0) := (Below.refl _ _).alloc (Nat.le_refl _) _
  have hnx : ∀ ty, (Instr.next (.pointer (some ⟨w.heap.size, 0, none⟩)) true ty).run Try.prog (w.iter ⟨#[107]⟩ 0) = .ok (.tuple #[.bool true, .int .i64 0, .int .i32 107]) ((w.iter ⟨#[107]⟩ 0).iterAt w.heap.size ⟨#[107]⟩ 1) := fun ty => Lib.run_next_ascii_at _ w.heap.size ⟨#[107]⟩ 0 ty hit (by decide) (by decide)
  have hit1 := hit.step 1
  have hbel1 := Lib.below_iterAt hbel (k := w.heap.size) (Nat.le_refl _) ⟨#[107]⟩ 1
  have HB := Lib.hid (And.intro hit1 hbel1)
  have CB := Lib.hid (fun W => broken_k W)
  have CL := Lib.hid (fun W => letter_k W)
  clear hit hbel hit1 hbel1
  go_enter Try.func113, Try.ntmps113
  go_wp2_with fail
  refine wp_loop_rounds 4 ?_
  rw [rounds_succ]
  go_wp2_with fail
  generalize (w.iter ⟨#[107]⟩ 0).iterAt w.heap.size ⟨#[107]⟩ 1 = W1 at *
  clear hnx
  have hnx2 : ∀ ty, (Instr.next (.pointer (some ⟨w.heap.size, 0, none⟩)) true ty).run Try.prog W1 = .ok (.tuple #[.bool false]) W1 := fun ty => Lib.run_next_end_at _ w.heap.size ⟨#[107]⟩ 1 ty HB.out.1 (by decide)
  refine (CB.out _).mono ?_; rintro e w2 ⟨rfl, rfl⟩
  go_wp2_with fail
  refine (CL.out _).mono ?_; rintro e w2 ⟨rfl, rfl⟩
  go_wp2_with fail
  rw [rounds_succ]
  go_wp2_with fail
  go_ret
  exact ⟨rfl, HB.out.2⟩
theorem kind_k (w : World) : Calls Try.prog 110 #[.agg #[.int .i64 1, .int .i64 1, .string ⟨#[107]⟩, .string ⟨#[]⟩, .string ⟨#[]⟩, .int .i64 0, .int .i64 1, .int .i64 0, .int .i64 0, .slice none 0 0]] w fun e w' => e = .returned (.bool true) ∧ Below w.heap.size w w' := by
  have HB := Lib.hid ((Below.refl w.heap.size w).alloc (Nat.le_refl _) (.cells #[.int .i64 1, .int .i64 1, .string ⟨#[107]⟩, .string ⟨#[]⟩, .string ⟨#[]⟩, .int .i64 0, .int .i64 1, .int .i64 0, .int .i64 0, .slice none 0 0] 40))
  go_enter Try.func110, Try.ntmps110
  go_wp2_with fail
  go_ret
  exact ⟨rfl, HB.out⟩
theorem end_k (w : World) : Calls Try.prog 114 #[.agg #[.int .i64 1, .int .i64 1, .string ⟨#[107]⟩, .string ⟨#[]⟩, .string ⟨#[]⟩, .int .i64 0, .int .i64 1, .int .i64 0, .int .i64 0, .slice none 0 0]] w fun e w' => e = .returned (.bool true) ∧ Below w.heap.size w w' := by
  have HB := Lib.hid ((Below.refl w.heap.size w).alloc (Nat.le_refl _) (.cells #[.int .i64 1, .int .i64 1, .string ⟨#[107]⟩, .string ⟨#[]⟩, .string ⟨#[]⟩, .int .i64 0, .int .i64 1, .int .i64 0, .int .i64 0, .slice none 0 0] 40))
  go_enter Try.func114, Try.ntmps114
  go_wp2_with fail
  go_ret
  exact ⟨rfl, HB.out⟩
theorem val_k (w : World) : Calls Try.prog 115 #[.agg #[.int .i64 1, .int .i64 1, .string ⟨#[107]⟩, .string ⟨#[]⟩, .string ⟨#[]⟩, .int .i64 0, .int .i64 1, .int .i64 0, .int .i64 0, .slice none 0 0]] w fun e w' => e = .returned (.bool true) ∧ Below w.heap.size w w' := by
  have HB := Lib.hid ((Below.refl w.heap.size w).alloc (Nat.le_refl _) (.cells #[.int .i64 1, .int .i64 1, .string ⟨#[107]⟩, .string ⟨#[]⟩, .string ⟨#[]⟩, .int .i64 0, .int .i64 1, .int .i64 0, .int .i64 0, .slice none 0 0] 40))
  go_enter Try.func115, Try.ntmps115
  go_wp2_with fail
  go_ret
  exact ⟨rfl, HB.out⟩
theorem expiry_k (w : World) : Calls Try.prog 116 #[.agg #[.int .i64 1, .int .i64 1, .string ⟨#[107]⟩, .string ⟨#[]⟩, .string ⟨#[]⟩, .int .i64 0, .int .i64 1, .int .i64 0, .int .i64 0, .slice none 0 0]] w fun e w' => e = .returned (.bool true) ∧ Below w.heap.size w w' := by
  have HB := Lib.hid ((Below.refl w.heap.size w).alloc (Nat.le_refl _) (.cells #[.int .i64 1, .int .i64 1, .string ⟨#[107]⟩, .string ⟨#[]⟩, .string ⟨#[]⟩, .int .i64 0, .int .i64 1, .int .i64 0, .int .i64 0, .slice none 0 0] 40))
  go_enter Try.func116, Try.ntmps116
  go_wp2_with fail
  go_ret
  exact ⟨rfl, HB.out⟩
theorem over_k (w : World) : Calls Try.prog 112 #[.agg #[.int .i64 1, .int .i64 1, .string ⟨#[107]⟩, .string ⟨#[]⟩, .string ⟨#[]⟩, .int .i64 0, .int .i64 1, .int .i64 0, .int .i64 0, .slice none 0 0]] w fun e w' => e = .returned (.bool true) ∧ Below w.heap.size w w' := by
  have HB := Lib.hid ((Below.refl w.heap.size w).alloc (Nat.le_refl _) (.cells #[.int .i64 1, .int .i64 1, .string ⟨#[107]⟩, .string ⟨#[]⟩, .string ⟨#[]⟩, .int .i64 0, .int .i64 1, .int .i64 0, .int .i64 0, .slice none 0 0] 40))
  go_enter Try.func112, Try.ntmps112
  go_wp2_with fail
  refine wp_loop_rounds 4 ?_
  rw [rounds_succ]
  go_wp2_with fail
  go_ret
  exact ⟨rfl, HB.out⟩
end Go.Proofs.Ytljhnkcoknikgaa
