/- Layer 1 (runes): the chapter's examples; the statement on words and lines. -/
import Derived.Test.YtnhonjhpggnglaaDoorKz
namespace Go.Proofs.YtnhonjhpggnglaaDoor
open Go.RowKit

theorem ex_words : wordsL (⟨#[97, 32, 34, 98, 32, 99, 34, 100]⟩ : ByteArray).data.toList = [[97], [34, 98, 32, 99, 34], [100]] := by decide +kernel
theorem ex_key1 : keyB ⟨#[97, 195, 169, 45, 49]⟩ = true := by decide +kernel
theorem ex_key2 : keyB ⟨#[45, 97]⟩ = false := by decide +kernel
theorem key_ex1 (w : World) : Calls Tryd.prog 6 #[.string ⟨#[97, 195, 169, 45, 49]⟩] w fun e w' => e = .returned (.bool true) ∧ Below w.heap.size w w' := by
  rw [← ex_key1]; exact key_any _ (by decide) w
theorem key_ex2 (w : World) : Calls Tryd.prog 6 #[.string ⟨#[45, 97]⟩] w fun e w' => e = .returned (.bool false) ∧ Below w.heap.size w w' := by
  rw [← ex_key2]; exact key_any _ (by decide) w
theorem words_ex (w : World) : Calls Tryd.prog 24 #[.string ⟨#[97, 32, 34, 98, 32, 99, 34, 100]⟩] w (Row w [[97], [34, 98, 32, 99, 34], [100]]) := by
  have := words_any ⟨#[97, 32, 34, 98, 32, 99, 34, 100]⟩ (by decide) w
  rw [ex_words] at this; exact this
theorem lit_rd (w : World) : Rd (w.alloc (.cells #[.string ⟨#[97]⟩, .string ⟨#[34, 98, 32, 99, 34]⟩, .string ⟨#[100]⟩] 9)) (.slice (some ⟨w.heap.size, 0, none⟩) 3 3) [[97], [34, 98, 32, 99, 34], [100]] := by
  refine ⟨_, 3, rfl, fun _ => ⟨_, rfl, fun i x hx => ?_⟩⟩
  have hb := Bx.fresh w 9 #[.string ⟨#[97]⟩, .string ⟨#[34, 98, 32, 99, 34]⟩, .string ⟨#[100]⟩]
  match i, hx with
  | 0, hx => simp at hx; subst hx; exact hb.read rfl
  | 1, hx => simp at hx; subst hx; exact hb.read rfl
  | 2, hx => simp at hx; subst hx; exact hb.read rfl
  | i + 3, hx => simp at hx

set_option maxHeartbeats 1000000 in
theorem alive1_any (w : World) : Calls Tryd.prog 10 #[] w fun e w' => e = .returned (.bool true) ∧ Below w.heap.size w w' := by
  go_enter Tryd.func10, Tryd.ntmps10
  go_wp2_with fail
  refine (words_ex _).mono ?_; rintro e w1 ⟨v, rfl, hown, hb1⟩
  have r1 := (Rd.of_own hown).next (w' := w1.alloc (.cells #[.string ⟨#[97]⟩, .string ⟨#[34, 98, 32, 99, 34]⟩, .string ⟨#[100]⟩] 9)) ((Below.refl _ _).alloc (Nat.le_refl _) _)
  have r2 := lit_rd w1
  have hb2 : Below w.heap.size w (w1.alloc (.cells #[.string ⟨#[97]⟩, .string ⟨#[34, 98, 32, 99, 34]⟩, .string ⟨#[100]⟩] 9)) := hb1.alloc hb1.size _
  clear hown hb1
  go_wp2_with fail
  refine (same_yes _ _ _ (by decide) _ r1 r2).mono ?_; rintro e w2 ⟨rfl, hb3⟩
  go_wp2_with fail
  refine (key_ex1 _).mono ?_; rintro e w3 ⟨rfl, hb4⟩
  go_wp2_with fail
  refine (key_ex2 _).mono ?_; rintro e w4 ⟨rfl, hb5⟩
  go_wp2_with fail
  go_ret
  exact ⟨rfl, bnext (bnext (bnext hb2 hb3) hb4) hb5⟩
end Go.Proofs.YtnhonjhpggnglaaDoor
