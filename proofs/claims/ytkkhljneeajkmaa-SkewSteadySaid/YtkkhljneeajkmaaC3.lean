/- Layer 41 (skew): New; Go. -/
import Derived.Test.YtkkhljneeajkmaaC2
namespace Go.Proofs.Ytkkhljneeajkmaa
open Go.RowKit

def cs0 : Array Value := (Value.int .i64 2 :: List.replicate 55 (Value.int .i64 0)).toArray
theorem cs0_at (i : Nat) (h : i < 55) : cs0[i + 1]? = some (.int .i64 0) := by
  unfold cs0
  rw [List.getElem?_toArray, List.getElem?_cons_succ, List.getElem?_replicate, if_pos h]
theorem cs0_rc : RC cs0 RT.zero := by
  refine ⟨by simp [cs0], by simp [cs0], fun i hi => ?_, fun a b ha hb => ?_, fun a b ha hb => ?_⟩
  · rw [Nat.add_comm 1 i]; exact cs0_at i (by omega)
  · rw [show 6 + a * 10 + b * 2 = (5 + a * 10 + b * 2) + 1 from by omega]; exact cs0_at _ (by omega)
  · exact cs0_at _ (by omega)
set_option maxRecDepth 100000 in
theorem new_any (w : World) : Calls Try.prog 68 #[.int .i64 2] w fun e w' => e = .returned (.pointer (some ⟨w.heap.size, 0, none⟩)) ∧ RB w' w.heap.size RT.zero ∧ Below w.heap.size w w' := by
  have HB := Lib.hid (show RB (w.alloc (.cells cs0 140)) w.heap.size RT.zero from ⟨_, Bx.fresh _ _ _, cs0_rc⟩)
  have HW := Lib.hid (show Below w.heap.size w (w.alloc (.cells cs0 140)) from (Below.refl _ _).alloc (Nat.le_refl _) _)
  go_enter Try.func68, Try.ntmps68
  go_wp2_with fail
  go_ret
  exact ⟨rfl, HB.out, HW.out⟩
/-- What holds while Go tells the others. -/
structure GS (w W : World) (g a : Nat) (t : Int) (x : Int) (k : Nat) (R : RT) : Prop where
  rb : RB W g (RT.go a t k R)
  bx : Bx W w.heap.size 107 #[.int .i64 a, .int .i64 x]
  gb : w.grownBy W (some g)
theorem go_skip (a : Nat) (t : Int) (R : RT) : RT.go a t (a + 1) R = RT.go a t a R := by
  unfold RT.go
  congr 1
  · funext x y
    by_cases h1 : x = a ∧ y ≠ a ∧ y < a
    · rw [if_pos h1, if_pos ⟨h1.1, h1.2.1, by omega⟩]
    · rw [if_neg h1, if_neg (show ¬ (x = a ∧ y ≠ a ∧ y < a + 1) from by omega)]
      by_cases h2 : y = a ∧ x ≠ a ∧ x < a
      · rw [if_pos h2, if_pos ⟨h2.1, h2.2.1, by omega⟩]
      · rw [if_neg h2, if_neg (show ¬ (y = a ∧ x ≠ a ∧ x < a + 1) from by omega)]
  · funext x y
    by_cases h1 : x = a ∧ y ≠ a ∧ y < a
    · rw [if_pos h1, if_pos ⟨h1.1, h1.2.1, by omega⟩]
    · rw [if_neg h1, if_neg (show ¬ (x = a ∧ y ≠ a ∧ y < a + 1) from by omega)]
theorem go_now (a k : Nat) (t : Int) (R : RT) (hk : k ≠ a) : (RT.go a t k R).now a k = R.now a k ∧ (RT.go a t k R).most a k = R.most a k ∧ (RT.go a t k R).now k a = R.now k a := by
  unfold RT.go
  dsimp only
  refine ⟨?_, ?_, ?_⟩
  · rw [if_neg (by omega), if_neg (by omega)]
  · rw [if_neg (by omega)]
  · rw [if_neg (by omega), if_neg (by omega)]
theorem go_next (a k : Nat) (t : Int) (R : RT) (hk : k ≠ a) (x y : Nat) :
    (if x = k ∧ y = a then max (R.now k a - 2 * t) 0 else if x = a ∧ y = k then R.now a k + t else (RT.go a t k R).now x y) = (RT.go a t (k + 1) R).now x y ∧
    (if x = a ∧ y = k then max (R.most a k) (R.now a k + t) else (RT.go a t k R).most x y) = (RT.go a t (k + 1) R).most x y := by
  unfold RT.go
  dsimp only
  constructor
  · by_cases h1 : x = k ∧ y = a
    · obtain ⟨rfl, rfl⟩ := h1
      rw [if_pos ⟨rfl, rfl⟩, if_neg (by omega), if_pos ⟨rfl, hk, by omega⟩]
    · rw [if_neg h1]
      by_cases h2 : x = a ∧ y = k
      · obtain ⟨rfl, rfl⟩ := h2
        rw [if_pos ⟨rfl, rfl⟩, if_pos ⟨rfl, hk, by omega⟩]
      · rw [if_neg h2]
        by_cases h3 : x = a ∧ y ≠ a ∧ y < k
        · rw [if_pos h3, if_pos ⟨h3.1, h3.2.1, by omega⟩]
        · rw [if_neg h3, if_neg (show ¬ (x = a ∧ y ≠ a ∧ y < k + 1) from by omega)]
          by_cases h4 : y = a ∧ x ≠ a ∧ x < k
          · rw [if_pos h4, if_pos ⟨h4.1, h4.2.1, by omega⟩]
          · rw [if_neg h4, if_neg (show ¬ (y = a ∧ x ≠ a ∧ x < k + 1) from by omega)]
  · by_cases h2 : x = a ∧ y = k
    · obtain ⟨rfl, rfl⟩ := h2
      rw [if_pos ⟨rfl, rfl⟩, if_pos ⟨rfl, hk, by omega⟩]
    · rw [if_neg h2]
      by_cases h3 : x = a ∧ y ≠ a ∧ y < k
      · rw [if_pos h3, if_pos ⟨h3.1, h3.2.1, by omega⟩]
      · rw [if_neg h3, if_neg (show ¬ (x = a ∧ y ≠ a ∧ y < k + 1) from by omega)]
/-- What two others' numbers are behind a clock's tick. -/
theorem GS.turn {w W : World} {g a k : Nat} {t x : Int} {R : RT} (h : GS w W g a t x k R) (hg : g < w.heap.size) (ha : a < 5) (hk5 : k < 5) (hk : k ≠ a) (q1 q2 q3 : Nat) :
    GS w ((((((W.drewN q1).setCell ⟨g, 6 + a * 10 + k * 2, none⟩ (.int .i64 (R.now a k + t))).drewN q2).setCell ⟨g, 6 + a * 10 + k * 2 + 1, none⟩ (.int .i64 (max (R.most a k) (R.now a k + t)))).drewN q3).setCell ⟨g, 6 + k * 10 + a * 2, none⟩ (.int .i64 (max (R.now k a - 2 * t) 0))) g a t x (k + 1) R := by
  have dn : ∀ (X : World) n, Below X.heap.size X (X.drewN n) := fun X n => ⟨rfl, rfl, rfl, Nat.le_refl _, fun _ _ => rfl⟩
  have e1 := ((((((h.rb.next (dn _ q1)).put_now a k ha hk5 (R.now a k + t)).next (dn _ q2)).put_most a k ha hk5 (max (R.most a k) (R.now a k + t))).next (dn _ q3)).put_now k a hk5 ha (max (R.now k a - 2 * t) 0))
  refine ⟨e1.congr (fun i _ => rfl) (fun x y _ _ => ?_), ?_, ?_⟩
  · exact go_next a k t R hk x y
  · exact (((((h.bx.drawn q1).beside (by dsimp only; omega) _).drawn q2).beside (by dsimp only; omega) _).drawn q3).beside (by dsimp only; omega) _
  · exact gb_trans (gb_trans (gb_trans (gb_trans (gb_trans (gb_trans h.gb (gb_drawn _ _ _)) (gb_set _ _ _ _)) (gb_drawn _ _ _)) (gb_set _ _ _ _)) (gb_drawn _ _ _)) (gb_set _ _ _ _)
end Go.Proofs.Ytkkhljneeajkmaa
