/- Layer 32 (quorum): Need, Meets, and the law's own need; the statement QuorumNeeds' walk. -/
import Derived.Test.YtoidloofclalhabJ1
import Derived.Test.YtoidloofclalhabProg
import Derived.Test.YtoidloofclalhabChecked
import Derived.WalkKit
import Derived.WalkSmall
import Derived.WalkSpells
import Derived.Outline
import Derived.Lib.Hide
namespace Go.Proofs.Ytoidloofclalhab
open Go.RowKit

theorem ret_nd {a c : Int} {b d : Bool} (h : a = c) (h2 : b = d) : Ending.returned (.tuple #[.int .i64 a, .bool b]) = .returned (.tuple #[.int .i64 c, .bool d]) := by rw [h, h2]
theorem need_any (l c : Int) (hc : c ≤ 9223372036854775807) (w : World) :
    Calls Try.prog 12 #[.int .i64 l, .int .i64 c] w fun e w' => e = .returned (.tuple #[.int .i64 (ndN l c), .bool (ndB l c)]) ∧ w = w' := by
  by_cases h1 : c < 1
  · go_enter Try.func12, Try.ntmps12
    go_wp2_with fail
    go_ret2
    exact ⟨ret_nd (by unfold ndN; rw [if_pos (by omega)]) (by unfold ndB; simp; omega), rfl⟩
  · have h1' : 1 ≤ c := by omega
    have h0 : 0 ≤ c := by omega
    by_cases l1 : l = 1
    · subst l1
      go_enter Try.func12, Try.ntmps12
      go_wp2_with fail
      go_ret2
      exact ⟨ret_nd (by unfold ndN; rw [if_neg (by omega)]; simp) (by unfold ndB; simp; omega), rfl⟩
    · by_cases l2 : l = 2
      · subst l2
        go_enter Try.func12, Try.ntmps12
        go_wp2_with fail
        go_ret2
        exact ⟨ret_nd (by unfold ndN; rw [if_neg (by omega)]; simp) (by unfold ndB; simp; omega), rfl⟩
      · by_cases l3 : l = 3
        · subst l3
          go_enter Try.func12, Try.ntmps12
          go_wp2_with fail
          go_ret2
          exact ⟨ret_nd (by unfold ndN; rw [if_neg (by omega)]; simp) (by unfold ndB; simp; omega), rfl⟩
        · have e1 : (l == 1) = false := by simpa using l1
          have e2 : (l == 2) = false := by simpa using l2
          have e3 : (l == 3) = false := by simpa using l3
          go_enter Try.func12, Try.ntmps12
          go_wp2_with fail
          go_ret2
          exact ⟨ret_nd (by unfold ndN; rw [if_neg (by omega), if_neg (by omega), if_neg (by omega), if_neg (by omega)]) (by unfold ndB; simp; omega), rfl⟩
theorem lneed_any (l c : Int) (hc : c ≤ 9223372036854775807) (w : World) :
    Calls Try.prog 13 #[.int .i64 l, .int .i64 c] w fun e w' => e = .returned (.tuple #[.int .i64 (ndN l c), .bool (ndB l c)]) ∧ w = w' := by
  by_cases h1 : c < 1
  · go_enter Try.func13, Try.ntmps13
    go_wp2_with fail
    go_ret2
    exact ⟨ret_nd (by unfold ndN; rw [if_pos (by omega)]) (by unfold ndB; simp; omega), rfl⟩
  · have h1' : 1 ≤ c := by omega
    have h0 : 0 ≤ c := by omega
    by_cases hl : l < 1
    · go_enter Try.func13, Try.ntmps13
      go_wp2_with fail
      go_ret2
      exact ⟨ret_nd (by unfold ndN; rw [if_neg (by omega), if_neg (by omega), if_neg (by omega), if_neg (by omega)]) (by unfold ndB; simp; omega), rfl⟩
    · by_cases hl3 : 3 < l
      · go_enter Try.func13, Try.ntmps13
        go_wp2_with fail
        go_ret2
        exact ⟨ret_nd (by unfold ndN; rw [if_neg (by omega), if_neg (by omega), if_neg (by omega), if_neg (by omega)]) (by unfold ndB; simp; omega), rfl⟩
      · have h3 : l = 1 ∨ l = 2 ∨ l = 3 := by omega
        clear hl hl3
        have i1 : ∀ w, (Instr.index 74 (.agg #[.int .i64 0, .int .i64 1, .int .i64 (c / 2 + 1), .int .i64 c]) (.int .i64 1)).run Try.prog w = .ok (.int .i64 1) w := fun _ => by kernel_rfl
        have i2 : ∀ w, (Instr.index 74 (.agg #[.int .i64 0, .int .i64 1, .int .i64 (c / 2 + 1), .int .i64 c]) (.int .i64 2)).run Try.prog w = .ok (.int .i64 (c / 2 + 1)) w := fun _ => by kernel_rfl
        have i3 : ∀ w, (Instr.index 74 (.agg #[.int .i64 0, .int .i64 1, .int .i64 (c / 2 + 1), .int .i64 c]) (.int .i64 3)).run Try.prog w = .ok (.int .i64 c) w := fun _ => by kernel_rfl
        rcases h3 with rfl | rfl | rfl
        all_goals
          go_enter Try.func13, Try.ntmps13
          go_wp2_with fail
          go_ret2
          exact ⟨ret_nd (by unfold ndN; rw [if_neg (by omega)]; simp) (by unfold ndB; simp; omega), rfl⟩
theorem meets_any (a b c : Int) (hc : c ≤ 9223372036854775807) (w : World) :
    Calls Try.prog 15 #[.int .i64 a, .int .i64 b, .int .i64 c] w fun e w' => e = .returned (.bool (mtB a b c)) ∧ w = w' := by
  have HA := Hid.mk' (need_any a c hc w)
  have HC := Hid.mk' (need_any b c hc w)
  have ba := nd_bd a c
  have bb := nd_bd b c
  have hb3 : ndB b c = true → 1 ≤ c := fun h => by have := bb h; omega
  have hm : mtB a b c = (ndB a c && ndB b c && decide (c - ndN b c < ndN a c)) := rfl
  generalize mtB a b c = r at *
  generalize ndB a c = x at *
  generalize ndB b c = y at *
  generalize ndN a c = n at *
  generalize ndN b c = m at *
  cases x with
  | false =>
    clear ba bb hb3
    have hm' : r = false := by simpa using hm
    subst hm'
    clear hm
    go_enter Try.func15, Try.ntmps15
    go_wp2_with fail
    refine (HA.out).mono ?_; rintro e w1 ⟨rfl, rfl⟩
    go_wp2_with fail
    refine (HC.out).mono ?_; rintro e w1 ⟨rfl, rfl⟩
    go_wp2_with fail
    go_ret
    exact ⟨rfl, rfl⟩
  | true =>
    obtain ⟨ba1, ba2⟩ := ba rfl
    clear ba
    cases y with
    | false =>
      clear bb hb3
      have hm' : r = false := by simpa using hm
      subst hm'
      clear hm
      go_enter Try.func15, Try.ntmps15
      go_wp2_with fail
      refine (HA.out).mono ?_; rintro e w1 ⟨rfl, rfl⟩
      go_wp2_with fail
      refine (HC.out).mono ?_; rintro e w1 ⟨rfl, rfl⟩
      go_wp2_with fail
      go_ret
      exact ⟨rfl, rfl⟩
    | true =>
      obtain ⟨bb1, bb2⟩ := bb rfl
      have hm' : r = decide (c - m < n) := by simpa using hm
      have HM := Lib.hid hm'
      clear hm hm'
      clear bb hb3
      go_enter Try.func15, Try.ntmps15
      go_wp2_with fail
      refine (HA.out).mono ?_; rintro e w1 ⟨rfl, rfl⟩
      go_wp2_with fail
      refine (HC.out).mono ?_; rintro e w1 ⟨rfl, rfl⟩
      go_wp2_with fail
      go_ret
      exact ⟨by rw [HM.out]; rfl, rfl⟩
theorem alive32_any (w : World) : Calls Try.prog 14 #[] w fun e w' => e = .returned (.bool true) ∧ w = w' := by
  have H1 := Hid.mk' (need_any 2 3 (by omega) w)
  have H2 := Hid.mk' (meets_any 2 2 4 (by omega) w)
  have H3 := Hid.mk' (meets_any 1 3 3 (by omega) w)
  have H4 := Hid.mk' (meets_any 1 1 2 (by omega) w)
  rw [show ndN 2 3 = 2 from by decide, show ndB 2 3 = true from by decide] at H1
  rw [show mtB 2 2 4 = true from by decide] at H2
  rw [show mtB 1 3 3 = true from by decide] at H3
  rw [show mtB 1 1 2 = false from by decide] at H4
  go_enter Try.func14, Try.ntmps14
  go_wp2_with fail
  refine (H1.out).mono ?_; rintro e w1 ⟨rfl, rfl⟩
  go_wp2_with fail
  refine (H2.out).mono ?_; rintro e w1 ⟨rfl, rfl⟩
  go_wp2_with fail
  refine (H3.out).mono ?_; rintro e w1 ⟨rfl, rfl⟩
  go_wp2_with fail
  refine (H4.out).mono ?_; rintro e w1 ⟨rfl, rfl⟩
  go_wp2_with fail
  go_ret
  exact ⟨rfl, rfl⟩
theorem needslaw (l c : Int) (hc : c ≤ 9223372036854775807) (w : World) :
    Calls Try.prog 3 #[.int .i64 l, .int .i64 c] w fun e w' => e = .returned (.bool true) ∧ Below w.heap.size w w' := by
  have H1 := Hid.mk' (need_any l c hc w)
  have H2 := Hid.mk' (lneed_any l c hc w)
  generalize ndN l c = n at *
  generalize ndB l c = b at *
  go_enter Try.func3, Try.ntmps3
  go_wp2_with fail
  refine (H1.out).mono ?_; rintro e w1 ⟨rfl, rfl⟩
  go_wp2_with fail
  refine (H2.out).mono ?_; rintro e w1 ⟨rfl, rfl⟩
  go_wp2_with fail
  refine (alive32_any _).mono ?_; rintro e w1 ⟨rfl, rfl⟩
  go_wp2_with fail
  go_ret
  exact ⟨rfl, Below.refl _ _⟩
end Go.Proofs.Ytoidloofclalhab
