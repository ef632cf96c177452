/- Layer 38 (glob): is a part told itself, by definition. -/
import Derived.Test.YtfnjmboflegaaaaDoorGv
namespace Go.Proofs.YtfnjmboflegaaaaDoor
open Go.RowKit

set_option maxHeartbeats 2000000 in
theorem rplain_any (p : Prt) (hw : p.row = true → p.nt = true) (sv : Value) (hl : p.sp.length ≤ 200) (w : World) (h : SpR w sv p.sp) :
    Calls Tryd.prog 22 #[.agg #[.int .i64 (kdI p), sv]] w fun e w' => e = .returned (.bool (aloneS p).isSome) ∧ Below w.heap.size w w' := by
  obtain ⟨row, nt, sp⟩ := p
  dsimp only at *
  obtain ⟨sa, sc, rfl⟩ := own_form h
  cases nt with
  | true =>
    obtain ⟨kd, hkd⟩ : ∃ kd, kdI ⟨row, true, sp⟩ = kd := ⟨_, rfl⟩
    have t0 : (kd == 0) = false := by
      rw [← hkd, beq_eq_false_iff_ne]; unfold kdI
      cases row <;> simp
      split <;> omega
    have HE := Hid.mk' (show (aloneS ⟨row, true, sp⟩).isSome = false from rfl)
    have HB := Hid.mk' (show Below w.heap.size w (w.alloc (.cells #[.int .i64 kd, .slice sa sp.length sc] 51)) from (Below.refl _ _).alloc (Nat.le_refl _) _)
    rw [hkd]
    clear h hkd
    go_enter Tryd.func22, Tryd.ntmps22
    go_wp2_with fail
    go_quiet (fail)
    go_wp2_with fail
    go_ret
    exact ⟨by rw [HE.out]; rfl, below_gb HB.out (gb_drawn _ nq (some w.heap.size)) (Nat.le_refl _)⟩
  | false =>
    have hrow : row = false := by cases row with | false => rfl | true => exact absurd (hw rfl) (by simp)
    subst hrow
    rw [show kdI ⟨false, false, sp⟩ = 0 from rfl]
    have e0 : Below w.heap.size w (w.alloc (.cells #[.int .i64 0, .slice sa sp.length sc] 51)) := (Below.refl _ _).alloc (Nat.le_refl _) _
    have HB := Hid.mk' e0
    by_cases h1 : sp.length = 1
    · obtain ⟨⟨a, b⟩, rfl⟩ : ∃ x, sp = [x] := List.length_eq_one_iff.1 h1
      have hr := SpR.next h e0
      obtain ⟨g, cap, hv, hle, c0, c1⟩ := hr.at 0 (by simp)
      cases hv
      simp only [List.getElem_cons_zero, Nat.zero_mul, Nat.zero_add] at c0 c1
      simp only [List.length_singleton] at *
      by_cases hab : a = b
      · subst hab
        have HE := Hid.mk' (show (aloneS ⟨false, false, [(a, a)]⟩).isSome = true by simp [aloneS])
        clear h e0 hr hw
        go_enter Tryd.func22, Tryd.ntmps22
        go_wp2_with fail
        go_quiet (fail)
        go_wp2_with fail
        go_ret
        exact ⟨by rw [HE.out]; simp, below_gb HB.out (gb_drawn _ nq (some w.heap.size)) (Nat.le_refl _)⟩
      · have HE := Hid.mk' (show (aloneS ⟨false, false, [(a, b)]⟩).isSome = false by simp [aloneS, hab])
        have t1 : (a == b) = false := by simp [hab]
        clear h e0 hr hw
        go_enter Tryd.func22, Tryd.ntmps22
        go_wp2_with fail
        go_quiet (fail)
        go_wp2_with fail
        go_ret
        exact ⟨by rw [HE.out]; simp [hab], below_gb HB.out (gb_drawn _ nq (some w.heap.size)) (Nat.le_refl _)⟩
    · have HE := Hid.mk' (show (aloneS ⟨false, false, sp⟩).isSome = false by
        unfold aloneS
        match sp, h1 with
        | [], _ => rfl
        | [x], h1 => simp at h1
        | x :: y :: l, _ => rfl)
      have t1 : ((sp.length : Int) == 1) = false := by rw [beq_eq_false_iff_ne]; omega
      clear h e0 h1 hw
      go_enter Tryd.func22, Tryd.ntmps22
      go_wp2_with fail
      go_quiet (fail)
      go_wp2_with fail
      go_ret
      exact ⟨by rw [HE.out]; rfl, below_gb HB.out (gb_drawn _ nq (some w.heap.size)) (Nat.le_refl _)⟩
end Go.Proofs.YtfnjmboflegaaaaDoor
