/- Layer 38 (glob): the only rune of a part, by the code. -/
import Derived.Test.YtfnjmboflegaaaaDoorGm
namespace Go.Proofs.YtfnjmboflegaaaaDoor
open Go.RowKit

def aloneS (p : Prt) : Option Int := if p.nt = true then none else match p.sp with | [(a, b)] => if a = b then some a else none | _ => none
def AlonePost (w : World) (o : Option Int) (e : Ending) (w' : World) : Prop := e = .returned (.tuple #[.int .i32 (o.getD 0), .bool o.isSome]) ∧ Below w.heap.size w w'
set_option maxHeartbeats 2000000 in
theorem alone_any (p : Prt) (sv : Value) (hl : p.sp.length ≤ 200) (w : World) (h : SpO w sv p.sp) :
    Calls Tryd.prog 23 #[.agg #[.bool p.row, .bool p.nt, sv]] w (AlonePost w (aloneS p)) := by
  obtain ⟨row, nt, sp⟩ := p
  dsimp only at *
  obtain ⟨sa, sc, rfl⟩ := own_form h
  have e0 : Below w.heap.size w (w.alloc (.cells #[.bool row, .bool nt, .slice sa sp.length sc] 57)) := (Below.refl _ _).alloc (Nat.le_refl _) _
  cases nt with
  | true =>
    have HE := Hid.mk' (show aloneS ⟨row, true, sp⟩ = none from rfl)
    have HB := Hid.mk' e0
    clear h e0
    go_enter Tryd.func23, Tryd.ntmps23
    go_wp2_with fail
    go_quiet (fail)
    go_wp2_with fail
    exact bodyPost_ret (v := .tuple #[.int .i32 0, .bool false]) (by simp [results, Tryd.results23, go_sem]) rfl ⟨by rw [HE.out]; rfl, below_gb HB.out (gb_drawn _ nq (some w.heap.size)) (Nat.le_refl _)⟩
  | false =>
    by_cases h1 : sp.length = 1
    · obtain ⟨⟨a, b⟩, rfl⟩ : ∃ x, sp = [x] := List.length_eq_one_iff.1 h1
      have hr := SpO.next h e0
      obtain ⟨g, cap, hv, hle, c0, c1⟩ := hr.at 0 (by simp)
      cases hv
      simp only [List.getElem_cons_zero, Nat.zero_mul, Nat.zero_add] at c0 c1
      simp only [List.length_singleton] at *
      by_cases hab : a = b
      · subst hab
        have HE := Hid.mk' (show aloneS ⟨row, false, [(a, a)]⟩ = some a by simp [aloneS])
        have HB := Hid.mk' e0
        clear h e0 hr
        go_enter Tryd.func23, Tryd.ntmps23
        go_wp2_with fail
        go_quiet (fail)
        go_wp2_with fail
        exact bodyPost_ret (v := .tuple #[.int .i32 a, .bool true]) (by simp [results, Tryd.results23, go_sem]) rfl ⟨by rw [HE.out]; rfl, below_gb HB.out (gb_drawn _ nq (some w.heap.size)) (Nat.le_refl _)⟩
      · have HE := Hid.mk' (show aloneS ⟨row, false, [(a, b)]⟩ = none by simp [aloneS, hab])
        have HB := Hid.mk' e0
        have t1 : (a != b) = true := by simp [hab]
        have t2 : decide (a = b) = false := by simp [hab]
        clear h e0 hr
        go_enter Tryd.func23, Tryd.ntmps23
        go_wp2_with fail
        go_quiet (fail)
        go_wp2_with fail
        exact bodyPost_ret (v := .tuple #[.int .i32 0, .bool false]) (by simp [results, Tryd.results23, go_sem]) rfl ⟨by rw [HE.out]; rfl, below_gb HB.out (gb_drawn _ nq (some w.heap.size)) (Nat.le_refl _)⟩
    · have HE := Hid.mk' (show aloneS ⟨row, false, sp⟩ = none by
        unfold aloneS
        match sp, h1 with
        | [], _ => rfl
        | [x], h1 => simp at h1
        | x :: y :: l, _ => rfl)
      have HB := Hid.mk' e0
      have t1 : ((sp.length : Int) != 1) = true := by simp; omega
      clear h e0 h1
      go_enter Tryd.func23, Tryd.ntmps23
      go_wp2_with fail
      go_quiet (fail)
      go_wp2_with fail
      exact bodyPost_ret (v := .tuple #[.int .i32 0, .bool false]) (by simp [results, Tryd.results23, go_sem]) rfl ⟨by rw [HE.out]; rfl, below_gb HB.out (gb_drawn _ nq (some w.heap.size)) (Nat.le_refl _)⟩
end Go.Proofs.YtfnjmboflegaaaaDoor
