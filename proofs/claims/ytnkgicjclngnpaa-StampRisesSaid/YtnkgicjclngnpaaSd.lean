/- Layer 4 (stamp): Less and Max, the code's and the document's. -/
import Derived.Test.YtnkgicjclngnpaaSc
import Derived.Lib.Hide
import Derived.Outline
namespace Go.Proofs.Ytnkgicjclngnpaa
open Go.RowKit

def lessS (a b : St) : Bool := decide (cmpS a b < 0)
def maxS (a b : St) : St := if cmpS a b < 0 then b else a
theorem cmpI_bd (x y : Int) : -1 ≤ cmpI x y ∧ cmpI x y ≤ 1 := by unfold cmpI; split <;> (try split) <;> omega
theorem cmpS_bd (a b : St) : -1 ≤ cmpS a b ∧ cmpS a b ≤ 1 := by
  have h1 := cmpI_bd a.x b.x
  have h2 := cmpI_bd a.y b.y
  have h3 := cmpI_bd a.z b.z
  unfold cmpS; split <;> (try split) <;> omega

theorem less_any (a b : St) (w : World) :
    Calls Try.prog 27 #[.agg a.cells, .agg b.cells] w fun e w' => e = .returned (.bool (lessS a b)) ∧ Below w.heap.size w w' := by
  have C := Hid.mk' (compare_any a b)
  unfold lessS
  generalize cmpS a b = k at *
  obtain ⟨ax, ay, az⟩ := a
  obtain ⟨bx, b_y, bz⟩ := b
  unfold St.cells at *
  dsimp only at *
  have below : Below w.heap.size w ((w.alloc (.cells #[.int .i64 ax, .int .i64 ay, .int .i64 az] 46)).alloc (.cells #[.int .i64 bx, .int .i64 b_y, .int .i64 bz] 46)) := (((Below.refl _ _).alloc (Nat.le_refl _) _).alloc (by simp) _)
  go_enter Try.func27, Try.ntmps27
  go_wp2_with fail
  refine (C.out _).mono ?_; rintro e w1 ⟨rfl, hb1⟩
  go_wp2_with fail
  go_ret
  exact ⟨rfl, bnext below hb1⟩
theorem refless_any (a b : St) (w : World) :
    Calls Try.prog 28 #[.agg a.cells, .agg b.cells] w fun e w' => e = .returned (.bool (lessS a b)) ∧ Below w.heap.size w w' := by
  have C := Hid.mk' (refcompare_any a b)
  unfold lessS
  generalize cmpS a b = k at *
  obtain ⟨ax, ay, az⟩ := a
  obtain ⟨bx, b_y, bz⟩ := b
  unfold St.cells at *
  dsimp only at *
  have below : Below w.heap.size w ((w.alloc (.cells #[.int .i64 ax, .int .i64 ay, .int .i64 az] 46)).alloc (.cells #[.int .i64 bx, .int .i64 b_y, .int .i64 bz] 46)) := (((Below.refl _ _).alloc (Nat.le_refl _) _).alloc (by simp) _)
  go_enter Try.func28, Try.ntmps28
  go_wp2_with fail
  refine (C.out _).mono ?_; rintro e w1 ⟨rfl, hb1⟩
  go_wp2_with fail
  go_ret
  exact ⟨rfl, bnext below hb1⟩
theorem max_any (a b : St) (w : World) :
    Calls Try.prog 29 #[.agg a.cells, .agg b.cells] w fun e w' => e = .returned (.agg (maxS a b).cells) ∧ Below w.heap.size w w' := by
  have C := Hid.mk' (less_any a b)
  unfold lessS at C
  unfold maxS
  by_cases hk : cmpS a b < 0
  · rw [if_pos hk]
    rw [decide_eq_true hk] at C
    clear hk
    obtain ⟨ax, ay, az⟩ := a
    obtain ⟨bx, b_y, bz⟩ := b
    unfold St.cells at *
    dsimp only at *
    have bA := ((Bx.fresh w 46 #[.int .i64 ax, .int .i64 ay, .int .i64 az]).past (.cells #[.int .i64 bx, .int .i64 b_y, .int .i64 bz] 46)).past (.cells #[.int .i64 0, .int .i64 0, .int .i64 0] 46)
    have bB := (Bx.fresh' (w.alloc (.cells #[.int .i64 ax, .int .i64 ay, .int .i64 az] 46)) (n := w.heap.size + 1) (by simp) 46 #[.int .i64 bx, .int .i64 b_y, .int .i64 bz]).past (.cells #[.int .i64 0, .int .i64 0, .int .i64 0] 46)
    have bR := Bx.fresh' ((w.alloc (.cells #[.int .i64 ax, .int .i64 ay, .int .i64 az] 46)).alloc (.cells #[.int .i64 bx, .int .i64 b_y, .int .i64 bz] 46)) (n := w.heap.size + 1 + 1) (by simp) 46 #[.int .i64 0, .int .i64 0, .int .i64 0]
    have below : Below w.heap.size w (((w.alloc (.cells #[.int .i64 ax, .int .i64 ay, .int .i64 az] 46)).alloc (.cells #[.int .i64 bx, .int .i64 b_y, .int .i64 bz] 46)).alloc (.cells #[.int .i64 0, .int .i64 0, .int .i64 0] 46)) := (((Below.refl _ _).alloc (Nat.le_refl _) _).alloc (by simp) _).alloc (by simp; omega) _
    have hW := Lib.hid (show w.heap.size ≤ w.heap.size + 1 + 1 by omega)
    go_enter Try.func29, Try.ntmps29
    go_wp2_with fail
    generalize (((w.alloc (.cells #[.int .i64 ax, .int .i64 ay, .int .i64 az] 46)).alloc (.cells #[.int .i64 bx, .int .i64 b_y, .int .i64 bz] 46)).alloc (.cells #[.int .i64 0, .int .i64 0, .int .i64 0] 46)) = W at *
    refine (C.out _).mono ?_; rintro e w1 ⟨rfl, hb1⟩
    have bA1 := bA.next hb1
    have bB1 := bB.next hb1
    have bR1 := bR.next hb1
    have below1 := bnext below hb1
    clear bA bB bR below hb1
    obtain ⟨a0, a1, a2⟩ := bA1.reads3
    obtain ⟨b0, b1, b2⟩ := bB1.reads3
    obtain ⟨r0, r1, r2⟩ := bR1.reads3
    obtain ⟨f0, f1, f2⟩ := bR1.opens3
    have R := Hid.mk' (bR1.put3 (x := .int .i64 bx) (y := .int .i64 b_y) (z := .int .i64 bz)).reads3
    clear bA1 bB1 bR1
    go_wp2_with fail
    obtain ⟨s0, s1, s2⟩ := R.out
    exact bodyPost_ret (v := .agg #[.int .i64 bx, .int .i64 b_y, .int .i64 bz]) (by simp [results, Try.results29, go_sem, s0, s1, s2]) rfl ⟨rfl, ((below1.setCell hW.out _).setCell hW.out _).setCell hW.out _⟩
  · rw [if_neg hk]
    rw [decide_eq_false hk] at C
    clear hk
    obtain ⟨ax, ay, az⟩ := a
    obtain ⟨bx, b_y, bz⟩ := b
    unfold St.cells at *
    dsimp only at *
    have bA := ((Bx.fresh w 46 #[.int .i64 ax, .int .i64 ay, .int .i64 az]).past (.cells #[.int .i64 bx, .int .i64 b_y, .int .i64 bz] 46)).past (.cells #[.int .i64 0, .int .i64 0, .int .i64 0] 46)
    have bB := (Bx.fresh' (w.alloc (.cells #[.int .i64 ax, .int .i64 ay, .int .i64 az] 46)) (n := w.heap.size + 1) (by simp) 46 #[.int .i64 bx, .int .i64 b_y, .int .i64 bz]).past (.cells #[.int .i64 0, .int .i64 0, .int .i64 0] 46)
    have bR := Bx.fresh' ((w.alloc (.cells #[.int .i64 ax, .int .i64 ay, .int .i64 az] 46)).alloc (.cells #[.int .i64 bx, .int .i64 b_y, .int .i64 bz] 46)) (n := w.heap.size + 1 + 1) (by simp) 46 #[.int .i64 0, .int .i64 0, .int .i64 0]
    have below : Below w.heap.size w (((w.alloc (.cells #[.int .i64 ax, .int .i64 ay, .int .i64 az] 46)).alloc (.cells #[.int .i64 bx, .int .i64 b_y, .int .i64 bz] 46)).alloc (.cells #[.int .i64 0, .int .i64 0, .int .i64 0] 46)) := (((Below.refl _ _).alloc (Nat.le_refl _) _).alloc (by simp) _).alloc (by simp; omega) _
    have hW := Lib.hid (show w.heap.size ≤ w.heap.size + 1 + 1 by omega)
    go_enter Try.func29, Try.ntmps29
    go_wp2_with fail
    generalize (((w.alloc (.cells #[.int .i64 ax, .int .i64 ay, .int .i64 az] 46)).alloc (.cells #[.int .i64 bx, .int .i64 b_y, .int .i64 bz] 46)).alloc (.cells #[.int .i64 0, .int .i64 0, .int .i64 0] 46)) = W at *
    refine (C.out _).mono ?_; rintro e w1 ⟨rfl, hb1⟩
    have bA1 := bA.next hb1
    have bB1 := bB.next hb1
    have bR1 := bR.next hb1
    have below1 := bnext below hb1
    clear bA bB bR below hb1
    obtain ⟨a0, a1, a2⟩ := bA1.reads3
    obtain ⟨b0, b1, b2⟩ := bB1.reads3
    obtain ⟨r0, r1, r2⟩ := bR1.reads3
    obtain ⟨f0, f1, f2⟩ := bR1.opens3
    have R := Hid.mk' (bR1.put3 (x := .int .i64 ax) (y := .int .i64 ay) (z := .int .i64 az)).reads3
    clear bA1 bB1 bR1
    go_wp2_with fail
    obtain ⟨s0, s1, s2⟩ := R.out
    exact bodyPost_ret (v := .agg #[.int .i64 ax, .int .i64 ay, .int .i64 az]) (by simp [results, Try.results29, go_sem, s0, s1, s2]) rfl ⟨rfl, ((below1.setCell hW.out _).setCell hW.out _).setCell hW.out _⟩
theorem refmax_any (a b : St) (w : World) :
    Calls Try.prog 30 #[.agg a.cells, .agg b.cells] w fun e w' => e = .returned (.agg (maxS a b).cells) ∧ Below w.heap.size w w' := by
  have C := Hid.mk' (refcompare_any a b)
  unfold maxS
  by_cases hk : cmpS a b < 0
  · rw [if_pos hk]
    generalize cmpS a b = k at *
    obtain ⟨ax, ay, az⟩ := a
    obtain ⟨bx, b_y, bz⟩ := b
    unfold St.cells at *
    dsimp only at *
    have bA := ((Bx.fresh w 46 #[.int .i64 ax, .int .i64 ay, .int .i64 az]).past (.cells #[.int .i64 bx, .int .i64 b_y, .int .i64 bz] 46)).past (.cells #[.int .i64 0, .int .i64 0, .int .i64 0] 46)
    have bB := (Bx.fresh' (w.alloc (.cells #[.int .i64 ax, .int .i64 ay, .int .i64 az] 46)) (n := w.heap.size + 1) (by simp) 46 #[.int .i64 bx, .int .i64 b_y, .int .i64 bz]).past (.cells #[.int .i64 0, .int .i64 0, .int .i64 0] 46)
    have bR := Bx.fresh' ((w.alloc (.cells #[.int .i64 ax, .int .i64 ay, .int .i64 az] 46)).alloc (.cells #[.int .i64 bx, .int .i64 b_y, .int .i64 bz] 46)) (n := w.heap.size + 1 + 1) (by simp) 46 #[.int .i64 0, .int .i64 0, .int .i64 0]
    have below : Below w.heap.size w (((w.alloc (.cells #[.int .i64 ax, .int .i64 ay, .int .i64 az] 46)).alloc (.cells #[.int .i64 bx, .int .i64 b_y, .int .i64 bz] 46)).alloc (.cells #[.int .i64 0, .int .i64 0, .int .i64 0] 46)) := (((Below.refl _ _).alloc (Nat.le_refl _) _).alloc (by simp) _).alloc (by simp; omega) _
    have hW := Lib.hid (show w.heap.size ≤ w.heap.size + 1 + 1 by omega)
    go_enter Try.func30, Try.ntmps30
    go_wp2_with fail
    generalize (((w.alloc (.cells #[.int .i64 ax, .int .i64 ay, .int .i64 az] 46)).alloc (.cells #[.int .i64 bx, .int .i64 b_y, .int .i64 bz] 46)).alloc (.cells #[.int .i64 0, .int .i64 0, .int .i64 0] 46)) = W at *
    refine (C.out _).mono ?_; rintro e w1 ⟨rfl, hb1⟩
    have bA1 := bA.next hb1
    have bB1 := bB.next hb1
    have bR1 := bR.next hb1
    have below1 := bnext below hb1
    clear bA bB bR below hb1
    obtain ⟨a0, a1, a2⟩ := bA1.reads3
    obtain ⟨b0, b1, b2⟩ := bB1.reads3
    obtain ⟨r0, r1, r2⟩ := bR1.reads3
    obtain ⟨f0, f1, f2⟩ := bR1.opens3
    have R := Hid.mk' (bR1.put3 (x := .int .i64 bx) (y := .int .i64 b_y) (z := .int .i64 bz)).reads3
    clear bA1 bB1 bR1
    go_wp2_with fail
    obtain ⟨s0, s1, s2⟩ := R.out
    exact bodyPost_ret (v := .agg #[.int .i64 bx, .int .i64 b_y, .int .i64 bz]) (by simp [results, Try.results30, go_sem, s0, s1, s2]) rfl ⟨rfl, ((below1.setCell hW.out _).setCell hW.out _).setCell hW.out _⟩
  · rw [if_neg hk]
    generalize cmpS a b = k at *
    obtain ⟨ax, ay, az⟩ := a
    obtain ⟨bx, b_y, bz⟩ := b
    unfold St.cells at *
    dsimp only at *
    have bA := ((Bx.fresh w 46 #[.int .i64 ax, .int .i64 ay, .int .i64 az]).past (.cells #[.int .i64 bx, .int .i64 b_y, .int .i64 bz] 46)).past (.cells #[.int .i64 0, .int .i64 0, .int .i64 0] 46)
    have bB := (Bx.fresh' (w.alloc (.cells #[.int .i64 ax, .int .i64 ay, .int .i64 az] 46)) (n := w.heap.size + 1) (by simp) 46 #[.int .i64 bx, .int .i64 b_y, .int .i64 bz]).past (.cells #[.int .i64 0, .int .i64 0, .int .i64 0] 46)
    have bR := Bx.fresh' ((w.alloc (.cells #[.int .i64 ax, .int .i64 ay, .int .i64 az] 46)).alloc (.cells #[.int .i64 bx, .int .i64 b_y, .int .i64 bz] 46)) (n := w.heap.size + 1 + 1) (by simp) 46 #[.int .i64 0, .int .i64 0, .int .i64 0]
    have below : Below w.heap.size w (((w.alloc (.cells #[.int .i64 ax, .int .i64 ay, .int .i64 az] 46)).alloc (.cells #[.int .i64 bx, .int .i64 b_y, .int .i64 bz] 46)).alloc (.cells #[.int .i64 0, .int .i64 0, .int .i64 0] 46)) := (((Below.refl _ _).alloc (Nat.le_refl _) _).alloc (by simp) _).alloc (by simp; omega) _
    have hW := Lib.hid (show w.heap.size ≤ w.heap.size + 1 + 1 by omega)
    go_enter Try.func30, Try.ntmps30
    go_wp2_with fail
    generalize (((w.alloc (.cells #[.int .i64 ax, .int .i64 ay, .int .i64 az] 46)).alloc (.cells #[.int .i64 bx, .int .i64 b_y, .int .i64 bz] 46)).alloc (.cells #[.int .i64 0, .int .i64 0, .int .i64 0] 46)) = W at *
    refine (C.out _).mono ?_; rintro e w1 ⟨rfl, hb1⟩
    have bA1 := bA.next hb1
    have bB1 := bB.next hb1
    have bR1 := bR.next hb1
    have below1 := bnext below hb1
    clear bA bB bR below hb1
    obtain ⟨a0, a1, a2⟩ := bA1.reads3
    obtain ⟨b0, b1, b2⟩ := bB1.reads3
    obtain ⟨r0, r1, r2⟩ := bR1.reads3
    obtain ⟨f0, f1, f2⟩ := bR1.opens3
    have R := Hid.mk' (bR1.put3 (x := .int .i64 ax) (y := .int .i64 ay) (z := .int .i64 az)).reads3
    clear bA1 bB1 bR1
    go_wp2_with fail
    obtain ⟨s0, s1, s2⟩ := R.out
    exact bodyPost_ret (v := .agg #[.int .i64 ax, .int .i64 ay, .int .i64 az]) (by simp [results, Try.results30, go_sem, s0, s1, s2]) rfl ⟨rfl, ((below1.setCell hW.out _).setCell hW.out _).setCell hW.out _⟩
end Go.Proofs.Ytnkgicjclngnpaa
