/- Layer 4 (stamp): Compare, the code's and the document's. -/
import Derived.Test.YtljhnkcoknikgaaOa
import Derived.StillTailTactics
import Derived.Outline
namespace Go.Proofs.Ytljhnkcoknikgaa
open Go.RowKit

theorem region_tail {P : Program} {id : Nat} {Q : Exit → Act → World → Prop} {a : Act} {w : World} {l : List Oper} (n : Nat) (hm : P.follows .mixedOrders = true) (hB : Region.lexTailB .any l.toArray n = true)
    (h : wpStill P l.toArray w.drew (fun a' => wpList P l.toArray Q (l.drop n) a' w.drew) (l.take n) a) : (Code.region id l.toArray true).wp P Q a w := wp_region_still_tail n hm hB h
def orI (p q r : Int) : Int := if p ≠ 0 then p else if q ≠ 0 then q else r
theorem cmpS_or (a b : St) : cmpS a b = orI (cmpI a.x b.x) (cmpI a.y b.y) (cmpI a.z b.z) := rfl
theorem or_any (p q r : Int) (b : Nat) (w : World) (hb : Bx w b 3 #[.int .i64 p, .int .i64 q, .int .i64 r]) :
    Calls Try.prog 64 #[.slice (some ⟨b, 0, none⟩) 3 3] w fun e w' => e = .returned (.int .i64 (orI p q r)) ∧ w = w' := by
  have c0 := hb.read (i := 0) rfl
  have c1 := hb.read (i := 1) rfl
  have c2 := hb.read (i := 2) rfl
  clear hb
  by_cases hp : p = 0
  · have h1 : (p != 0) = false := by simp [hp]
    by_cases hq : q = 0
    · have h2 : (q != 0) = false := by simp [hq]
      by_cases hr : r = 0
      · have h3 : (r != 0) = false := by simp [hr]
        have HR := Hid.mk' (show orI p q r = 0 by simp [orI, hp, hq, hr])
        clear hp hq hr
        go_enter Try.func64, Try.ntmps64
        go_wp2
        refine wp_loop_rounds 4 ?_
        repeat (rw [rounds_succ]; go_wp2)
        go_ret
        exact ⟨ret_int HR.out.symm, rfl⟩
      · have h3 : (r != 0) = true := by simp [hr]
        have HR := Hid.mk' (show orI p q r = r by simp [orI, hp, hq])
        clear hp hq hr
        go_enter Try.func64, Try.ntmps64
        go_wp2
        refine wp_loop_rounds 4 ?_
        repeat (rw [rounds_succ]; go_wp2)
        go_ret
        exact ⟨ret_int HR.out.symm, rfl⟩
    · have h2 : (q != 0) = true := by simp [hq]
      have HR := Hid.mk' (show orI p q r = q by simp [orI, hp, hq])
      clear hp hq
      go_enter Try.func64, Try.ntmps64
      go_wp2
      refine wp_loop_rounds 4 ?_
      repeat (rw [rounds_succ]; go_wp2)
      go_ret
      exact ⟨ret_int HR.out.symm, rfl⟩
  · have h1 : (p != 0) = true := by simp [hp]
    have HR := Hid.mk' (show orI p q r = p by simp [orI, hp])
    clear hp
    go_enter Try.func64, Try.ntmps64
    go_wp2
    refine wp_loop_rounds 4 ?_
    repeat (rw [rounds_succ]; go_wp2)
    go_ret
    exact ⟨ret_int HR.out.symm, rfl⟩

set_option maxRecDepth 100000 in
theorem compare_any (a b : St) (w : World) :
    Calls Try.prog 65 #[.agg a.cells, .agg b.cells] w fun e w' => e = .returned (.int .i64 (cmpS a b)) ∧ Below w.heap.size w w' := by
  obtain ⟨ax, ay, az⟩ := a
  obtain ⟨bx, b_y, bz⟩ := b
  rw [cmpS_or]
  unfold St.cells
  dsimp only
  go_enter Try.func65, Try.ntmps65
  go_wp2_with fail
  refine region_tail 15 (by kernel_rfl) (by kernel_rfl) ?_
  simp only [List.take_succ_cons, List.take_zero, List.drop_succ_cons, List.drop_zero]
  repeat (first | still_step | still_call (cmpint_same _ _ _))
  refine wpStill_nil ?_
  have below : Below w.heap.size w ((w.alloc (.cells #[.int .i64 ax, .int .i64 ay, .int .i64 az] 37)).alloc (.cells #[.int .i64 bx, .int .i64 b_y, .int .i64 bz] 37)).drew := (((Below.refl _ _).alloc (Nat.le_refl _) _).alloc (by simp) _).drew
  generalize ((w.alloc (.cells #[.int .i64 ax, .int .i64 ay, .int .i64 az] 37)).alloc (.cells #[.int .i64 bx, .int .i64 b_y, .int .i64 bz] 37)).drew = W at *
  go_wp2_with fail
  refine (or_any _ _ _ _ _ (Bx.fresh W _ _)).mono ?_; rintro e w' ⟨rfl, rfl⟩
  go_wp2_with fail
  go_ret
  exact ⟨rfl, below.alloc below.size _⟩
end Go.Proofs.Ytljhnkcoknikgaa
