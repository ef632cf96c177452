/- Layer 41 (skew): Go. -/
import Derived.Test.YtkkhljneeajkmaaC3
namespace Go.Proofs.Ytkkhljneeajkmaa
open Go.RowKit

theorem go_zero (a : Nat) (t : Int) (R : RT) : RT.go a t 0 R = { R with gone := fun x => if x = a then R.gone a + t else R.gone x } := by
  unfold RT.go
  congr 1
  · funext x
    by_cases h : x = a
    · subst h; simp
    · simp [h]
  · funext x y; rw [if_neg (by omega), if_neg (by omega)]
  · funext x y; rw [if_neg (by omega)]
theorem run_min3 (w : World) (ts : Array TypeId) (t : TypeId) (x y z : Int) : (Builtin.min_ ts t #[.int .i64 x, .int .i64 y, .int .i64 z]).run Try.prog w = .ok (.int .i64 (min (min x y) z)) w := by
  have e1 : (if y < x then y else x) = min x y := by rw [Int.min_def]; split <;> split <;> omega
  have e2 : (if z < min x y then z else min x y) = min (min x y) z := by rw [Int.min_def (min x y) z]; split <;> split <;> omega
  simp [Builtin.min_, Builtin.min2, e1, e2]
set_option maxRecDepth 100000 in
set_option maxHeartbeats 8000000 in
theorem sgo_any (g a : Nat) (x : Int) (R : RT) (hR : R.Ok 1000000) (ha : a < 5) (hx : x ≤ 64) (w : World) (h : RB w g R) :
    Calls Try.prog 69 #[.pointer (some ⟨g, 0, none⟩), .agg #[.int .i64 a, .int .i64 x]] w fun e w' => e = .returned (.tuple #[]) ∧ RB w' g (RT.go a (max x 0) 5 R) ∧ w.grownBy w' (some g) := by
  have hg : g < w.heap.size := h.inside
  have C1 := Lib.hid (fun W => there_any (a : Int) W)
  rw [thr_in ha] at C1
  have HA := Lib.hid ha
  have HG := Lib.hid hg
  have ha2 : (a : Int) < 5 := by omega
  obtain ⟨t, ht⟩ : ∃ t, t = max x 0 := ⟨_, rfl⟩
  rw [← ht]
  have ht1 : 0 ≤ t ∧ t ≤ 64 := by omega
  have hgn := hR.gone a
  have HK := Lib.hid hR
  clear hR
  have HB0 := Lib.hid (show Below w.heap.size w (w.alloc (.cells #[.int .i64 a, .int .i64 x] 107)) from (Below.refl _ _).alloc (Nat.le_refl _) _)
  have HR0 := Lib.hid (h.next HB0.out)
  have HX0 := Lib.hid (show Bx (w.alloc (.cells #[.int .i64 a, .int .i64 x] 107)) w.heap.size 107 #[.int .i64 a, .int .i64 x] from Bx.fresh w _ _)
  clear h
  have c0 := HR0.out.rgone a ha
  have f0 := HR0.out.fz (1 + a)
  generalize hgo : R.gone a = gn at *
  have HGO := Lib.hid hgo
  clear hgo
  obtain ⟨hgn1, hgn2⟩ := hgn
  obtain ⟨ht11, ht12⟩ := ht1
  have k0 := HX0.out.read (i := 0) rfl
  have k1 := HX0.out.read (i := 1) rfl
  have hw1 : IntKind.i64.wrap (1125899906842624 - gn) = 1125899906842624 - gn := IntWalk.i64_in _ (by omega)
  have hw2 : min (min (max x 0) 1099511627776) (1125899906842624 - gn) = t := by omega
  have hmin : ∀ W ts ty, (Builtin.min_ ts ty #[.int .i64 (max x 0), .int .i64 1099511627776, .int .i64 (1125899906842624 - gn)]).run Try.prog W = .ok (.int .i64 t) W := fun W ts ty => by rw [run_min3, hw2]
  clear hw2
  have hw3 : IntKind.i64.wrap (gn + t) = gn + t := IntWalk.i64_in _ (by omega)
  have HT := Lib.hid ht
  clear ht hg
  generalize hW1 : w.alloc (.cells #[.int .i64 a, .int .i64 x] 107) = W1 at *
  go_enter Try.func69, Try.ntmps69
  go_wp2_with fail
  refine (C1.out _).mono ?_; rintro e w2 ⟨rfl, rfl⟩
  go_wp2_with fail

  go_region
  go_wp2_with fail
  have HS0 := Lib.hid (show GS w ((w2.drewN 2).setCell ⟨g, 1 + a, none⟩ (.int .i64 (gn + t))) g a t x 0 R from by
    have dn : Below w2.heap.size w2 (w2.drewN 2) := ⟨rfl, rfl, rfl, Nat.le_refl _, fun _ _ => rfl⟩
    refine ⟨?_, (HX0.out.drawn 2).beside (by have := HG.out; dsimp only; omega) _, gb_trans (gb_trans (gb_below HB0.out _) (gb_drawn _ _ _)) (gb_set _ _ _ _)⟩
    rw [go_zero, HGO.out]
    exact (HR0.out.next dn).put_gone a HA.out (gn + t))
  refine region_tail 12 (by kernel_rfl) (by kernel_rfl) ?_
  simp only [List.take_succ_cons, List.take_zero, List.drop_succ_cons, List.drop_zero]
  repeat still_step
  refine wpStill_nil ?_
  go_wp2_with fail
  clear k0 k1 c0 f0 hw1 hmin hw3 hgn1 hgn2 C1
  go_loopw [34] (fun i wr => ∃ k : Nat, i = .int .i64 k ∧ k ≤ 5 ∧ Hid (GS w wr g a t x k R)) (fun i _ => 5 - (intOf i).toNat)
  case atStart => exact ⟨0, rfl, by omega, HS0⟩
  case round =>
    obtain ⟨k, rfl, hk, HS⟩ := hrel
    clear HS0 HR0 HX0 HB0
    obtain ⟨k0, k1⟩ := And.intro (HS.out.bx.read (i := 0) rfl) (HS.out.bx.read (i := 1) rfl)
    by_cases hlt : k < 5
    · have hi1 : (k : Int) < 5 := by omega
      by_cases hka : k = a
      · have e1 : ((k : Int) != (a : Int)) = false := by simp [hka]
        have HS1 := Lib.hid (show GS w wr g a t x (k + 1) R from ⟨by rw [hka, go_skip]; have := HS.out.rb; rwa [hka] at this, HS.out.bx, HS.out.gb⟩)
        clear hka
        go_wp2_with fail
        go_roundw
        case rel => exact ⟨k + 1, by go_num, by omega, HS1⟩
        case measure => simp [intOf]; omega
      · have hka2 : ¬ ((k : Int) = (a : Int)) := by omega
        have e1 : ((k : Int) != (a : Int)) = true := by simp [hka2]
        have HS1 := Lib.hid (fun q1 q2 q3 => HS.out.turn HG.out HA.out hlt hka q1 q2 q3)
        obtain ⟨g1, g2, g3⟩ := go_now a k t R hka
        have c1 := HS.out.rb.rnow a k HA.out hlt
        have c2 := HS.out.rb.rmost a k HA.out hlt
        have c3 := HS.out.rb.rnow k a hlt HA.out
        have c4 := HS.out.rb.rrho
        rw [g1] at c1
        rw [g2] at c2
        rw [g3] at c3
        have hb1 := HK.out.now a k
        have hb2 := HK.out.now k a
        have f1 := HS.out.rb.fz (6 + a * 10 + k * 2)
        have f2 := HS.out.rb.fz (6 + a * 10 + k * 2 + 1)
        have f3 := HS.out.rb.fz (6 + k * 10 + a * 2)
        clear g1 g2 g3
        go_wp2_with fail
        refine region_tail 9 (by kernel_rfl) (by kernel_rfl) ?_
        simp only [List.take_succ_cons, List.take_zero, List.drop_succ_cons, List.drop_zero]
        repeat still_step
        refine wpStill_nil ?_
        go_wp2_with fail
        refine (grow_any g (6 + a * 10 + k * 2) (R.now a k) (R.most a k) t ⟨hb1.1, by omega⟩ ⟨ht11, ht12⟩ wr.drew c1 c2 f1 f2).mono ?_
        rintro e w5 ⟨rfl, q, rfl⟩
        have HRB5 := Lib.hid (show RB (((wr.drew.setCell ⟨g, 6 + a * 10 + k * 2, none⟩ (.int .i64 (R.now a k + t))).drewN q).setCell ⟨g, 6 + a * 10 + k * 2 + 1, none⟩ (.int .i64 (max (R.most a k) (R.now a k + t)))) g { RT.go a t k R with now := fun u v => if u = a ∧ v = k then R.now a k + t else (RT.go a t k R).now u v, most := fun u v => if u = a ∧ v = k then max (R.most a k) (R.now a k + t) else (RT.go a t k R).most u v } from
          RB.put_most (RB.next (RB.put_now (RB.next HS.out.rb (show Below wr.heap.size wr wr.drew from ⟨rfl, rfl, rfl, Nat.le_refl _, fun _ _ => rfl⟩)) a k HA.out hlt (R.now a k + t)) ⟨rfl, rfl, rfl, Nat.le_refl _, fun _ _ => rfl⟩) a k HA.out hlt (max (R.most a k) (R.now a k + t)))
        have HBX5 := Lib.hid (show Bx (((wr.drew.setCell ⟨g, 6 + a * 10 + k * 2, none⟩ (.int .i64 (R.now a k + t))).drewN q).setCell ⟨g, 6 + a * 10 + k * 2 + 1, none⟩ (.int .i64 (max (R.most a k) (R.now a k + t)))) w.heap.size 107 #[.int .i64 a, .int .i64 x] from (((HS.out.bx.drawn 1).beside (by have := HG.out; dsimp only; omega) _).drawn q).beside (by have := HG.out; dsimp only; omega) _)
        have d3 := HRB5.out.rnow k a hlt HA.out
        dsimp only at d3
        rw [if_neg (by omega), (go_now a k t R hka).2.2] at d3
        have d4 := HRB5.out.rrho
        have h3 := HRB5.out.fz (6 + k * 10 + a * 2)
        obtain ⟨n0, n1⟩ := And.intro (HBX5.out.read (i := 0) rfl) (HBX5.out.read (i := 1) rfl)
        clear k0 k1 c1 c2 c3 c4 f1 f2 f3 HRB5 HBX5 HS hka
        generalize hW5 : (((wr.drew.setCell ⟨g, 6 + a * 10 + k * 2, none⟩ (.int .i64 (R.now a k + t))).drewN q).setCell ⟨g, 6 + a * 10 + k * 2 + 1, none⟩ (.int .i64 (max (R.most a k) (R.now a k + t)))) = W5 at *
        have HW5 := Lib.hid hW5
        clear hW5
        go_wp2_with fail
        refine region_tail 14 (by kernel_rfl) (by kernel_rfl) ?_
        simp only [List.take_succ_cons, List.take_zero, List.drop_succ_cons, List.drop_zero]
        repeat still_step
        refine wpStill_nil ?_
        go_wp2_with fail
        refine (shrink_any g (6 + k * 10 + a * 2) (R.now k a) (2 * t) ⟨hb2.1, by omega⟩ (by omega) W5.drew d3 h3).mono ?_
        rintro e w6 ⟨rfl, rfl⟩
        clear d3 d4 h3 n0 n1
        go_wp2_with fail
        go_roundw
        case rel => exact ⟨k + 1, by go_num, by omega, Lib.hid (by have := HS1.out 1 q 1; rw [← HW5.out]; exact this)⟩
        case measure => simp [intOf]; omega
    · have hi1 : ¬ (k : Int) < 5 := by omega
      have hk5 : k = 5 := by omega
      subst hk5
      go_wp2_with fail
      go_end0
      exact ⟨rfl, HS.out.rb, HS.out.gb⟩
end Go.Proofs.Ytkkhljneeajkmaa
