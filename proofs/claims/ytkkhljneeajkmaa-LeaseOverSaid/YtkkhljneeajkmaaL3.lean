/- Layer 23 (lease): the statement LeaseOver's walk. -/
import Derived.Test.YtkkhljneeajkmaaL2
namespace Go.Proofs.Ytkkhljneeajkmaa
open Go.RowKit

theorem over_plain (G L W N : Int) (hG : 0 ≤ G ∧ G ≤ 274877906944) (hL : 0 ≤ L ∧ L ≤ 274877906944) (hW : 0 ≤ W ∧ W ≤ 274877906944) (hN : 0 ≤ N ∧ N ≤ 274877906944) (h : W - 4 ≤ 2 * N) :
    readyI (L + W) L = false ∨ (readyI (L + W) L = true ∧ lvalid (grI G) (G + N) = false) := by
  rw [ready_over L W hL hW]
  by_cases h20 : 20 ≤ W
  · refine .inr ⟨decide_eq_true h20, ?_⟩
    unfold lvalid grI
    rw [decide_eq_false_iff_not]
    omega
  · exact .inl (decide_eq_false h20)
set_option maxHeartbeats 4000000 in
theorem overlaw (G L W N : Int) (w : World) :
    Calls Try.prog 4 #[.agg #[.int .i64 G, .int .i64 L, .int .i64 W, .int .i64 N]] w fun r w' => r = .returned (.bool true) ∧ Below w.heap.size w w' := by
  have HB := Lib.hid (show Below w.heap.size w (w.alloc (.cells #[.int .i64 G, .int .i64 L, .int .i64 W, .int .i64 N] 26)) from (Below.refl _ _).alloc (Nat.le_refl _) _)
  by_cases hG : 0 ≤ G ∧ G ≤ 274877906944
  rotate_left
  · by_cases h0 : G < 0
    · go_enter Try.func4, Try.ntmps4
      go_wp2_with fail
      go_ret
      exact ⟨rfl, HB.out⟩
    · have h1 : 274877906944 < G := by omega
      go_enter Try.func4, Try.ntmps4
      go_wp2_with fail
      go_ret
      exact ⟨rfl, HB.out⟩
  obtain ⟨g1, g2⟩ := hG
  by_cases hL : 0 ≤ L ∧ L ≤ 274877906944
  rotate_left
  · by_cases h0 : L < 0
    · go_enter Try.func4, Try.ntmps4
      go_wp2_with fail
      go_ret
      exact ⟨rfl, HB.out⟩
    · have h1 : 274877906944 < L := by omega
      go_enter Try.func4, Try.ntmps4
      go_wp2_with fail
      go_ret
      exact ⟨rfl, HB.out⟩
  obtain ⟨l1, l2⟩ := hL
  by_cases hW : 0 ≤ W ∧ W ≤ 274877906944
  rotate_left
  · by_cases h0 : W < 0
    · go_enter Try.func4, Try.ntmps4
      go_wp2_with fail
      go_ret
      exact ⟨rfl, HB.out⟩
    · have h1 : 274877906944 < W := by omega
      go_enter Try.func4, Try.ntmps4
      go_wp2_with fail
      go_ret
      exact ⟨rfl, HB.out⟩
  obtain ⟨w1, w2⟩ := hW
  by_cases hN : 0 ≤ N ∧ N ≤ 274877906944
  rotate_left
  · by_cases h0 : N < 0
    · go_enter Try.func4, Try.ntmps4
      go_wp2_with fail
      go_ret
      exact ⟨rfl, HB.out⟩
    · have h1 : 274877906944 < N := by omega
      go_enter Try.func4, Try.ntmps4
      go_wp2_with fail
      go_ret
      exact ⟨rfl, HB.out⟩
  obtain ⟨n1, n2⟩ := hN
  by_cases hX : 2 * N < W - 4
  · go_enter Try.func4, Try.ntmps4
    go_wp2_with fail
    go_ret
    exact ⟨rfl, HB.out⟩
  have HP := Lib.hid (over_plain G L W N ⟨g1, g2⟩ ⟨l1, l2⟩ ⟨w1, w2⟩ ⟨n1, n2⟩ (by omega))
  have C := Lib.hid (ready_any (L + W) L)
  have A1 := Lib.hid (show Below w.heap.size w ((w.alloc (.cells #[.int .i64 G, .int .i64 L, .int .i64 W, .int .i64 N] 26)).alloc (.cells #[.int .i64 0] 29)) from HB.out.alloc HB.out.size _)
  have A2 := Lib.hid (show Le ((w.alloc (.cells #[.int .i64 G, .int .i64 L, .int .i64 W, .int .i64 N] 26)).alloc (.cells #[.int .i64 0] 29)) (w.heap.size + 1) 0 from Bx.fresh' _ (by simp) _ _)
  have A3 := Lib.hid (show Bx ((w.alloc (.cells #[.int .i64 G, .int .i64 L, .int .i64 W, .int .i64 N] 26)).alloc (.cells #[.int .i64 0] 29)) w.heap.size 26 #[.int .i64 G, .int .i64 L, .int .i64 W, .int .i64 N] from (Bx.fresh w _ _).past _)
  go_enter Try.func4, Try.ntmps4
  go_wp2_with fail
  refine (grant_any _ _ _ _ A2.out).mono ?_; rintro r w3 ⟨rfl, hb, hg⟩
  have B1 := Lib.hid hb
  have B2 := Lib.hid (below_gb A1.out hg (Nat.le_succ _))
  have B3 := A3.out.grown hg (by intro h; have := Option.some.inj h; omega)
  obtain ⟨t0, t1, t2, t3⟩ : w3.cell? ⟨w.heap.size, 0, none⟩ = some (.int .i64 G) ∧ w3.cell? ⟨w.heap.size, 1, none⟩ = some (.int .i64 L) ∧ w3.cell? ⟨w.heap.size, 2, none⟩ = some (.int .i64 W) ∧ w3.cell? ⟨w.heap.size, 3, none⟩ = some (.int .i64 N) := ⟨B3.read rfl, B3.read rfl, B3.read rfl, B3.read rfl⟩
  clear hb hg A1 A2 A3 HB B3
  go_wp2_with fail
  refine (C.out _).mono ?_; rintro r w4 ⟨rfl, rfl⟩
  rcases HP.out with hp | ⟨hp, hq⟩
  · rw [hp]
    clear HP hp
    go_wp2_with fail
    refine (alive23_any _).mono ?_; rintro r w5 ⟨rfl, hb⟩
    go_wp2_with fail
    go_ret
    exact ⟨rfl, bnext B2.out hb⟩
  · rw [hp]
    have HQ := Lib.hid hq
    clear HP hp hq
    go_wp2_with fail
    refine (valid_any _ _ _ _ B1.out).mono ?_; rintro r w5 ⟨rfl, rfl⟩
    rw [HQ.out]
    go_wp2_with fail
    refine (alive23_any _).mono ?_; rintro r w5 ⟨rfl, hb⟩
    go_wp2_with fail
    go_ret
    exact ⟨rfl, bnext B2.out hb⟩
end Go.Proofs.Ytkkhljneeajkmaa
