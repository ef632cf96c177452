/- Layer 32 (quorum): ones and shares, by the law's own loops; the statement QuorumMeets' walk. -/
import Derived.Test.YtoidloofclalhabJ2
import Derived.LoopTactic
namespace Go.Proofs.Ytoidloofclalhab
open Go.RowKit

def popI (n : Nat) : Int := (pop n : Int)
theorem pop_step : ∀ m : Fin 64, pop m.val = m.val % 2 + pop (m.val / 2) := by decide +kernel
theorem pop_zero : pop 0 = 0 := by decide
theorem ones_any (n : Nat) (hn : n < 64) (w : World) :
    Calls Try.prog 44 #[.int .i64 n] w fun e w' => e = .returned (.int .i64 (popI n)) ∧ w = w' := by
  go_enter Try.func44, Try.ntmps44
  go_wp2_with fail
  go_loop [0, 3] (fun x k => ∃ m j : Nat, x = .int .i64 m ∧ k = .int .i64 j ∧ m < 64 ∧ j ≤ 1000 ∧ j + pop m = pop n ∧ m ≤ n ∧ j + m ≤ n) (fun x _ => (intOf x).toNat)
  case atStart => exact ⟨n, 0, rfl, rfl, hn, by omega, by omega, by omega, by omega⟩
  case round =>
    obtain ⟨m, j, rfl, rfl, hm, hj, hp, hmn, hjm⟩ := hrel
    have hs := pop_step ⟨m, hm⟩
    dsimp only at hs
    by_cases h0 : 0 < m
    · have HP := Lib.hid hp
      have HS := Lib.hid hs
      clear hp hs
      go_wp2_with fail
      go_round
      case rel => exact ⟨m / 2, j + m % 2, by go_num, by go_num, by omega, by omega, by have := HP.out; have := HS.out; omega, by omega, by omega⟩
      case measure => simp [intOf]; omega
    · obtain rfl : m = 0 := by omega
      have HP := Lib.hid hp
      clear hp hs
      go_wp2_with fail
      go_ret
      exact ⟨ret_int (by unfold popI; have := HP.out; rw [pop_zero] at this; omega), rfl⟩

/-- No pair of choices so far has none together: all up to x, and of x those up to y. -/
def noBad (a b : Int) (N x y : Nat) : Prop := (∀ i j, i < x → j < N → ¬ (popI i = a ∧ popI j = b ∧ i &&& j = 0)) ∧ ∀ j, j < y → ¬ (popI x = a ∧ popI j = b ∧ x &&& j = 0)
theorem noBad.row {a b : Int} {N x : Nat} (h : noBad a b N x N) : noBad a b N (x + 1) 0 := ⟨fun i j hi hj => by
  by_cases e : i = x
  · subst e; exact h.2 j hj
  · exact h.1 i j (by omega) hj, fun j hj => by omega⟩
theorem noBad.one {a b : Int} {N x y : Nat} (h : noBad a b N x y) (hn : ¬ (popI x = a ∧ popI y = b ∧ x &&& y = 0)) : noBad a b N x (y + 1) := ⟨h.1, fun j hj => by
  by_cases e : j = y
  · subst e; exact hn
  · exact h.2 j (by omega)⟩
def SharesR (a b : Int) (N : Nat) (r : Bool) : Prop := (r = true → ∀ i j, i < N → j < N → ¬ (popI i = a ∧ popI j = b ∧ i &&& j = 0)) ∧ (r = false → ∃ i j, i < N ∧ j < N ∧ popI i = a ∧ popI j = b ∧ i &&& j = 0)
def SharesE (a b : Int) (N : Nat) (w : World) (e : Ending) (w' : World) : Prop := ∃ r, e = .returned (.bool r) ∧ SharesR a b N r ∧ w = w'
def andI (x y : Nat) : Nat := x &&& y
theorem and_bits : ∀ x y : Fin 32, bits .and .i64 ((x.val : Nat) : Int) ((y.val : Nat) : Int) = ((andI x.val y.val : Nat) : Int) := by decide +kernel
set_option maxHeartbeats 4000000 in
theorem shares_any (a b : Int) (c : Nat) (h1 : 1 ≤ c) (h5 : c ≤ 5) (w : World) :
    Calls Try.prog 16 #[.int .i64 a, .int .i64 b, .int .i64 c] w (SharesE a b (2 ^ c) w) := by
  have hc : c = 1 ∨ c = 2 ∨ c = 3 ∨ c = 4 ∨ c = 5 := by omega
  clear h1 h5
  obtain ⟨N, hN⟩ : ∃ N, N = 2 ^ c := ⟨_, rfl⟩
  have hN32 : N ≤ 32 := by rcases hc with rfl | rfl | rfl | rfl | rfl <;> omega
  have HC := Lib.hid hc
  have hsh : wrap64 (2 ^ min c 64) = (N : Int) := by
    rw [hN]
    rcases HC.out with rfl | rfl | rfl | rfl | rfl <;> decide +kernel
  rw [← hN]
  clear hN hc HC
  go_enter Try.func16, Try.ntmps16
  go_wp2_with fail
  go_loop [7] (fun x => ∃ i : Nat, x = .int .i64 i ∧ i ≤ N ∧ noBad a b N i 0) (fun x => N - (intOf x).toNat)
  case atStart => exact ⟨0, rfl, by omega, fun i j hi => by omega, fun j hj => by omega⟩
  case round =>
    obtain ⟨i, rfl, hi, hb⟩ := hrel
    by_cases hlt : i < N
    · go_wp2_with fail
      obtain ⟨wo, hwo⟩ : ∃ wo : World, wo = w := ⟨_, rfl⟩
      go_loop [8] (fun y => ∃ j : Nat, y = .int .i64 j ∧ j ≤ N ∧ noBad a b N i j) (fun y => N - (intOf y).toNat)
      case atStart => exact ⟨0, rfl, by omega, hb⟩
      case round =>
        obtain ⟨j, rfl, hj, hbj⟩ := hrel
        by_cases hlj : j < N
        · have hand := and_bits ⟨i, by omega⟩ ⟨j, by omega⟩
          dsimp only at hand
          by_cases p1 : popI i = a
          · have q1 : (popI i == a) = true := by simpa using p1
            by_cases p2 : popI j = b
            · have q2 : (popI j == b) = true := by simpa using p2
              by_cases p3 : andI i j = 0
              · have q3 : (((andI i j : Nat) : Int) == 0) = true := by simpa using p3
                have HB := Lib.hid (show popI i = a ∧ popI j = b ∧ i &&& j = 0 from ⟨p1, p2, p3⟩)
                clear p1 p2 p3
                go_wp2_with fail
                refine (ones_any i (by omega) _).mono ?_; rintro e w1 ⟨rfl, rfl⟩
                go_wp2_with fail
                refine (ones_any j (by omega) _).mono ?_; rintro e w1 ⟨rfl, rfl⟩
                go_wp2_with fail
                go_ret
                exact ⟨false, rfl, ⟨fun h => (by cases h), fun _ => ⟨i, j, hlt, hlj, HB.out⟩⟩, rfl⟩
              · have q3 : (((andI i j : Nat) : Int) == 0) = false := by simpa using p3
                have HB := Lib.hid (hbj.one (fun h => p3 h.2.2))
                clear p1 p2 p3 hbj hb
                go_wp2_with fail
                refine (ones_any i (by omega) _).mono ?_; rintro e w1 ⟨rfl, rfl⟩
                go_wp2_with fail
                refine (ones_any j (by omega) _).mono ?_; rintro e w1 ⟨rfl, rfl⟩
                go_wp2_with fail
                go_round
                case rel => exact ⟨j + 1, by go_num, by omega, HB.out⟩
                case measure => simp [intOf]; omega
            · have q2 : (popI j == b) = false := by simpa using p2
              have HB := Lib.hid (hbj.one (fun h => p2 h.2.1))
              clear p1 p2 hbj hb hand
              go_wp2_with fail
              refine (ones_any i (by omega) _).mono ?_; rintro e w1 ⟨rfl, rfl⟩
              go_wp2_with fail
              refine (ones_any j (by omega) _).mono ?_; rintro e w1 ⟨rfl, rfl⟩
              go_wp2_with fail
              go_round
              case rel => exact ⟨j + 1, by go_num, by omega, HB.out⟩
              case measure => simp [intOf]; omega
          · have q1 : (popI i == a) = false := by simpa using p1
            have HB := Lib.hid (hbj.one (fun h => p1 h.1))
            clear p1 hbj hb hand
            go_wp2_with fail
            refine (ones_any i (by omega) _).mono ?_; rintro e w1 ⟨rfl, rfl⟩
            go_wp2_with fail
            go_round
            case rel => exact ⟨j + 1, by go_num, by omega, HB.out⟩
            case measure => simp [intOf]; omega
        · obtain rfl : j = N := by omega
          have HB := Lib.hid hbj.row
          clear hbj hb
          go_wp2_with fail
          go_round
          case rel => exact ⟨i + 1, by go_num, by omega, HB.out⟩
          case measure => simp [intOf]; omega
    · go_wp2_with fail
      go_ret
      exact ⟨true, rfl, ⟨fun _ i' j' hi' hj' => hb.1 i' j' (by omega) hj', fun h => by cases h⟩, rfl⟩
theorem some_iff (a b N : Nat) : someBad a b N N = true ↔ ∃ i j, i < N ∧ j < N ∧ pop i = a ∧ pop j = b ∧ i &&& j = 0 := by
  unfold someBad badP
  simp only [List.any_eq_true, List.mem_range, Bool.and_eq_true, beq_iff_eq]
  constructor
  · rintro ⟨i, hi, j, hj, h1, h2, h3⟩; exact ⟨i, j, hi, hj, h1, h2, h3⟩
  · rintro ⟨i, j, hi, hj, h1, h2, h3⟩; exact ⟨i, hi, j, hj, h1, h2, h3⟩
theorem shares_is (n m c : Nat) (h1 : 1 ≤ n) (h2 : n ≤ c) (h3 : 1 ≤ m) (h4 : m ≤ c) (h5 : c ≤ 5) (r : Bool) (h : SharesR n m (2 ^ c) r) : r = decide ((c : Int) - m < n) := by
  have ha := shares_all ⟨c, by omega⟩ ⟨n, by omega⟩ ⟨m, by omega⟩ h1 h2 h3 h4
  dsimp only at ha
  cases r with
  | true =>
    have hn : someBad n m (2 ^ c) (2 ^ c) ≠ true := fun e => by
      obtain ⟨i, j, hi, hj, p, q, s⟩ := (some_iff _ _ _).1 e
      exact h.1 rfl i j hi hj ⟨by unfold popI; omega, by unfold popI; omega, s⟩
    rw [ha] at hn
    have hx : ¬ (n + m ≤ c) := by simpa using hn
    symm; rw [decide_eq_true_iff]; omega
  | false =>
    obtain ⟨i, j, hi, hj, p, q, s⟩ := h.2 rfl
    have e := (some_iff n m (2 ^ c)).2 ⟨i, j, hi, hj, by unfold popI at p; omega, by unfold popI at q; omega, s⟩
    rw [ha] at e
    have hx : n + m ≤ c := by simpa using e
    symm; rw [decide_eq_false_iff_not]; omega
set_option maxHeartbeats 1000000 in
theorem meets_out (a b c : Int) (h : 5 < c) (w : World) :
    Calls Try.prog 4 #[.int .i64 a, .int .i64 b, .int .i64 c] w fun e w' => e = .returned (.bool true) ∧ Below w.heap.size w w' := by
  go_enter Try.func4, Try.ntmps4
  go_wp2_with fail
  go_ret
  exact ⟨rfl, Below.refl _ _⟩
set_option maxHeartbeats 1000000 in
theorem meets_no (a b c : Int) (h : c ≤ 5) (hn : ndB a c = false ∨ ndB b c = false) (w : World) :
    Calls Try.prog 4 #[.int .i64 a, .int .i64 b, .int .i64 c] w fun e w' => e = .returned (.bool true) ∧ Below w.heap.size w w' := by
  have HA := Lib.hid (need_any a c (by omega) w)
  have HC := Lib.hid (need_any b c (by omega) w)
  have HM := Lib.hid (meets_any a b c (by omega) w)
  have hm : mtB a b c = false := by
    unfold mtB
    rcases hn with h | h <;> simp [h]
  rw [hm] at HM
  clear hm
  generalize ndN a c = n at *
  generalize ndN b c = m at *
  cases hx : ndB a c with
  | false =>
    rw [hx] at HA
    clear hx hn
    generalize ndB b c = y at *
    go_enter Try.func4, Try.ntmps4
    go_wp2_with fail
    refine (HA.out).mono ?_; rintro e w1 ⟨rfl, rfl⟩
    go_wp2_with fail
    refine (HC.out).mono ?_; rintro e w1 ⟨rfl, rfl⟩
    go_wp2_with fail
    refine (HM.out).mono ?_; rintro e w1 ⟨rfl, rfl⟩
    go_wp2_with fail
    refine (alive32_any _).mono ?_; rintro e w1 ⟨rfl, rfl⟩
    go_wp2_with fail
    go_ret
    exact ⟨rfl, Below.refl _ _⟩
  | true =>
    have hy : ndB b c = false := by rcases hn with h | h; · rw [hx] at h; cases h
                                    · exact h
    rw [hx] at HA
    rw [hy] at HC
    clear hx hy hn
    go_enter Try.func4, Try.ntmps4
    go_wp2_with fail
    refine (HA.out).mono ?_; rintro e w1 ⟨rfl, rfl⟩
    go_wp2_with fail
    refine (HC.out).mono ?_; rintro e w1 ⟨rfl, rfl⟩
    go_wp2_with fail
    refine (HM.out).mono ?_; rintro e w1 ⟨rfl, rfl⟩
    go_wp2_with fail
    refine (alive32_any _).mono ?_; rintro e w1 ⟨rfl, rfl⟩
    go_wp2_with fail
    go_ret
    exact ⟨rfl, Below.refl _ _⟩
set_option maxHeartbeats 1000000 in
theorem meets_yes (a b c : Int) (h : c ≤ 5) (ha : ndB a c = true) (hb : ndB b c = true) (w : World) :
    Calls Try.prog 4 #[.int .i64 a, .int .i64 b, .int .i64 c] w fun e w' => e = .returned (.bool true) ∧ Below w.heap.size w w' := by
  have HA := Lib.hid (need_any a c (by omega) w)
  have HC := Lib.hid (need_any b c (by omega) w)
  have HM := Lib.hid (meets_any a b c (by omega) w)
  obtain ⟨b1, b2⟩ := nd_bd a c ha
  obtain ⟨b3, b4⟩ := nd_bd b c hb
  have hm : mtB a b c = decide (c - ndN b c < ndN a c) := by unfold mtB; simp [ha, hb]
  rw [ha] at HA
  rw [hb] at HC
  rw [hm] at HM
  clear hm ha hb
  generalize ndN a c = n at *
  generalize ndN b c = m at *
  obtain ⟨N, rfl⟩ : ∃ N : Nat, n = N := ⟨n.toNat, by omega⟩
  obtain ⟨M, rfl⟩ : ∃ M : Nat, m = M := ⟨m.toNat, by omega⟩
  obtain ⟨C, rfl⟩ : ∃ C : Nat, c = C := ⟨c.toNat, by omega⟩
  have HS := Lib.hid (shares_any N M C (by omega) (by omega) w)
  have HE := Lib.hid (fun r => shares_is N M C (by omega) (by omega) (by omega) (by omega) (by omega) r)
  generalize decide ((C : Int) - M < N) = q at *
  have d1 : decide ((N : Int) < 1) = false := by simp; omega
  have d2 : decide ((M : Int) < 1) = false := by simp; omega
  go_enter Try.func4, Try.ntmps4
  go_wp2_with fail
  refine (HA.out).mono ?_; rintro e w1 ⟨rfl, rfl⟩
  go_wp2_with fail
  refine (HC.out).mono ?_; rintro e w1 ⟨rfl, rfl⟩
  go_wp2_with fail
  refine (HM.out).mono ?_; rintro e w1 ⟨rfl, rfl⟩
  go_wp2_with fail
  refine (HS.out).mono ?_; rintro e w1 ⟨r, rfl, hr, rfl⟩
  obtain rfl := HE.out r hr
  clear hr
  go_wp2_with fail
  refine (alive32_any _).mono ?_; rintro e w1 ⟨rfl, rfl⟩
  go_wp2_with fail
  go_ret
  exact ⟨rfl, Below.refl _ _⟩
theorem meetslaw (a b c : Int) (w : World) :
    Calls Try.prog 4 #[.int .i64 a, .int .i64 b, .int .i64 c] w fun e w' => e = .returned (.bool true) ∧ Below w.heap.size w w' := by
  by_cases h : 5 < c
  · exact meets_out a b c h w
  · cases ha : ndB a c with
    | false => exact meets_no a b c (by omega) (.inl ha) w
    | true =>
      cases hb : ndB b c with
      | false => exact meets_no a b c (by omega) (.inr hb) w
      | true => exact meets_yes a b c (by omega) ha hb w
end Go.Proofs.Ytoidloofclalhab
