/- Layer 41 (skew): rates in memory; New, there, grow, shrink, Ahead. -/
import Derived.Test.YtkkhljneeajkmaaC1
import Derived.Test.YtkkhljneeajkmaaPi
import Derived.StillTailTactics
namespace Go.Proofs.Ytkkhljneeajkmaa
open Go.RowKit

theorem region_tail {P : Program} {id : Nat} {Q : Exit → Act → World → Prop} {a : Act} {w : World} {l : List Oper} (n : Nat) (hm : P.follows .mixedOrders = true) (hB : Region.lexTailB .any l.toArray n = true)
    (h : wpStill P l.toArray w.drew (fun a' => wpList P l.toArray Q (l.drop n) a' w.drew) (l.take n) a) : (Code.region id l.toArray true).wp P Q a w := wp_region_still_tail n hm hB h
/-- The cells of rates. -/
structure RC (cs : Array Value) (R : RT) : Prop where
  size : cs.size = 56
  rho : cs[0]? = some (.int .i64 2)
  gone : ∀ i, i < 5 → cs[1 + i]? = some (.int .i64 (R.gone i))
  now : ∀ a b, a < 5 → b < 5 → cs[6 + a * 10 + b * 2]? = some (.int .i64 (R.now a b))
  most : ∀ a b, a < 5 → b < 5 → cs[6 + a * 10 + b * 2 + 1]? = some (.int .i64 (R.most a b))
/-- Rates in memory. -/
def RB (w : World) (g : Nat) (R : RT) : Prop := ∃ cs, Bx w g 140 cs ∧ RC cs R
theorem RB.next {w w' : World} {g : Nat} {R : RT} (h : RB w g R) (hb : Below w.heap.size w w') : RB w' g R := by
  obtain ⟨cs, h1, h2⟩ := h
  exact ⟨cs, h1.next hb, h2⟩
theorem RB.inside {w : World} {g : Nat} {R : RT} (h : RB w g R) : g < w.heap.size := by
  obtain ⟨cs, h1, h2⟩ := h
  exact h1.inside
theorem RB.fz {w : World} {g : Nat} {R : RT} (h : RB w g R) (i : Nat) : w.frozen? ⟨g, i, none⟩ = false := by
  obtain ⟨cs, h1, h2⟩ := h
  exact h1.open_ i
theorem RB.rrho {w : World} {g : Nat} {R : RT} (h : RB w g R) : w.cell? ⟨g, 0, none⟩ = some (.int .i64 2) := by
  obtain ⟨cs, h1, h2⟩ := h
  exact h1.read h2.rho
theorem RB.rgone {w : World} {g : Nat} {R : RT} (h : RB w g R) (i : Nat) (hi : i < 5) : w.cell? ⟨g, 1 + i, none⟩ = some (.int .i64 (R.gone i)) := by
  obtain ⟨cs, h1, h2⟩ := h
  exact h1.read (h2.gone i hi)
theorem RB.rnow {w : World} {g : Nat} {R : RT} (h : RB w g R) (a b : Nat) (ha : a < 5) (hb : b < 5) : w.cell? ⟨g, 6 + a * 10 + b * 2, none⟩ = some (.int .i64 (R.now a b)) := by
  obtain ⟨cs, h1, h2⟩ := h
  exact h1.read (h2.now a b ha hb)
theorem RB.rmost {w : World} {g : Nat} {R : RT} (h : RB w g R) (a b : Nat) (ha : a < 5) (hb : b < 5) : w.cell? ⟨g, 6 + a * 10 + b * 2 + 1, none⟩ = some (.int .i64 (R.most a b)) := by
  obtain ⟨cs, h1, h2⟩ := h
  exact h1.read (h2.most a b ha hb)
theorem RB.congr {w : World} {g : Nat} {R R' : RT} (h : RB w g R) (h1 : ∀ i, i < 5 → R.gone i = R'.gone i) (h2 : ∀ a b, a < 5 → b < 5 → R.now a b = R'.now a b ∧ R.most a b = R'.most a b) : RB w g R' := by
  obtain ⟨cs, hx, hc⟩ := h
  exact ⟨cs, hx, hc.size, hc.rho, fun i hi => by rw [← h1 i hi]; exact hc.gone i hi, fun a b ha hb => by rw [← (h2 a b ha hb).1]; exact hc.now a b ha hb, fun a b ha hb => by rw [← (h2 a b ha hb).2]; exact hc.most a b ha hb⟩
theorem set_at {cs : Array Value} {i j : Nat} {u v : Value} (hc : cs[i]? = some v) : (cs.setIfInBounds j u)[i]? = if i = j then some u else some v := by
  have hi : i < cs.size := (Array.getElem?_eq_some_iff.1 hc).1
  rw [Array.getElem?_setIfInBounds]
  by_cases h : i = j
  · subst h; rw [if_pos rfl, if_pos rfl, if_pos hi]
  · rw [if_neg (fun e => h e.symm), if_neg h]; exact hc
/-- A clock's way is written. -/
theorem RB.put_gone {w : World} {g : Nat} {R : RT} (h : RB w g R) (a : Nat) (ha : a < 5) (n : Int) : RB (w.setCell ⟨g, 1 + a, none⟩ (.int .i64 n)) g { R with gone := fun x => if x = a then n else R.gone x } := by
  obtain ⟨cs, hx, hc⟩ := h
  refine ⟨_, hx.put (1 + a) (.int .i64 n), by simp [hc.size], ?_, ?_, ?_, ?_⟩
  · rw [set_at hc.rho, if_neg (by omega)]
  · intro i hi
    rw [set_at (hc.gone i hi)]
    by_cases h1 : i = a
    · subst h1; rw [if_pos rfl]; simp
    · rw [if_neg (by omega)]; simp [h1]
  · intro x y hx hy
    rw [set_at (hc.now x y hx hy), if_neg (by omega)]
  · intro x y hx hy
    rw [set_at (hc.most x y hx hy), if_neg (by omega)]
/-- A number up to now is written. -/
theorem RB.put_now {w : World} {g : Nat} {R : RT} (h : RB w g R) (a b : Nat) (ha : a < 5) (hb : b < 5) (n : Int) : RB (w.setCell ⟨g, 6 + a * 10 + b * 2, none⟩ (.int .i64 n)) g { R with now := fun x y => if x = a ∧ y = b then n else R.now x y } := by
  obtain ⟨cs, hx, hc⟩ := h
  refine ⟨_, hx.put (6 + a * 10 + b * 2) (.int .i64 n), by simp [hc.size], ?_, ?_, ?_, ?_⟩
  · rw [set_at hc.rho, if_neg (by omega)]
  · intro i hi
    rw [set_at (hc.gone i hi), if_neg (by omega)]
  · intro x y hx hy
    rw [set_at (hc.now x y hx hy)]
    by_cases h1 : x = a ∧ y = b
    · obtain ⟨rfl, rfl⟩ := h1; rw [if_pos rfl]; simp
    · rw [if_neg (by omega)]; simp [h1]
  · intro x y hx hy
    rw [set_at (hc.most x y hx hy), if_neg (by omega)]
theorem RB.put_most {w : World} {g : Nat} {R : RT} (h : RB w g R) (a b : Nat) (ha : a < 5) (hb : b < 5) (n : Int) : RB (w.setCell ⟨g, 6 + a * 10 + b * 2 + 1, none⟩ (.int .i64 n)) g { R with most := fun x y => if x = a ∧ y = b then n else R.most x y } := by
  obtain ⟨cs, hx, hc⟩ := h
  refine ⟨_, hx.put (6 + a * 10 + b * 2 + 1) (.int .i64 n), by simp [hc.size], ?_, ?_, ?_, ?_⟩
  · rw [set_at hc.rho, if_neg (by omega)]
  · intro i hi
    rw [set_at (hc.gone i hi), if_neg (by omega)]
  · intro x y hx hy
    rw [set_at (hc.now x y hx hy), if_neg (by omega)]
  · intro x y hx hy
    rw [set_at (hc.most x y hx hy)]
    by_cases h1 : x = a ∧ y = b
    · obtain ⟨rfl, rfl⟩ := h1; rw [if_pos rfl]; simp
    · rw [if_neg (by omega)]; simp [h1]
def thr (n : Int) : Bool := decide (0 ≤ n ∧ n < 5)
theorem there_any (n : Int) (w : World) : Calls Try.prog 97 #[.int .i64 n] w fun e w' => e = .returned (.bool (thr n)) ∧ w' = w := by
  rcases (show n < 0 ∨ (0 ≤ n ∧ 5 ≤ n) ∨ (0 ≤ n ∧ n < 5) from by omega) with h | ⟨h, h2⟩ | ⟨h, h2⟩
  · have d1 : decide (0 ≤ n) = false := by rw [decide_eq_false_iff_not]; omega
    go_enter Try.func97, Try.ntmps97
    go_wp2_with fail
    go_ret
    exact ⟨cret_b (by unfold thr; symm; rw [decide_eq_false_iff_not]; omega), by rfl⟩
  · have d2 : decide (n < 5) = false := by rw [decide_eq_false_iff_not]; omega
    go_enter Try.func97, Try.ntmps97
    go_wp2_with fail
    go_ret
    exact ⟨cret_b (by unfold thr; symm; rw [decide_eq_false_iff_not]; omega), by rfl⟩
  · go_enter Try.func97, Try.ntmps97
    go_wp2_with fail
    go_ret
    exact ⟨cret_b (by unfold thr; symm; rw [decide_eq_true_eq]; omega), by rfl⟩
theorem thr_in {a : Nat} (h : a < 5) : thr (a : Int) = true := by unfold thr; rw [decide_eq_true_eq]; omega
set_option maxRecDepth 100000 in
set_option maxHeartbeats 2000000 in
theorem grow_any (g o : Nat) (n m t : Int) (hn : 0 ≤ n ∧ n ≤ 1099511627776) (ht : 0 ≤ t ∧ t ≤ 64) (w : World) (c0 : w.cell? ⟨g, o, none⟩ = some (.int .i64 n)) (c1 : w.cell? ⟨g, o + 1, none⟩ = some (.int .i64 m)) (f0 : w.frozen? ⟨g, o, none⟩ = false) (f1 : w.frozen? ⟨g, o + 1, none⟩ = false) :
    Calls Try.prog 98 #[.pointer (some ⟨g, o, none⟩), .int .i64 t] w fun e w' => e = .returned (.tuple #[]) ∧ ∃ q, w' = ((w.setCell ⟨g, o, none⟩ (.int .i64 (n + t))).drewN q).setCell ⟨g, o + 1, none⟩ (.int .i64 (max m (n + t))) := by
  obtain ⟨hn1, hn2⟩ := hn
  obtain ⟨ht1, ht2⟩ := ht
  have hw : IntKind.i64.wrap (n + t) = n + t := IntWalk.i64_in _ (by omega)
  go_enter Try.func98, Try.ntmps98
  go_wp2_with fail
  refine region_tail 12 (by kernel_rfl) (by kernel_rfl) ?_
  simp only [List.take_succ_cons, List.take_zero, List.drop_succ_cons, List.drop_zero]
  repeat still_step
  refine wpStill_nil ?_
  go_wp2_with fail
  go_end0
  exact ⟨rfl, 1, rfl⟩
theorem shrink_any (g o : Nat) (n d : Int) (hn : 0 ≤ n ∧ n ≤ 1099511627776) (hd : 0 ≤ d ∧ d ≤ 1000) (w : World) (c0 : w.cell? ⟨g, o, none⟩ = some (.int .i64 n)) (f0 : w.frozen? ⟨g, o, none⟩ = false) :
    Calls Try.prog 99 #[.pointer (some ⟨g, o, none⟩), .int .i64 d] w fun e w' => e = .returned (.tuple #[]) ∧ w' = w.setCell ⟨g, o, none⟩ (.int .i64 (max (n - d) 0)) := by
  obtain ⟨hn1, hn2⟩ := hn
  obtain ⟨hd1, hd2⟩ := hd
  have hw : IntKind.i64.wrap (n - d) = n - d := IntWalk.i64_in _ (by omega)
  go_enter Try.func99, Try.ntmps99
  go_wp2_with fail
  go_end0
  exact ⟨rfl, rfl⟩
set_option maxRecDepth 100000 in
set_option maxHeartbeats 2000000 in
theorem ahead_any (g a b : Nat) (R : RT) (ha : a < 5) (hb : b < 5) (w : World) (h : RB w g R) :
    Calls Try.prog 71 #[.pointer (some ⟨g, 0, none⟩), .int .i64 a, .int .i64 b] w fun e w' => e = .returned (.int .i64 (R.most a b)) ∧ w' = w := by
  have C1 := Lib.hid (fun W => there_any (a : Int) W)
  have C2 := Lib.hid (fun W => there_any (b : Int) W)
  rw [thr_in ha] at C1
  rw [thr_in hb] at C2
  have c0 := h.rmost a b ha hb
  have ha2 : (a : Int) < 5 := by omega
  have hb2 : (b : Int) < 5 := by omega
  clear h
  generalize R.most a b = m at *
  go_enter Try.func71, Try.ntmps71
  go_wp2_with fail
  refine (C1.out _).mono ?_; rintro e w1 ⟨rfl, rfl⟩
  go_wp2_with fail
  refine (C2.out _).mono ?_; rintro e w1 ⟨rfl, rfl⟩
  go_wp2_with fail
  go_ret
  exact ⟨rfl, rfl⟩
end Go.Proofs.Ytkkhljneeajkmaa
