/- Layer 21 (conf): Exclude, Include. -/
import Derived.Test.YtaeflfgkdjfnfaaE2
import Derived.IntWalk
namespace Go.Proofs.Ytaeflfgkdjfnfaa
open Go.RowKit

def Cf.setO (c : Cf) (n : Int) (b : Bool) : Cf := { c with o0 := if n = 0 then b else c.o0, o1 := if n = 1 then b else c.o1, o2 := if n = 2 then b else c.o2, o3 := if n = 3 then b else c.o3, o4 := if n = 4 then b else c.o4 }
def Cf.setJ (c : Cf) (n x : Int) : Cf := { c with j0 := if n = 0 then x else c.j0, j1 := if n = 1 then x else c.j1, j2 := if n = 2 then x else c.j2, j3 := if n = 3 then x else c.j3, j4 := if n = 4 then x else c.j4 }
/-- There is a next configuration. -/
def Cf.more (c : Cf) : Bool := decide (c.e < 1099511627776)
def Cf.upE (c : Cf) : Cf := { c with e := c.e + 1 }
def Cf.excl (c : Cf) (n : Int) : Cf := if (c.is n && c.more) = true then c.upE.setO n true else c
def Cf.incl (c : Cf) (n : Int) : Cf := if (thr n && !c.is n && c.more) = true then (c.upE.setO n false).setJ n (c.e + 1) else c
theorem wrap_up {e : Int} (h0 : -9223372036854775808 ≤ e) (h1 : e < 1099511627776) : IntKind.i64.wrap (e + 1) = e + 1 := IntWalk.i64_in _ (by omega)
theorem cret_t {a b : Array Value} {p q : Bool} (h : a = b) (k : p = q) : Ending.returned (.tuple #[.agg a, .bool p]) = .returned (.tuple #[.agg b, .bool q]) := by rw [h, k]
theorem is_at {c : Cf} {n : Int} (h : c.is n = true) : n = 0 ∨ n = 1 ∨ n = 2 ∨ n = 3 ∨ n = 4 := by
  rcases places n with k | k | k | k | k | k | k
  · unfold Cf.is at h; rw [out_no (.inl k)] at h; cases h
  · unfold Cf.is at h; rw [out_no (.inr k)] at h; cases h
  all_goals omega
theorem thr_at {n : Int} (h : thr n = true) : n = 0 ∨ n = 1 ∨ n = 2 ∨ n = 3 ∨ n = 4 := by
  unfold thr at h
  rw [decide_eq_true_eq] at h
  omega
/-- All cells of a block that holds a configuration. -/
theorem Bx.reads11 {w : World} {g : Nat} {t : TypeId} {a0 a1 a2 a3 a4 a5 a6 a7 a8 a9 a10 : Value} (h : Bx w g t #[a0, a1, a2, a3, a4, a5, a6, a7, a8, a9, a10]) : w.cell? ⟨g, 0, none⟩ = some a0 ∧ w.cell? ⟨g, 1, none⟩ = some a1 ∧ w.cell? ⟨g, 2, none⟩ = some a2 ∧ w.cell? ⟨g, 3, none⟩ = some a3 ∧ w.cell? ⟨g, 4, none⟩ = some a4 ∧ w.cell? ⟨g, 5, none⟩ = some a5 ∧ w.cell? ⟨g, 6, none⟩ = some a6 ∧ w.cell? ⟨g, 7, none⟩ = some a7 ∧ w.cell? ⟨g, 8, none⟩ = some a8 ∧ w.cell? ⟨g, 9, none⟩ = some a9 ∧ w.cell? ⟨g, 10, none⟩ = some a10 :=
  ⟨h.read rfl, h.read rfl, h.read rfl, h.read rfl, h.read rfl, h.read rfl, h.read rfl, h.read rfl, h.read rfl, h.read rfl, h.read rfl⟩
theorem Bx.opens11 {w : World} {g : Nat} {t : TypeId} {cs : Array Value} (h : Bx w g t cs) : w.frozen? ⟨g, 0, none⟩ = false ∧ w.frozen? ⟨g, 1, none⟩ = false ∧ w.frozen? ⟨g, 2, none⟩ = false ∧ w.frozen? ⟨g, 3, none⟩ = false ∧ w.frozen? ⟨g, 4, none⟩ = false ∧ w.frozen? ⟨g, 5, none⟩ = false ∧ w.frozen? ⟨g, 6, none⟩ = false ∧ w.frozen? ⟨g, 7, none⟩ = false ∧ w.frozen? ⟨g, 8, none⟩ = false ∧ w.frozen? ⟨g, 9, none⟩ = false ∧ w.frozen? ⟨g, 10, none⟩ = false :=
  ⟨h.open_ 0, h.open_ 1, h.open_ 2, h.open_ 3, h.open_ 4, h.open_ 5, h.open_ 6, h.open_ 7, h.open_ 8, h.open_ 9, h.open_ 10⟩
set_option maxRecDepth 100000 in
set_option maxHeartbeats 8000000 in
theorem cf_excl (c : Cf) (n : Int) (h0 : -9223372036854775808 ≤ c.e) (w : World) : Calls Try.prog 25 #[.agg c.cells, .int .i64 n] w fun e w' => e = .returned (.tuple #[.agg (c.excl n).cells, .bool (c.is n && c.more)]) ∧ Below w.heap.size w w' := by
  obtain ⟨W1, hW1⟩ : ∃ W1, (w.alloc (.cells c.cells 39)).alloc (.cells #[.int .i64 0, .bool false, .bool false, .bool false, .bool false, .bool false, .int .i64 0, .int .i64 0, .int .i64 0, .int .i64 0, .int .i64 0] 39) = W1 := ⟨_, rfl⟩
  have hb : Below w.heap.size w W1 := by rw [← hW1]; exact ((Below.refl _ _).alloc (Nat.le_refl _) _).alloc (by simp) _
  have hx : Bx W1 w.heap.size 39 c.cells := by rw [← hW1]; exact (Bx.fresh w _ _).past _
  have hy : Bx W1 (w.heap.size + 1) 39 #[.int .i64 0, .bool false, .bool false, .bool false, .bool false, .bool false, .int .i64 0, .int .i64 0, .int .i64 0, .int .i64 0, .int .i64 0] := by rw [← hW1]; exact Bx.fresh' (w.alloc _) (by simp) _ _
  have C := Lib.hid (cf_is c n W1)
  have HB := Lib.hid (And.intro hb (And.intro hx hy))
  clear hb hx hy
  cases hi : c.is n with
  | false =>
    have hv : c.excl n = c := by unfold Cf.excl; rw [hi]; rfl
    rw [hv, Bool.false_and]
    rw [hi] at C
    clear hv hi
    obtain ⟨e, o0, o1, o2, o3, o4, j0, j1, j2, j3, j4⟩ := c
    unfold Cf.cells at *
    dsimp only at *
    obtain ⟨a0, a1, a2, a3, a4, a5, a6, a7, a8, a9, a10⟩ := HB.out.2.1.reads11
    go_enter Try.func25, Try.ntmps25
    go_wp2_with fail
    refine (C.out).mono ?_; rintro _ w1 ⟨rfl, hb1⟩
    have HX := Lib.hid (HB.out.2.1.next hb1)
    have HY := Lib.hid (HB.out.2.2.next hb1)
    have H1 := Lib.hid (bnext HB.out.1 hb1)
    have hsz := hb1.size
    clear hb1 C a0 a1 a2 a3 a4 a5 a6 a7 a8 a9 a10
    obtain ⟨x0, x1, x2, x3, x4, x5, x6, x7, x8, x9, x10⟩ := HX.out.reads11
    obtain ⟨f0, f1, f2, f3, f4, f5, f6, f7, f8, f9, f10⟩ := HX.out.opens11
    obtain ⟨y0, y1, y2, y3, y4, y5, y6, y7, y8, y9, y10⟩ := HY.out.reads11
    obtain ⟨g0, g1, g2, g3, g4, g5, g6, g7, g8, g9, g10⟩ := HY.out.opens11
    go_wp2_with fail
    (try simp only [Exit.inBlock, Exit.then])
    refine bodyPost_ret (v := .tuple #[.agg #[.int .i64 e, .bool o0, .bool o1, .bool o2, .bool o3, .bool o4, .int .i64 j0, .int .i64 j1, .int .i64 j2, .int .i64 j3, .int .i64 j4], .bool false]) (by simp [results, Try.results25, go_sem, *]) rfl ⟨rfl, ?_⟩
    have hB1 := H1.out
    repeat' (refine Below.setCell ?_ (by first | exact Nat.le_refl _ | exact Nat.le_succ _) _)
    exact hB1

  | true =>
    have hp := is_at hi
    rw [hi] at C
    cases hm : c.more with
    | false =>
      have hv : c.excl n = c := by unfold Cf.excl; rw [hi, hm]; rfl
      have he : decide (1099511627776 ≤ c.e) = true := by unfold Cf.more at hm; rw [decide_eq_false_iff_not] at hm; rw [decide_eq_true_eq]; omega
      rw [hv, Bool.and_false]
      clear hv hi hm hp
      obtain ⟨e, o0, o1, o2, o3, o4, j0, j1, j2, j3, j4⟩ := c
      unfold Cf.cells at *
      dsimp only at *
      obtain ⟨a0, a1, a2, a3, a4, a5, a6, a7, a8, a9, a10⟩ := HB.out.2.1.reads11
      go_enter Try.func25, Try.ntmps25
      go_wp2_with fail
      refine (C.out).mono ?_; rintro _ w1 ⟨rfl, hb1⟩
      have HX := Lib.hid (HB.out.2.1.next hb1)
      have HY := Lib.hid (HB.out.2.2.next hb1)
      have H1 := Lib.hid (bnext HB.out.1 hb1)
      have hsz := hb1.size
      clear hb1 C a0 a1 a2 a3 a4 a5 a6 a7 a8 a9 a10
      obtain ⟨x0, x1, x2, x3, x4, x5, x6, x7, x8, x9, x10⟩ := HX.out.reads11
      obtain ⟨f0, f1, f2, f3, f4, f5, f6, f7, f8, f9, f10⟩ := HX.out.opens11
      obtain ⟨y0, y1, y2, y3, y4, y5, y6, y7, y8, y9, y10⟩ := HY.out.reads11
      obtain ⟨g0, g1, g2, g3, g4, g5, g6, g7, g8, g9, g10⟩ := HY.out.opens11
      go_wp2_with fail
      (try simp only [Exit.inBlock, Exit.then])
      refine bodyPost_ret (v := .tuple #[.agg #[.int .i64 e, .bool o0, .bool o1, .bool o2, .bool o3, .bool o4, .int .i64 j0, .int .i64 j1, .int .i64 j2, .int .i64 j3, .int .i64 j4], .bool false]) (by simp [results, Try.results25, go_sem, *]) rfl ⟨rfl, ?_⟩
      have hB1 := H1.out
      repeat' (refine Below.setCell ?_ (by first | exact Nat.le_refl _ | exact Nat.le_succ _) _)
      exact hB1

    | true =>
      have he1 : c.e < 1099511627776 := by unfold Cf.more at hm; rwa [decide_eq_true_eq] at hm
      have he : decide (1099511627776 ≤ c.e) = false := by rw [decide_eq_false_iff_not]; omega
      have hw := wrap_up h0 he1
      have hv : c.excl n = c.upE.setO n true := by unfold Cf.excl; rw [hi, hm]; rfl
      rw [hv, Bool.and_true]
      clear hv hi hm he1
      rcases hp with rfl | rfl | rfl | rfl | rfl
      · unfold Cf.upE Cf.setO
        obtain ⟨e, o0, o1, o2, o3, o4, j0, j1, j2, j3, j4⟩ := c
        unfold Cf.cells at *
        dsimp only at *
        simp only [reduceIte, Int.reduceEq]
        obtain ⟨a0, a1, a2, a3, a4, a5, a6, a7, a8, a9, a10⟩ := HB.out.2.1.reads11
        go_enter Try.func25, Try.ntmps25
        go_wp2_with fail
        refine (C.out).mono ?_; rintro _ w1 ⟨rfl, hb1⟩
        have HX := Lib.hid (HB.out.2.1.next hb1)
        have HY := Lib.hid (HB.out.2.2.next hb1)
        have H1 := Lib.hid (bnext HB.out.1 hb1)
        have hsz := hb1.size
        clear hb1 C a0 a1 a2 a3 a4 a5 a6 a7 a8 a9 a10
        obtain ⟨x0, x1, x2, x3, x4, x5, x6, x7, x8, x9, x10⟩ := HX.out.reads11
        obtain ⟨f0, f1, f2, f3, f4, f5, f6, f7, f8, f9, f10⟩ := HX.out.opens11
        obtain ⟨y0, y1, y2, y3, y4, y5, y6, y7, y8, y9, y10⟩ := HY.out.reads11
        obtain ⟨g0, g1, g2, g3, g4, g5, g6, g7, g8, g9, g10⟩ := HY.out.opens11
        go_wp2_with fail
        (try simp only [Exit.inBlock, Exit.then])
        refine bodyPost_ret (v := .tuple #[.agg #[.int .i64 (e + 1), .bool true, .bool o1, .bool o2, .bool o3, .bool o4, .int .i64 j0, .int .i64 j1, .int .i64 j2, .int .i64 j3, .int .i64 j4], .bool true]) (by simp [results, Try.results25, go_sem, *]) rfl ⟨rfl, ?_⟩
        have hB1 := H1.out
        repeat' (refine Below.setCell ?_ (by first | exact Nat.le_refl _ | exact Nat.le_succ _) _)
        exact hB1
      · unfold Cf.upE Cf.setO
        obtain ⟨e, o0, o1, o2, o3, o4, j0, j1, j2, j3, j4⟩ := c
        unfold Cf.cells at *
        dsimp only at *
        simp only [reduceIte, Int.reduceEq]
        obtain ⟨a0, a1, a2, a3, a4, a5, a6, a7, a8, a9, a10⟩ := HB.out.2.1.reads11
        go_enter Try.func25, Try.ntmps25
        go_wp2_with fail
        refine (C.out).mono ?_; rintro _ w1 ⟨rfl, hb1⟩
        have HX := Lib.hid (HB.out.2.1.next hb1)
        have HY := Lib.hid (HB.out.2.2.next hb1)
        have H1 := Lib.hid (bnext HB.out.1 hb1)
        have hsz := hb1.size
        clear hb1 C a0 a1 a2 a3 a4 a5 a6 a7 a8 a9 a10
        obtain ⟨x0, x1, x2, x3, x4, x5, x6, x7, x8, x9, x10⟩ := HX.out.reads11
        obtain ⟨f0, f1, f2, f3, f4, f5, f6, f7, f8, f9, f10⟩ := HX.out.opens11
        obtain ⟨y0, y1, y2, y3, y4, y5, y6, y7, y8, y9, y10⟩ := HY.out.reads11
        obtain ⟨g0, g1, g2, g3, g4, g5, g6, g7, g8, g9, g10⟩ := HY.out.opens11
        go_wp2_with fail
        (try simp only [Exit.inBlock, Exit.then])
        refine bodyPost_ret (v := .tuple #[.agg #[.int .i64 (e + 1), .bool o0, .bool true, .bool o2, .bool o3, .bool o4, .int .i64 j0, .int .i64 j1, .int .i64 j2, .int .i64 j3, .int .i64 j4], .bool true]) (by simp [results, Try.results25, go_sem, *]) rfl ⟨rfl, ?_⟩
        have hB1 := H1.out
        repeat' (refine Below.setCell ?_ (by first | exact Nat.le_refl _ | exact Nat.le_succ _) _)
        exact hB1
      · unfold Cf.upE Cf.setO
        obtain ⟨e, o0, o1, o2, o3, o4, j0, j1, j2, j3, j4⟩ := c
        unfold Cf.cells at *
        dsimp only at *
        simp only [reduceIte, Int.reduceEq]
        obtain ⟨a0, a1, a2, a3, a4, a5, a6, a7, a8, a9, a10⟩ := HB.out.2.1.reads11
        go_enter Try.func25, Try.ntmps25
        go_wp2_with fail
        refine (C.out).mono ?_; rintro _ w1 ⟨rfl, hb1⟩
        have HX := Lib.hid (HB.out.2.1.next hb1)
        have HY := Lib.hid (HB.out.2.2.next hb1)
        have H1 := Lib.hid (bnext HB.out.1 hb1)
        have hsz := hb1.size
        clear hb1 C a0 a1 a2 a3 a4 a5 a6 a7 a8 a9 a10
        obtain ⟨x0, x1, x2, x3, x4, x5, x6, x7, x8, x9, x10⟩ := HX.out.reads11
        obtain ⟨f0, f1, f2, f3, f4, f5, f6, f7, f8, f9, f10⟩ := HX.out.opens11
        obtain ⟨y0, y1, y2, y3, y4, y5, y6, y7, y8, y9, y10⟩ := HY.out.reads11
        obtain ⟨g0, g1, g2, g3, g4, g5, g6, g7, g8, g9, g10⟩ := HY.out.opens11
        go_wp2_with fail
        (try simp only [Exit.inBlock, Exit.then])
        refine bodyPost_ret (v := .tuple #[.agg #[.int .i64 (e + 1), .bool o0, .bool o1, .bool true, .bool o3, .bool o4, .int .i64 j0, .int .i64 j1, .int .i64 j2, .int .i64 j3, .int .i64 j4], .bool true]) (by simp [results, Try.results25, go_sem, *]) rfl ⟨rfl, ?_⟩
        have hB1 := H1.out
        repeat' (refine Below.setCell ?_ (by first | exact Nat.le_refl _ | exact Nat.le_succ _) _)
        exact hB1
      · unfold Cf.upE Cf.setO
        obtain ⟨e, o0, o1, o2, o3, o4, j0, j1, j2, j3, j4⟩ := c
        unfold Cf.cells at *
        dsimp only at *
        simp only [reduceIte, Int.reduceEq]
        obtain ⟨a0, a1, a2, a3, a4, a5, a6, a7, a8, a9, a10⟩ := HB.out.2.1.reads11
        go_enter Try.func25, Try.ntmps25
        go_wp2_with fail
        refine (C.out).mono ?_; rintro _ w1 ⟨rfl, hb1⟩
        have HX := Lib.hid (HB.out.2.1.next hb1)
        have HY := Lib.hid (HB.out.2.2.next hb1)
        have H1 := Lib.hid (bnext HB.out.1 hb1)
        have hsz := hb1.size
        clear hb1 C a0 a1 a2 a3 a4 a5 a6 a7 a8 a9 a10
        obtain ⟨x0, x1, x2, x3, x4, x5, x6, x7, x8, x9, x10⟩ := HX.out.reads11
        obtain ⟨f0, f1, f2, f3, f4, f5, f6, f7, f8, f9, f10⟩ := HX.out.opens11
        obtain ⟨y0, y1, y2, y3, y4, y5, y6, y7, y8, y9, y10⟩ := HY.out.reads11
        obtain ⟨g0, g1, g2, g3, g4, g5, g6, g7, g8, g9, g10⟩ := HY.out.opens11
        go_wp2_with fail
        (try simp only [Exit.inBlock, Exit.then])
        refine bodyPost_ret (v := .tuple #[.agg #[.int .i64 (e + 1), .bool o0, .bool o1, .bool o2, .bool true, .bool o4, .int .i64 j0, .int .i64 j1, .int .i64 j2, .int .i64 j3, .int .i64 j4], .bool true]) (by simp [results, Try.results25, go_sem, *]) rfl ⟨rfl, ?_⟩
        have hB1 := H1.out
        repeat' (refine Below.setCell ?_ (by first | exact Nat.le_refl _ | exact Nat.le_succ _) _)
        exact hB1
      · unfold Cf.upE Cf.setO
        obtain ⟨e, o0, o1, o2, o3, o4, j0, j1, j2, j3, j4⟩ := c
        unfold Cf.cells at *
        dsimp only at *
        simp only [reduceIte, Int.reduceEq]
        obtain ⟨a0, a1, a2, a3, a4, a5, a6, a7, a8, a9, a10⟩ := HB.out.2.1.reads11
        go_enter Try.func25, Try.ntmps25
        go_wp2_with fail
        refine (C.out).mono ?_; rintro _ w1 ⟨rfl, hb1⟩
        have HX := Lib.hid (HB.out.2.1.next hb1)
        have HY := Lib.hid (HB.out.2.2.next hb1)
        have H1 := Lib.hid (bnext HB.out.1 hb1)
        have hsz := hb1.size
        clear hb1 C a0 a1 a2 a3 a4 a5 a6 a7 a8 a9 a10
        obtain ⟨x0, x1, x2, x3, x4, x5, x6, x7, x8, x9, x10⟩ := HX.out.reads11
        obtain ⟨f0, f1, f2, f3, f4, f5, f6, f7, f8, f9, f10⟩ := HX.out.opens11
        obtain ⟨y0, y1, y2, y3, y4, y5, y6, y7, y8, y9, y10⟩ := HY.out.reads11
        obtain ⟨g0, g1, g2, g3, g4, g5, g6, g7, g8, g9, g10⟩ := HY.out.opens11
        go_wp2_with fail
        (try simp only [Exit.inBlock, Exit.then])
        refine bodyPost_ret (v := .tuple #[.agg #[.int .i64 (e + 1), .bool o0, .bool o1, .bool o2, .bool o3, .bool true, .int .i64 j0, .int .i64 j1, .int .i64 j2, .int .i64 j3, .int .i64 j4], .bool true]) (by simp [results, Try.results25, go_sem, *]) rfl ⟨rfl, ?_⟩
        have hB1 := H1.out
        repeat' (refine Below.setCell ?_ (by first | exact Nat.le_refl _ | exact Nat.le_succ _) _)
        exact hB1
set_option maxRecDepth 100000 in
set_option maxHeartbeats 8000000 in
theorem cf_incl (c : Cf) (n : Int) (h0 : -9223372036854775808 ≤ c.e) (w : World) : Calls Try.prog 26 #[.agg c.cells, .int .i64 n] w fun e w' => e = .returned (.tuple #[.agg (c.incl n).cells, .bool (thr n && !c.is n && c.more)]) ∧ Below w.heap.size w w' := by
  obtain ⟨W1, hW1⟩ : ∃ W1, (w.alloc (.cells c.cells 39)).alloc (.cells #[.int .i64 0, .bool false, .bool false, .bool false, .bool false, .bool false, .int .i64 0, .int .i64 0, .int .i64 0, .int .i64 0, .int .i64 0] 39) = W1 := ⟨_, rfl⟩
  have hb : Below w.heap.size w W1 := by rw [← hW1]; exact ((Below.refl _ _).alloc (Nat.le_refl _) _).alloc (by simp) _
  have hx : Bx W1 w.heap.size 39 c.cells := by rw [← hW1]; exact (Bx.fresh w _ _).past _
  have hy : Bx W1 (w.heap.size + 1) 39 #[.int .i64 0, .bool false, .bool false, .bool false, .bool false, .bool false, .int .i64 0, .int .i64 0, .int .i64 0, .int .i64 0, .int .i64 0] := by rw [← hW1]; exact Bx.fresh' (w.alloc _) (by simp) _ _
  have C := Lib.hid (cf_is c n W1)
  have HB := Lib.hid (And.intro hb (And.intro hx hy))
  clear hb hx hy
  have CT := Lib.hid (there_any n W1)
  cases ht : thr n with
  | false =>
    have hv : c.incl n = c := by unfold Cf.incl; rw [ht]; rfl
    rw [hv, Bool.false_and, Bool.false_and]
    rw [ht] at CT
    have HX := Lib.hid HB.out.2.1
    have HY := Lib.hid HB.out.2.2
    have H1 := Lib.hid HB.out.1
    clear hv ht C
    obtain ⟨e, o0, o1, o2, o3, o4, j0, j1, j2, j3, j4⟩ := c
    unfold Cf.cells at *
    dsimp only at *
    go_enter Try.func26, Try.ntmps26
    go_wp2_with fail
    refine (CT.out).mono ?_; rintro _ _ ⟨rfl, rfl⟩
    obtain ⟨x0, x1, x2, x3, x4, x5, x6, x7, x8, x9, x10⟩ := HX.out.reads11
    obtain ⟨f0, f1, f2, f3, f4, f5, f6, f7, f8, f9, f10⟩ := HX.out.opens11
    obtain ⟨y0, y1, y2, y3, y4, y5, y6, y7, y8, y9, y10⟩ := HY.out.reads11
    obtain ⟨g0, g1, g2, g3, g4, g5, g6, g7, g8, g9, g10⟩ := HY.out.opens11
    go_wp2_with fail
    (try simp only [Exit.inBlock, Exit.then])
    refine bodyPost_ret (v := .tuple #[.agg #[.int .i64 e, .bool o0, .bool o1, .bool o2, .bool o3, .bool o4, .int .i64 j0, .int .i64 j1, .int .i64 j2, .int .i64 j3, .int .i64 j4], .bool false]) (by simp [results, Try.results26, go_sem, *]) rfl ⟨rfl, ?_⟩
    have hB1 := H1.out
    repeat' (refine Below.setCell ?_ (by first | exact Nat.le_refl _ | exact Nat.le_succ _) _)
    exact hB1

  | true =>
    have hp := thr_at ht
    rw [ht] at CT
    rw [Bool.true_and]
    cases hi : c.is n with
    | true =>
      have hv : c.incl n = c := by unfold Cf.incl; rw [ht, hi]; rfl
      rw [hv, Bool.not_true, Bool.false_and]
      rw [hi] at C
      clear hv hi hp ht
      obtain ⟨e, o0, o1, o2, o3, o4, j0, j1, j2, j3, j4⟩ := c
      unfold Cf.cells at *
      dsimp only at *
      obtain ⟨a0, a1, a2, a3, a4, a5, a6, a7, a8, a9, a10⟩ := HB.out.2.1.reads11
      go_enter Try.func26, Try.ntmps26
      go_wp2_with fail
      refine (CT.out).mono ?_; rintro _ _ ⟨rfl, rfl⟩
      go_wp2_with fail
      refine (C.out).mono ?_; rintro _ w1 ⟨rfl, hb1⟩
      have HX := Lib.hid (HB.out.2.1.next hb1)
      have HY := Lib.hid (HB.out.2.2.next hb1)
      have H1 := Lib.hid (bnext HB.out.1 hb1)
      have hsz := hb1.size
      clear hb1 C a0 a1 a2 a3 a4 a5 a6 a7 a8 a9 a10
      obtain ⟨x0, x1, x2, x3, x4, x5, x6, x7, x8, x9, x10⟩ := HX.out.reads11
      obtain ⟨f0, f1, f2, f3, f4, f5, f6, f7, f8, f9, f10⟩ := HX.out.opens11
      obtain ⟨y0, y1, y2, y3, y4, y5, y6, y7, y8, y9, y10⟩ := HY.out.reads11
      obtain ⟨g0, g1, g2, g3, g4, g5, g6, g7, g8, g9, g10⟩ := HY.out.opens11
      go_wp2_with fail
      (try simp only [Exit.inBlock, Exit.then])
      refine bodyPost_ret (v := .tuple #[.agg #[.int .i64 e, .bool o0, .bool o1, .bool o2, .bool o3, .bool o4, .int .i64 j0, .int .i64 j1, .int .i64 j2, .int .i64 j3, .int .i64 j4], .bool false]) (by simp [results, Try.results26, go_sem, *]) rfl ⟨rfl, ?_⟩
      have hB1 := H1.out
      repeat' (refine Below.setCell ?_ (by first | exact Nat.le_refl _ | exact Nat.le_succ _) _)
      exact hB1

    | false =>
      rw [hi] at C
      rw [Bool.not_false, Bool.true_and]
      cases hm : c.more with
      | false =>
        have hv : c.incl n = c := by unfold Cf.incl; rw [ht, hi, hm]; rfl
        have he : decide (1099511627776 ≤ c.e) = true := by unfold Cf.more at hm; rw [decide_eq_false_iff_not] at hm; rw [decide_eq_true_eq]; omega
        rw [hv]
        clear hv hi hm hp ht
        obtain ⟨e, o0, o1, o2, o3, o4, j0, j1, j2, j3, j4⟩ := c
        unfold Cf.cells at *
        dsimp only at *
        obtain ⟨a0, a1, a2, a3, a4, a5, a6, a7, a8, a9, a10⟩ := HB.out.2.1.reads11
        go_enter Try.func26, Try.ntmps26
        go_wp2_with fail
        refine (CT.out).mono ?_; rintro _ _ ⟨rfl, rfl⟩
        go_wp2_with fail
        refine (C.out).mono ?_; rintro _ w1 ⟨rfl, hb1⟩
        have HX := Lib.hid (HB.out.2.1.next hb1)
        have HY := Lib.hid (HB.out.2.2.next hb1)
        have H1 := Lib.hid (bnext HB.out.1 hb1)
        have hsz := hb1.size
        clear hb1 C a0 a1 a2 a3 a4 a5 a6 a7 a8 a9 a10
        obtain ⟨x0, x1, x2, x3, x4, x5, x6, x7, x8, x9, x10⟩ := HX.out.reads11
        obtain ⟨f0, f1, f2, f3, f4, f5, f6, f7, f8, f9, f10⟩ := HX.out.opens11
        obtain ⟨y0, y1, y2, y3, y4, y5, y6, y7, y8, y9, y10⟩ := HY.out.reads11
        obtain ⟨g0, g1, g2, g3, g4, g5, g6, g7, g8, g9, g10⟩ := HY.out.opens11
        go_wp2_with fail
        (try simp only [Exit.inBlock, Exit.then])
        refine bodyPost_ret (v := .tuple #[.agg #[.int .i64 e, .bool o0, .bool o1, .bool o2, .bool o3, .bool o4, .int .i64 j0, .int .i64 j1, .int .i64 j2, .int .i64 j3, .int .i64 j4], .bool false]) (by simp [results, Try.results26, go_sem, *]) rfl ⟨rfl, ?_⟩
        have hB1 := H1.out
        repeat' (refine Below.setCell ?_ (by first | exact Nat.le_refl _ | exact Nat.le_succ _) _)
        exact hB1

      | true =>
        have he1 : c.e < 1099511627776 := by unfold Cf.more at hm; rwa [decide_eq_true_eq] at hm
        have he : decide (1099511627776 ≤ c.e) = false := by rw [decide_eq_false_iff_not]; omega
        have hw := wrap_up h0 he1
        have hv : c.incl n = (c.upE.setO n false).setJ n (c.e + 1) := by unfold Cf.incl; rw [ht, hi, hm]; rfl
        rw [hv]
        clear hv hi hm he1 ht
        rcases hp with rfl | rfl | rfl | rfl | rfl
        · unfold Cf.upE Cf.setO Cf.setJ
          obtain ⟨e, o0, o1, o2, o3, o4, j0, j1, j2, j3, j4⟩ := c
          unfold Cf.cells at *
          dsimp only at *
          simp only [reduceIte, Int.reduceEq]
          obtain ⟨a0, a1, a2, a3, a4, a5, a6, a7, a8, a9, a10⟩ := HB.out.2.1.reads11
          go_enter Try.func26, Try.ntmps26
          go_wp2_with fail
          refine (CT.out).mono ?_; rintro _ _ ⟨rfl, rfl⟩
          go_wp2_with fail
          refine (C.out).mono ?_; rintro _ w1 ⟨rfl, hb1⟩
          have HX := Lib.hid (HB.out.2.1.next hb1)
          have HY := Lib.hid (HB.out.2.2.next hb1)
          have H1 := Lib.hid (bnext HB.out.1 hb1)
          have hsz := hb1.size
          clear hb1 C a0 a1 a2 a3 a4 a5 a6 a7 a8 a9 a10
          obtain ⟨x0, x1, x2, x3, x4, x5, x6, x7, x8, x9, x10⟩ := HX.out.reads11
          obtain ⟨f0, f1, f2, f3, f4, f5, f6, f7, f8, f9, f10⟩ := HX.out.opens11
          obtain ⟨y0, y1, y2, y3, y4, y5, y6, y7, y8, y9, y10⟩ := HY.out.reads11
          obtain ⟨g0, g1, g2, g3, g4, g5, g6, g7, g8, g9, g10⟩ := HY.out.opens11
          go_wp2_with fail
          (try simp only [Exit.inBlock, Exit.then])
          refine bodyPost_ret (v := .tuple #[.agg #[.int .i64 (e + 1), .bool false, .bool o1, .bool o2, .bool o3, .bool o4, .int .i64 (e + 1), .int .i64 j1, .int .i64 j2, .int .i64 j3, .int .i64 j4], .bool true]) (by simp [results, Try.results26, go_sem, *]) rfl ⟨rfl, ?_⟩
          have hB1 := H1.out
          repeat' (refine Below.setCell ?_ (by first | exact Nat.le_refl _ | exact Nat.le_succ _) _)
          exact hB1
        · unfold Cf.upE Cf.setO Cf.setJ
          obtain ⟨e, o0, o1, o2, o3, o4, j0, j1, j2, j3, j4⟩ := c
          unfold Cf.cells at *
          dsimp only at *
          simp only [reduceIte, Int.reduceEq]
          obtain ⟨a0, a1, a2, a3, a4, a5, a6, a7, a8, a9, a10⟩ := HB.out.2.1.reads11
          go_enter Try.func26, Try.ntmps26
          go_wp2_with fail
          refine (CT.out).mono ?_; rintro _ _ ⟨rfl, rfl⟩
          go_wp2_with fail
          refine (C.out).mono ?_; rintro _ w1 ⟨rfl, hb1⟩
          have HX := Lib.hid (HB.out.2.1.next hb1)
          have HY := Lib.hid (HB.out.2.2.next hb1)
          have H1 := Lib.hid (bnext HB.out.1 hb1)
          have hsz := hb1.size
          clear hb1 C a0 a1 a2 a3 a4 a5 a6 a7 a8 a9 a10
          obtain ⟨x0, x1, x2, x3, x4, x5, x6, x7, x8, x9, x10⟩ := HX.out.reads11
          obtain ⟨f0, f1, f2, f3, f4, f5, f6, f7, f8, f9, f10⟩ := HX.out.opens11
          obtain ⟨y0, y1, y2, y3, y4, y5, y6, y7, y8, y9, y10⟩ := HY.out.reads11
          obtain ⟨g0, g1, g2, g3, g4, g5, g6, g7, g8, g9, g10⟩ := HY.out.opens11
          go_wp2_with fail
          (try simp only [Exit.inBlock, Exit.then])
          refine bodyPost_ret (v := .tuple #[.agg #[.int .i64 (e + 1), .bool o0, .bool false, .bool o2, .bool o3, .bool o4, .int .i64 j0, .int .i64 (e + 1), .int .i64 j2, .int .i64 j3, .int .i64 j4], .bool true]) (by simp [results, Try.results26, go_sem, *]) rfl ⟨rfl, ?_⟩
          have hB1 := H1.out
          repeat' (refine Below.setCell ?_ (by first | exact Nat.le_refl _ | exact Nat.le_succ _) _)
          exact hB1
        · unfold Cf.upE Cf.setO Cf.setJ
          obtain ⟨e, o0, o1, o2, o3, o4, j0, j1, j2, j3, j4⟩ := c
          unfold Cf.cells at *
          dsimp only at *
          simp only [reduceIte, Int.reduceEq]
          obtain ⟨a0, a1, a2, a3, a4, a5, a6, a7, a8, a9, a10⟩ := HB.out.2.1.reads11
          go_enter Try.func26, Try.ntmps26
          go_wp2_with fail
          refine (CT.out).mono ?_; rintro _ _ ⟨rfl, rfl⟩
          go_wp2_with fail
          refine (C.out).mono ?_; rintro _ w1 ⟨rfl, hb1⟩
          have HX := Lib.hid (HB.out.2.1.next hb1)
          have HY := Lib.hid (HB.out.2.2.next hb1)
          have H1 := Lib.hid (bnext HB.out.1 hb1)
          have hsz := hb1.size
          clear hb1 C a0 a1 a2 a3 a4 a5 a6 a7 a8 a9 a10
          obtain ⟨x0, x1, x2, x3, x4, x5, x6, x7, x8, x9, x10⟩ := HX.out.reads11
          obtain ⟨f0, f1, f2, f3, f4, f5, f6, f7, f8, f9, f10⟩ := HX.out.opens11
          obtain ⟨y0, y1, y2, y3, y4, y5, y6, y7, y8, y9, y10⟩ := HY.out.reads11
          obtain ⟨g0, g1, g2, g3, g4, g5, g6, g7, g8, g9, g10⟩ := HY.out.opens11
          go_wp2_with fail
          (try simp only [Exit.inBlock, Exit.then])
          refine bodyPost_ret (v := .tuple #[.agg #[.int .i64 (e + 1), .bool o0, .bool o1, .bool false, .bool o3, .bool o4, .int .i64 j0, .int .i64 j1, .int .i64 (e + 1), .int .i64 j3, .int .i64 j4], .bool true]) (by simp [results, Try.results26, go_sem, *]) rfl ⟨rfl, ?_⟩
          have hB1 := H1.out
          repeat' (refine Below.setCell ?_ (by first | exact Nat.le_refl _ | exact Nat.le_succ _) _)
          exact hB1
        · unfold Cf.upE Cf.setO Cf.setJ
          obtain ⟨e, o0, o1, o2, o3, o4, j0, j1, j2, j3, j4⟩ := c
          unfold Cf.cells at *
          dsimp only at *
          simp only [reduceIte, Int.reduceEq]
          obtain ⟨a0, a1, a2, a3, a4, a5, a6, a7, a8, a9, a10⟩ := HB.out.2.1.reads11
          go_enter Try.func26, Try.ntmps26
          go_wp2_with fail
          refine (CT.out).mono ?_; rintro _ _ ⟨rfl, rfl⟩
          go_wp2_with fail
          refine (C.out).mono ?_; rintro _ w1 ⟨rfl, hb1⟩
          have HX := Lib.hid (HB.out.2.1.next hb1)
          have HY := Lib.hid (HB.out.2.2.next hb1)
          have H1 := Lib.hid (bnext HB.out.1 hb1)
          have hsz := hb1.size
          clear hb1 C a0 a1 a2 a3 a4 a5 a6 a7 a8 a9 a10
          obtain ⟨x0, x1, x2, x3, x4, x5, x6, x7, x8, x9, x10⟩ := HX.out.reads11
          obtain ⟨f0, f1, f2, f3, f4, f5, f6, f7, f8, f9, f10⟩ := HX.out.opens11
          obtain ⟨y0, y1, y2, y3, y4, y5, y6, y7, y8, y9, y10⟩ := HY.out.reads11
          obtain ⟨g0, g1, g2, g3, g4, g5, g6, g7, g8, g9, g10⟩ := HY.out.opens11
          go_wp2_with fail
          (try simp only [Exit.inBlock, Exit.then])
          refine bodyPost_ret (v := .tuple #[.agg #[.int .i64 (e + 1), .bool o0, .bool o1, .bool o2, .bool false, .bool o4, .int .i64 j0, .int .i64 j1, .int .i64 j2, .int .i64 (e + 1), .int .i64 j4], .bool true]) (by simp [results, Try.results26, go_sem, *]) rfl ⟨rfl, ?_⟩
          have hB1 := H1.out
          repeat' (refine Below.setCell ?_ (by first | exact Nat.le_refl _ | exact Nat.le_succ _) _)
          exact hB1
        · unfold Cf.upE Cf.setO Cf.setJ
          obtain ⟨e, o0, o1, o2, o3, o4, j0, j1, j2, j3, j4⟩ := c
          unfold Cf.cells at *
          dsimp only at *
          simp only [reduceIte, Int.reduceEq]
          obtain ⟨a0, a1, a2, a3, a4, a5, a6, a7, a8, a9, a10⟩ := HB.out.2.1.reads11
          go_enter Try.func26, Try.ntmps26
          go_wp2_with fail
          refine (CT.out).mono ?_; rintro _ _ ⟨rfl, rfl⟩
          go_wp2_with fail
          refine (C.out).mono ?_; rintro _ w1 ⟨rfl, hb1⟩
          have HX := Lib.hid (HB.out.2.1.next hb1)
          have HY := Lib.hid (HB.out.2.2.next hb1)
          have H1 := Lib.hid (bnext HB.out.1 hb1)
          have hsz := hb1.size
          clear hb1 C a0 a1 a2 a3 a4 a5 a6 a7 a8 a9 a10
          obtain ⟨x0, x1, x2, x3, x4, x5, x6, x7, x8, x9, x10⟩ := HX.out.reads11
          obtain ⟨f0, f1, f2, f3, f4, f5, f6, f7, f8, f9, f10⟩ := HX.out.opens11
          obtain ⟨y0, y1, y2, y3, y4, y5, y6, y7, y8, y9, y10⟩ := HY.out.reads11
          obtain ⟨g0, g1, g2, g3, g4, g5, g6, g7, g8, g9, g10⟩ := HY.out.opens11
          go_wp2_with fail
          (try simp only [Exit.inBlock, Exit.then])
          refine bodyPost_ret (v := .tuple #[.agg #[.int .i64 (e + 1), .bool o0, .bool o1, .bool o2, .bool o3, .bool false, .int .i64 j0, .int .i64 j1, .int .i64 j2, .int .i64 j3, .int .i64 (e + 1)], .bool true]) (by simp [results, Try.results26, go_sem, *]) rfl ⟨rfl, ?_⟩
          have hB1 := H1.out
          repeat' (refine Below.setCell ?_ (by first | exact Nat.le_refl _ | exact Nat.le_succ _) _)
          exact hB1
end Go.Proofs.Ytaeflfgkdjfnfaa
