/- Layer 36 (diffs): the chapter's example, the statement DiffsRows' walk. -/
import Derived.Test.YtkkhljneeajkmaaB8
namespace Go.Proofs.Ytkkhljneeajkmaa
open Go.RowKit
attribute [local irreducible] wpQuiet

theorem equal_yes (v1 v2 : Value) (L : List En) (hn : L.length ≤ 1000000) (w : World) (h1 : EI w v1 L) (h2 : EI w v2 L) :
    Calls Try.prog 41 #[v1, v2] w fun e w' => e = .returned (.bool true) ∧ Below w.heap.size w w' := by
  refine (equal_any v1 v2 L L hn hn w h1 h2).mono ?_
  rintro e w' ⟨⟨b, rfl, hb⟩, hw⟩
  exact ⟨by rw [hb.2 rfl], hw⟩
/-- The three boxes of the example. -/
structure Bs (w W : World) : Prop where
  a : Bx W w.heap.size 72 #[.string ⟨#[97]⟩, .int .i64 1, .int .i64 0, .int .i64 0]
  b : Bx W (w.heap.size + 1) 72 #[.string ⟨#[98]⟩, .int .i64 1, .int .i64 0, .int .i64 0]
  c : Bx W (w.heap.size + 1 + 1) 72 #[.string ⟨#[99]⟩, .int .i64 1, .int .i64 0, .int .i64 0]
  bel : Below w.heap.size w W
theorem Bs.next {w W W' : World} (h : Bs w W) (hb : Below W.heap.size W W') : Bs w W' := ⟨h.a.next hb, h.b.next hb, h.c.next hb, bnext h.bel hb⟩
theorem Bs.al {w W : World} (h : Bs w W) (o : Obj) : Bs w (W.alloc o) := h.next ((Below.refl _ _).alloc (Nat.le_refl _) _)
theorem Bs.reads {w W : World} (h : Bs w W) : (W.cell? ⟨w.heap.size, 0, none⟩ = some (.string ⟨#[97]⟩) ∧ W.cell? ⟨w.heap.size, 1, none⟩ = some (.int .i64 1) ∧ W.cell? ⟨w.heap.size, 2, none⟩ = some (.int .i64 0) ∧ W.cell? ⟨w.heap.size, 3, none⟩ = some (.int .i64 0)) ∧
    (W.cell? ⟨w.heap.size + 1, 0, none⟩ = some (.string ⟨#[98]⟩) ∧ W.cell? ⟨w.heap.size + 1, 1, none⟩ = some (.int .i64 1) ∧ W.cell? ⟨w.heap.size + 1, 2, none⟩ = some (.int .i64 0) ∧ W.cell? ⟨w.heap.size + 1, 3, none⟩ = some (.int .i64 0)) ∧
    (W.cell? ⟨w.heap.size + 1 + 1, 0, none⟩ = some (.string ⟨#[99]⟩) ∧ W.cell? ⟨w.heap.size + 1 + 1, 1, none⟩ = some (.int .i64 1) ∧ W.cell? ⟨w.heap.size + 1 + 1, 2, none⟩ = some (.int .i64 0) ∧ W.cell? ⟨w.heap.size + 1 + 1, 3, none⟩ = some (.int .i64 0)) :=
  ⟨⟨h.a.read rfl, h.a.read rfl, h.a.read rfl, h.a.read rfl⟩, ⟨h.b.read rfl, h.b.read rfl, h.b.read rfl, h.b.read rfl⟩, ⟨h.c.read rfl, h.c.read rfl, h.c.read rfl, h.c.read rfl⟩⟩
set_option maxRecDepth 100000 in
set_option maxHeartbeats 8000000 in
theorem alive36_any (w : World) : Calls Try.prog 43 #[] w fun e w' => e = .returned (.bool true) ∧ Below w.heap.size w w' := by
  have CD := Lib.hid (fun W v1 v2 h1 h2 => diff_any v1 v2 [eA, eB] [eB, eC] ab_up.1 ab_up.2 (by simp) (by simp) W h1 h2)
  rw [ab_less.1, ab_less.2.1, ab_less.2.2] at CD
  have HS0 := Lib.hid (show Bs w (((w.alloc (.cells #[.string ⟨#[97]⟩, .int .i64 1, .int .i64 0, .int .i64 0] 72)).alloc (.cells #[.string ⟨#[98]⟩, .int .i64 1, .int .i64 0, .int .i64 0] 72)).alloc (.cells #[.string ⟨#[99]⟩, .int .i64 1, .int .i64 0, .int .i64 0] 72)) from
    ⟨((Bx.fresh w _ _).past _).past _, (Bx.fresh' (w.alloc _) (by simp) _ _).past _, Bx.fresh' ((w.alloc _).alloc _) (by simp) _ _, (((Below.refl _ _).alloc (Nat.le_refl _) _).alloc (by simp) _).alloc (by simp; omega) _⟩)
  have E1 := Lib.hid (show EI (((((w.alloc (.cells #[.string ⟨#[97]⟩, .int .i64 1, .int .i64 0, .int .i64 0] 72)).alloc (.cells #[.string ⟨#[98]⟩, .int .i64 1, .int .i64 0, .int .i64 0] 72)).alloc (.cells #[.string ⟨#[99]⟩, .int .i64 1, .int .i64 0, .int .i64 0] 72)).alloc (.cells #[.string ⟨#[97]⟩, .int .i64 1, .int .i64 0, .int .i64 0, .string ⟨#[98]⟩, .int .i64 1, .int .i64 0, .int .i64 0] 72)).alloc (.cells #[.string ⟨#[98]⟩, .int .i64 1, .int .i64 0, .int .i64 0, .string ⟨#[99]⟩, .int .i64 1, .int .i64 0, .int .i64 0] 72)) (.slice (some ⟨w.heap.size + 1 + 1 + 1, 0, none⟩) 2 2) [eA, eB] from by
    have h := (ei_two (((w.alloc (.cells #[.string ⟨#[97]⟩, .int .i64 1, .int .i64 0, .int .i64 0] 72)).alloc (.cells #[.string ⟨#[98]⟩, .int .i64 1, .int .i64 0, .int .i64 0] 72)).alloc (.cells #[.string ⟨#[99]⟩, .int .i64 1, .int .i64 0, .int .i64 0] 72)) eA eB).next (show Below ((((w.alloc (.cells #[.string ⟨#[97]⟩, .int .i64 1, .int .i64 0, .int .i64 0] 72)).alloc (.cells #[.string ⟨#[98]⟩, .int .i64 1, .int .i64 0, .int .i64 0] 72)).alloc (.cells #[.string ⟨#[99]⟩, .int .i64 1, .int .i64 0, .int .i64 0] 72)).alloc (.cells #[.string ⟨#[97]⟩, .int .i64 1, .int .i64 0, .int .i64 0, .string ⟨#[98]⟩, .int .i64 1, .int .i64 0, .int .i64 0] 72)).heap.size ((((w.alloc (.cells #[.string ⟨#[97]⟩, .int .i64 1, .int .i64 0, .int .i64 0] 72)).alloc (.cells #[.string ⟨#[98]⟩, .int .i64 1, .int .i64 0, .int .i64 0] 72)).alloc (.cells #[.string ⟨#[99]⟩, .int .i64 1, .int .i64 0, .int .i64 0] 72)).alloc (.cells #[.string ⟨#[97]⟩, .int .i64 1, .int .i64 0, .int .i64 0, .string ⟨#[98]⟩, .int .i64 1, .int .i64 0, .int .i64 0] 72)) (((((w.alloc (.cells #[.string ⟨#[97]⟩, .int .i64 1, .int .i64 0, .int .i64 0] 72)).alloc (.cells #[.string ⟨#[98]⟩, .int .i64 1, .int .i64 0, .int .i64 0] 72)).alloc (.cells #[.string ⟨#[99]⟩, .int .i64 1, .int .i64 0, .int .i64 0] 72)).alloc (.cells #[.string ⟨#[97]⟩, .int .i64 1, .int .i64 0, .int .i64 0, .string ⟨#[98]⟩, .int .i64 1, .int .i64 0, .int .i64 0] 72)).alloc (.cells #[.string ⟨#[98]⟩, .int .i64 1, .int .i64 0, .int .i64 0, .string ⟨#[99]⟩, .int .i64 1, .int .i64 0, .int .i64 0] 72)) from (Below.refl _ _).alloc (Nat.le_refl _) _)
    have hs : (((w.alloc (.cells #[.string ⟨#[97]⟩, .int .i64 1, .int .i64 0, .int .i64 0] 72)).alloc (.cells #[.string ⟨#[98]⟩, .int .i64 1, .int .i64 0, .int .i64 0] 72)).alloc (.cells #[.string ⟨#[99]⟩, .int .i64 1, .int .i64 0, .int .i64 0] 72)).heap.size = w.heap.size + 1 + 1 + 1 := by simp
    rw [hs] at h
    exact h)
  have E2 := Lib.hid (show EI (((((w.alloc (.cells #[.string ⟨#[97]⟩, .int .i64 1, .int .i64 0, .int .i64 0] 72)).alloc (.cells #[.string ⟨#[98]⟩, .int .i64 1, .int .i64 0, .int .i64 0] 72)).alloc (.cells #[.string ⟨#[99]⟩, .int .i64 1, .int .i64 0, .int .i64 0] 72)).alloc (.cells #[.string ⟨#[97]⟩, .int .i64 1, .int .i64 0, .int .i64 0, .string ⟨#[98]⟩, .int .i64 1, .int .i64 0, .int .i64 0] 72)).alloc (.cells #[.string ⟨#[98]⟩, .int .i64 1, .int .i64 0, .int .i64 0, .string ⟨#[99]⟩, .int .i64 1, .int .i64 0, .int .i64 0] 72)) (.slice (some ⟨w.heap.size + 1 + 1 + 1 + 1, 0, none⟩) 2 2) [eB, eC] from by
    have h := ei_two ((((w.alloc (.cells #[.string ⟨#[97]⟩, .int .i64 1, .int .i64 0, .int .i64 0] 72)).alloc (.cells #[.string ⟨#[98]⟩, .int .i64 1, .int .i64 0, .int .i64 0] 72)).alloc (.cells #[.string ⟨#[99]⟩, .int .i64 1, .int .i64 0, .int .i64 0] 72)).alloc (.cells #[.string ⟨#[97]⟩, .int .i64 1, .int .i64 0, .int .i64 0, .string ⟨#[98]⟩, .int .i64 1, .int .i64 0, .int .i64 0] 72)) eB eC
    have hs : ((((w.alloc (.cells #[.string ⟨#[97]⟩, .int .i64 1, .int .i64 0, .int .i64 0] 72)).alloc (.cells #[.string ⟨#[98]⟩, .int .i64 1, .int .i64 0, .int .i64 0] 72)).alloc (.cells #[.string ⟨#[99]⟩, .int .i64 1, .int .i64 0, .int .i64 0] 72)).alloc (.cells #[.string ⟨#[97]⟩, .int .i64 1, .int .i64 0, .int .i64 0, .string ⟨#[98]⟩, .int .i64 1, .int .i64 0, .int .i64 0] 72)).heap.size = w.heap.size + 1 + 1 + 1 + 1 := by simp
    rw [hs] at h
    exact h)
  have HS1 := Lib.hid ((HS0.out.al (.cells #[.string ⟨#[97]⟩, .int .i64 1, .int .i64 0, .int .i64 0, .string ⟨#[98]⟩, .int .i64 1, .int .i64 0, .int .i64 0] 72)).al (.cells #[.string ⟨#[98]⟩, .int .i64 1, .int .i64 0, .int .i64 0, .string ⟨#[99]⟩, .int .i64 1, .int .i64 0, .int .i64 0] 72))
  go_enter Try.func43, Try.ntmps43
  go_wp2_with fail
  refine (CD.out _ _ _ E1.out E2.out).mono ?_; rintro e w6 ⟨⟨v1, v2, v3, rfl, h1, h2, h3⟩, hb6⟩
  have HS6 := Lib.hid (HS1.out.next hb6)
  have H6 := Lib.hid (And.intro h1.in_ (And.intro h2.in_ h3.in_))
  clear h1 h2 h3 hb6 CD HS0 E1 E2 HS1
  obtain ⟨⟨a0, a1, a2, a3⟩, ⟨b0, b1, b2, b3⟩, ⟨c0, c1, c2, c3⟩⟩ := HS6.out.reads
  go_wp2_with fail
  refine (equal_yes _ _ [eA] (by simp) _ (H6.out.1.next ((Below.refl _ _).alloc (Nat.le_refl _) _)) (ei_one _ eA)).mono ?_; rintro e w7 ⟨rfl, hb7⟩
  have HS7 := Lib.hid ((HS6.out.al _).next hb7)
  have NX7 := Lib.hid (fun v L (h : EI w6 v L) => (h.next ((Below.refl _ _).alloc (Nat.le_refl _) _)).next hb7)
  clear hb7 a0 a1 a2 a3 b0 b1 b2 b3 c0 c1 c2 c3
  obtain ⟨⟨a0, a1, a2, a3⟩, ⟨b0, b1, b2, b3⟩, ⟨c0, c1, c2, c3⟩⟩ := HS7.out.reads
  go_wp2_with fail
  refine (equal_yes _ _ [eC] (by simp) _ ((NX7.out _ _ H6.out.2.1).next ((Below.refl _ _).alloc (Nat.le_refl _) _)) (ei_one _ eC)).mono ?_; rintro e w8 ⟨rfl, hb8⟩
  have HS8 := Lib.hid ((HS7.out.al _).next hb8)
  have NX8 := Lib.hid (fun v L (h : EI w7 v L) => (h.next ((Below.refl _ _).alloc (Nat.le_refl _) _)).next hb8)
  clear hb8 a0 a1 a2 a3 b0 b1 b2 b3 c0 c1 c2 c3
  obtain ⟨⟨a0, a1, a2, a3⟩, ⟨b0, b1, b2, b3⟩, ⟨c0, c1, c2, c3⟩⟩ := HS8.out.reads
  go_wp2_with fail
  refine (equal_yes _ _ [eB] (by simp) _ ((NX8.out _ _ (NX7.out _ _ H6.out.2.2)).next ((Below.refl _ _).alloc (Nat.le_refl _) _)) (ei_one _ eB)).mono ?_; rintro e w9 ⟨rfl, hb9⟩
  have HS9 := Lib.hid ((HS8.out.al _).next hb9)
  have NX9 := Lib.hid (fun v L (h : EI w8 v L) => (h.next ((Below.refl _ _).alloc (Nat.le_refl _) _)).next hb9)
  clear hb9 a0 a1 a2 a3 b0 b1 b2 b3 c0 c1 c2 c3
  go_wp2_with fail
  go_ret
  exact ⟨rfl, HS9.out.bel⟩
end Go.Proofs.Ytkkhljneeajkmaa
