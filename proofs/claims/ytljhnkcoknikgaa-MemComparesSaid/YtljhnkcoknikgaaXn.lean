/- Layer 13 (mem): the second mutation of the example put ahead of the first one; Put. -/
import Derived.Test.YtljhnkcoknikgaaXm
import Derived.Lib.QuietBelow
namespace Go.Proofs.Ytljhnkcoknikgaa
open Go.RowKit
attribute [local irreducible] wpQuiet

set_option maxRecDepth 100000 in
set_option maxHeartbeats 4000000 in
theorem with_b (g1 : Nat) (w : World) (h : Bx w g1 166 #[.int .i64 1, .int .i64 1, .string ⟨#[98]⟩, .string ⟨#[]⟩, .string ⟨#[]⟩, .int .i64 0, .int .i64 1, .int .i64 0, .int .i64 0, .slice none 0 0, .pointer none, .pointer none, .int .i64 1]) : Calls Try.prog 119 #[.pointer (some ⟨g1, 0, none⟩), .agg #[.int .i64 1, .int .i64 1, .string ⟨#[97]⟩, .string ⟨#[]⟩, .string ⟨#[]⟩, .int .i64 0, .int .i64 2, .int .i64 0, .int .i64 0, .slice none 0 0]] w fun e w' => ∃ g gA, e = .returned (.tuple #[.pointer (some ⟨g, 0, none⟩), .bool true]) ∧ Bx w' g 166 #[.int .i64 1, .int .i64 1, .string ⟨#[98]⟩, .string ⟨#[]⟩, .string ⟨#[]⟩, .int .i64 0, .int .i64 1, .int .i64 0, .int .i64 0, .slice none 0 0, .pointer (some ⟨gA, 0, none⟩), .pointer none, .int .i64 2] ∧ Bx w' gA 166 #[.int .i64 1, .int .i64 1, .string ⟨#[97]⟩, .string ⟨#[]⟩, .string ⟨#[]⟩, .int .i64 0, .int .i64 2, .int .i64 0, .int .i64 0, .slice none 0 0, .pointer none, .pointer none, .int .i64 1] ∧ w.heap.size ≤ g ∧ w.heap.size ≤ gA ∧ Below w.heap.size w w' := by
  have hb0 : Below w.heap.size w (w.alloc (.cells #[.int .i64 1, .int .i64 1, .string ⟨#[97]⟩, .string ⟨#[]⟩, .string ⟨#[]⟩, .int .i64 0, .int .i64 2, .int .i64 0, .int .i64 0, .slice none 0 0] 40)) := (Below.refl _ _).alloc (Nat.le_refl _) _
  have H0 := Lib.hid (show Below w.heap.size w (w.alloc (.cells #[.int .i64 1, .int .i64 1, .string ⟨#[97]⟩, .string ⟨#[]⟩, .string ⟨#[]⟩, .int .i64 0, .int .i64 2, .int .i64 0, .int .i64 0, .slice none 0 0] 40)) ∧ Bx (w.alloc (.cells #[.int .i64 1, .int .i64 1, .string ⟨#[97]⟩, .string ⟨#[]⟩, .string ⟨#[]⟩, .int .i64 0, .int .i64 2, .int .i64 0, .int .i64 0, .slice none 0 0] 40)) g1 166 #[.int .i64 1, .int .i64 1, .string ⟨#[98]⟩, .string ⟨#[]⟩, .string ⟨#[]⟩, .int .i64 0, .int .i64 1, .int .i64 0, .int .i64 0, .slice none 0 0, .pointer none, .pointer none, .int .i64 1] ∧ Bx (w.alloc (.cells #[.int .i64 1, .int .i64 1, .string ⟨#[97]⟩, .string ⟨#[]⟩, .string ⟨#[]⟩, .int .i64 0, .int .i64 2, .int .i64 0, .int .i64 0, .slice none 0 0] 40)) w.heap.size 40 #[.int .i64 1, .int .i64 1, .string ⟨#[97]⟩, .string ⟨#[]⟩, .string ⟨#[]⟩, .int .i64 0, .int .i64 2, .int .i64 0, .int .i64 0, .slice none 0 0] from ⟨hb0, h.next hb0, Bx.fresh _ _ _⟩)
  have CC := Lib.hid (fun W => comp_ab W)
  have CW := Lib.hid (fun W => with_nil 1 1 0 2 0 0 ⟨#[97]⟩ ⟨#[]⟩ ⟨#[]⟩ W)
  have CB := Lib.hid (fun g W (h : W.cell? ⟨g, 12, none⟩ = some (.int .i64 1)) => balance_an g 1 1 0 1 0 0 ⟨#[98]⟩ ⟨#[]⟩ ⟨#[]⟩ W h)
  have n10 := H0.out.2.1.read (i := 10) rfl
  have n11 := H0.out.2.1.read (i := 11) rfl
  clear hb0 h
  go_enter Try.func119, Try.ntmps119
  go_wp2_with fail
  go_quiet (fail)
  have H1 := Lib.hid (show Below w.heap.size w ((w.alloc (.cells #[.int .i64 1, .int .i64 1, .string ⟨#[97]⟩, .string ⟨#[]⟩, .string ⟨#[]⟩, .int .i64 0, .int .i64 2, .int .i64 0, .int .i64 0, .slice none 0 0] 40)).drewN nq) ∧ Bx ((w.alloc (.cells #[.int .i64 1, .int .i64 1, .string ⟨#[97]⟩, .string ⟨#[]⟩, .string ⟨#[]⟩, .int .i64 0, .int .i64 2, .int .i64 0, .int .i64 0, .slice none 0 0] 40)).drewN nq) g1 166 #[.int .i64 1, .int .i64 1, .string ⟨#[98]⟩, .string ⟨#[]⟩, .string ⟨#[]⟩, .int .i64 0, .int .i64 1, .int .i64 0, .int .i64 0, .slice none 0 0, .pointer none, .pointer none, .int .i64 1] ∧ Bx ((w.alloc (.cells #[.int .i64 1, .int .i64 1, .string ⟨#[97]⟩, .string ⟨#[]⟩, .string ⟨#[]⟩, .int .i64 0, .int .i64 2, .int .i64 0, .int .i64 0, .slice none 0 0] 40)).drewN nq) w.heap.size 40 #[.int .i64 1, .int .i64 1, .string ⟨#[97]⟩, .string ⟨#[]⟩, .string ⟨#[]⟩, .int .i64 0, .int .i64 2, .int .i64 0, .int .i64 0, .slice none 0 0] from ⟨below_drewN H0.out.1 _, H0.out.2.1.drawn _, H0.out.2.2.drawn _⟩)
  clear n10 n11 H0
  generalize (w.alloc (.cells #[.int .i64 1, .int .i64 1, .string ⟨#[97]⟩, .string ⟨#[]⟩, .string ⟨#[]⟩, .int .i64 0, .int .i64 2, .int .i64 0, .int .i64 0, .slice none 0 0] 40)).drewN nq = W1 at *
  have a0 := Go.cell_regrown (H1.out.2.2.read (i := 0) rfl)
  have b0 := Go.cell_regrown (H1.out.2.1.read (i := 0) rfl)
  have a1 := Go.cell_regrown (H1.out.2.2.read (i := 1) rfl)
  have b1 := Go.cell_regrown (H1.out.2.1.read (i := 1) rfl)
  have a2 := Go.cell_regrown (H1.out.2.2.read (i := 2) rfl)
  have b2 := Go.cell_regrown (H1.out.2.1.read (i := 2) rfl)
  have a3 := Go.cell_regrown (H1.out.2.2.read (i := 3) rfl)
  have b3 := Go.cell_regrown (H1.out.2.1.read (i := 3) rfl)
  have a4 := Go.cell_regrown (H1.out.2.2.read (i := 4) rfl)
  have b4 := Go.cell_regrown (H1.out.2.1.read (i := 4) rfl)
  have a5 := Go.cell_regrown (H1.out.2.2.read (i := 5) rfl)
  have b5 := Go.cell_regrown (H1.out.2.1.read (i := 5) rfl)
  have a6 := Go.cell_regrown (H1.out.2.2.read (i := 6) rfl)
  have b6 := Go.cell_regrown (H1.out.2.1.read (i := 6) rfl)
  have a7 := Go.cell_regrown (H1.out.2.2.read (i := 7) rfl)
  have b7 := Go.cell_regrown (H1.out.2.1.read (i := 7) rfl)
  have a8 := Go.cell_regrown (H1.out.2.2.read (i := 8) rfl)
  have b8 := Go.cell_regrown (H1.out.2.1.read (i := 8) rfl)
  have a9 := Go.cell_regrown (H1.out.2.2.read (i := 9) rfl)
  have b9 := Go.cell_regrown (H1.out.2.1.read (i := 9) rfl)
  have d1 : ∀ q os, Calls Try.prog 29 #[.agg #[.int .i64 1, .int .i64 1, .string ⟨#[97]⟩, .string ⟨#[]⟩, .string ⟨#[]⟩, .int .i64 0, .int .i64 2, .int .i64 0, .int .i64 0, .slice none 0 0], .agg #[.int .i64 1, .int .i64 1, .string ⟨#[98]⟩, .string ⟨#[]⟩, .string ⟨#[]⟩, .int .i64 0, .int .i64 1, .int .i64 0, .int .i64 0, .slice none 0 0]] (Go.Sort.grow (Go.redrawn W1 q) os) fun e w'' => e = .returned (.int .i64 (-1)) ∧ ∃ p : Go.Regrown, w'' = Go.Sort.grow (Go.redrawn W1 p.d) p.os := fun q os => Calls.regrown_of (CC.out _)
  have D1 := Lib.hid d1
  clear d1 CC
  go_wp2_with fail
  refine Go.wp_region_quiet_below (by kernel_rfl) (by kernel_rfl) ?_
  repeat (quiet_step (first | with_reducible exact D1.out _ _))
  refine wpQuiet_nil ?_
  intro _ hw'
  obtain ⟨⟨dq, osq⟩, hw''⟩ := hw'
  subst hw''
  have hbq := Go.below_regrown W1 dq osq
  have H2 := Lib.hid (And.intro (bnext H1.out.1 hbq) (And.intro (H1.out.2.1.next hbq) (H1.out.2.2.next hbq)))
  clear a0 b0 a1 b1 a2 b2 a3 b3 a4 b4 a5 b5 a6 b6 a7 b7 a8 b8 a9 b9 hbq D1 H1
  generalize Go.Sort.grow (Go.redrawn W1 dq) osq = W2 at *
  have a0 := H2.out.2.2.read (i := 0) rfl
  have a1 := H2.out.2.2.read (i := 1) rfl
  have a2 := H2.out.2.2.read (i := 2) rfl
  have a3 := H2.out.2.2.read (i := 3) rfl
  have a4 := H2.out.2.2.read (i := 4) rfl
  have a5 := H2.out.2.2.read (i := 5) rfl
  have a6 := H2.out.2.2.read (i := 6) rfl
  have a7 := H2.out.2.2.read (i := 7) rfl
  have a8 := H2.out.2.2.read (i := 8) rfl
  have a9 := H2.out.2.2.read (i := 9) rfl
  go_wp2_with fail
  refine (CW.out _).mono ?_; rintro e W3 ⟨gA, rfl, hA, hgA, hb3⟩
  have H3 := Lib.hid (And.intro (bnext H2.out.1 hb3) (And.intro (H2.out.2.1.next hb3) (And.intro hA (Nat.le_trans H2.out.1.size hgA))))
  clear a0 a1 a2 a3 a4 a5 a6 a7 a8 a9 hA hgA hb3 H2
  have b0 := H3.out.2.1.read (i := 0) rfl
  have b1 := H3.out.2.1.read (i := 1) rfl
  have b2 := H3.out.2.1.read (i := 2) rfl
  have b3 := H3.out.2.1.read (i := 3) rfl
  have b4 := H3.out.2.1.read (i := 4) rfl
  have b5 := H3.out.2.1.read (i := 5) rfl
  have b6 := H3.out.2.1.read (i := 6) rfl
  have b7 := H3.out.2.1.read (i := 7) rfl
  have b8 := H3.out.2.1.read (i := 8) rfl
  have b9 := H3.out.2.1.read (i := 9) rfl
  go_wp2_with fail
  refine (CB.out gA _ (H3.out.2.2.1.read (i := 12) rfl)).mono ?_; rintro e W4 ⟨g, rfl, hx, hg, hb4⟩
  have H4 := Lib.hid (And.intro hx (And.intro (H3.out.2.2.1.next hb4) (And.intro (Nat.le_trans H3.out.1.size hg) (And.intro H3.out.2.2.2 (bnext H3.out.1 hb4)))))
  clear b0 b1 b2 b3 b4 b5 b6 b7 b8 b9 hx hg hb4 H3
  go_wp2_with fail
  go_ret2
  exact ⟨g, gA, rfl, H4.out⟩
/-- What is kept while a tree is asked. -/
def KTb (w : World) (gt : Nat) (W : World) : Prop := Below w.heap.size w W ∧ Bx W gt 98 #[.pointer none, .int .i64 0]
theorem KTb.next {w W W' : World} {gt : Nat} (h : KTb w gt W) (hb : Below W.heap.size W W') : KTb w gt W' := ⟨bnext h.1 hb, h.2.next hb⟩
set_option maxRecDepth 100000 in
set_option maxHeartbeats 8000000 in
theorem put_b (gt : Nat) (w : World) (h : Bx w gt 98 #[.pointer none, .int .i64 0]) : Calls Try.prog 77 #[.pointer (some ⟨gt, 0, none⟩), .agg #[.int .i64 1, .int .i64 1, .string ⟨#[98]⟩, .string ⟨#[]⟩, .string ⟨#[]⟩, .int .i64 0, .int .i64 1, .int .i64 0, .int .i64 0, .slice none 0 0]] w fun e w' => ∃ g, e = .returned (.bool true) ∧ Bx w' gt 98 #[.pointer (some ⟨g, 0, none⟩), .int .i64 1] ∧ Bx w' g 166 #[.int .i64 1, .int .i64 1, .string ⟨#[98]⟩, .string ⟨#[]⟩, .string ⟨#[]⟩, .int .i64 0, .int .i64 1, .int .i64 0, .int .i64 0, .slice none 0 0, .pointer none, .pointer none, .int .i64 1] ∧ Below gt w w' := by
  have hgt := h.inside
  have hb0 : Below w.heap.size w (w.alloc (.cells #[.int .i64 1, .int .i64 1, .string ⟨#[98]⟩, .string ⟨#[]⟩, .string ⟨#[]⟩, .int .i64 0, .int .i64 1, .int .i64 0, .int .i64 0, .slice none 0 0] 40)) := (Below.refl _ _).alloc (Nat.le_refl _) _
  have H0 := Lib.hid (show KTb w gt (w.alloc (.cells #[.int .i64 1, .int .i64 1, .string ⟨#[98]⟩, .string ⟨#[]⟩, .string ⟨#[]⟩, .int .i64 0, .int .i64 1, .int .i64 0, .int .i64 0, .slice none 0 0] 40)) ∧ Bx (w.alloc (.cells #[.int .i64 1, .int .i64 1, .string ⟨#[98]⟩, .string ⟨#[]⟩, .string ⟨#[]⟩, .int .i64 0, .int .i64 1, .int .i64 0, .int .i64 0, .slice none 0 0] 40)) w.heap.size 40 #[.int .i64 1, .int .i64 1, .string ⟨#[98]⟩, .string ⟨#[]⟩, .string ⟨#[]⟩, .int .i64 0, .int .i64 1, .int .i64 0, .int .i64 0, .slice none 0 0] from ⟨⟨hb0, h.next hb0⟩, Bx.fresh _ _ _⟩)
  have CR := Lib.hid (fun W => right_b W)
  have CW := Lib.hid (fun (W : World) (hW : W.cell? ⟨w.heap.size, 0, none⟩ = some (.int .i64 1) ∧ W.cell? ⟨w.heap.size, 1, none⟩ = some (.int .i64 1) ∧ W.cell? ⟨w.heap.size, 2, none⟩ = some (.string ⟨#[98]⟩) ∧ W.cell? ⟨w.heap.size, 3, none⟩ = some (.string ⟨#[]⟩) ∧ W.cell? ⟨w.heap.size, 4, none⟩ = some (.string ⟨#[]⟩) ∧ W.cell? ⟨w.heap.size, 5, none⟩ = some (.int .i64 0) ∧ W.cell? ⟨w.heap.size, 6, none⟩ = some (.int .i64 1) ∧ W.cell? ⟨w.heap.size, 7, none⟩ = some (.int .i64 0) ∧ W.cell? ⟨w.heap.size, 8, none⟩ = some (.int .i64 0) ∧ W.cell? ⟨w.heap.size, 9, none⟩ = some (.slice none 0 0) ∧ W.cell? ⟨gt, 0, none⟩ = some (.pointer none) ∧ Hid (KTb w gt W)) => (with_nil 1 1 0 1 0 0 ⟨#[98]⟩ ⟨#[]⟩ ⟨#[]⟩ W).mono (R' := fun e w' => ∃ g, e = .returned (.tuple #[.pointer (some ⟨g, 0, none⟩), .bool true]) ∧ (w'.cell? ⟨w.heap.size, 0, none⟩ = some (.int .i64 1) ∧ w'.cell? ⟨w.heap.size, 1, none⟩ = some (.int .i64 1) ∧ w'.cell? ⟨w.heap.size, 2, none⟩ = some (.string ⟨#[98]⟩) ∧ w'.cell? ⟨w.heap.size, 3, none⟩ = some (.string ⟨#[]⟩) ∧ w'.cell? ⟨w.heap.size, 4, none⟩ = some (.string ⟨#[]⟩) ∧ w'.cell? ⟨w.heap.size, 5, none⟩ = some (.int .i64 0) ∧ w'.cell? ⟨w.heap.size, 6, none⟩ = some (.int .i64 1) ∧ w'.cell? ⟨w.heap.size, 7, none⟩ = some (.int .i64 0) ∧ w'.cell? ⟨w.heap.size, 8, none⟩ = some (.int .i64 0) ∧ w'.cell? ⟨w.heap.size, 9, none⟩ = some (.slice none 0 0) ∧ w'.cell? ⟨gt, 0, none⟩ = some (.pointer none) ∧ Hid (KTb w gt w')) ∧ Hid (Bx w' g 166 #[.int .i64 1, .int .i64 1, .string ⟨#[98]⟩, .string ⟨#[]⟩, .string ⟨#[]⟩, .int .i64 0, .int .i64 1, .int .i64 0, .int .i64 0, .slice none 0 0, .pointer none, .pointer none, .int .i64 1] ∧ W.heap.size ≤ g)) (fun e w' ⟨g, r, x1, x3, b⟩ => ⟨g, r, ⟨cell_nx b hW.1, cell_nx b hW.2.1, cell_nx b hW.2.2.1, cell_nx b hW.2.2.2.1, cell_nx b hW.2.2.2.2.1, cell_nx b hW.2.2.2.2.2.1, cell_nx b hW.2.2.2.2.2.2.1, cell_nx b hW.2.2.2.2.2.2.2.1, cell_nx b hW.2.2.2.2.2.2.2.2.1, cell_nx b hW.2.2.2.2.2.2.2.2.2.1, cell_nx b hW.2.2.2.2.2.2.2.2.2.2.1, Hid.mk' (hW.2.2.2.2.2.2.2.2.2.2.2.out.next b)⟩, Lib.hid ⟨x1, x3⟩⟩))
  clear hb0 h
  go_enter Try.func77, Try.ntmps77
  go_wp2_with fail
  refine (CR.out _).mono ?_; rintro e W1 ⟨rfl, hb1⟩
  have H1 := Lib.hid (And.intro (H0.out.1.next hb1) (H0.out.2.next hb1))
  clear hb1 H0
  go_wp2_with fail
  have hs : W1.drew.cell? ⟨w.heap.size, 0, none⟩ = some (.int .i64 1) ∧ W1.drew.cell? ⟨w.heap.size, 1, none⟩ = some (.int .i64 1) ∧ W1.drew.cell? ⟨w.heap.size, 2, none⟩ = some (.string ⟨#[98]⟩) ∧ W1.drew.cell? ⟨w.heap.size, 3, none⟩ = some (.string ⟨#[]⟩) ∧ W1.drew.cell? ⟨w.heap.size, 4, none⟩ = some (.string ⟨#[]⟩) ∧ W1.drew.cell? ⟨w.heap.size, 5, none⟩ = some (.int .i64 0) ∧ W1.drew.cell? ⟨w.heap.size, 6, none⟩ = some (.int .i64 1) ∧ W1.drew.cell? ⟨w.heap.size, 7, none⟩ = some (.int .i64 0) ∧ W1.drew.cell? ⟨w.heap.size, 8, none⟩ = some (.int .i64 0) ∧ W1.drew.cell? ⟨w.heap.size, 9, none⟩ = some (.slice none 0 0) ∧ W1.drew.cell? ⟨gt, 0, none⟩ = some (.pointer none) ∧ Hid (KTb w gt W1.drew) := ⟨H1.out.2.read (i := 0) rfl, H1.out.2.read (i := 1) rfl, H1.out.2.read (i := 2) rfl, H1.out.2.read (i := 3) rfl, H1.out.2.read (i := 4) rfl, H1.out.2.read (i := 5) rfl, H1.out.2.read (i := 6) rfl, H1.out.2.read (i := 7) rfl, H1.out.2.read (i := 8) rfl, H1.out.2.read (i := 9) rfl, H1.out.1.2.read (i := 0) rfl, Hid.mk' (H1.out.1.next (Below.refl _ _).drew)⟩
  have HS := Lib.hid hs
  obtain ⟨hs0, hs1, hs2, hs3, hs4, hs5, hs6, hs7, hs8, hs9, hs10, hs11⟩ := hs
  clear CR
  go_region_held3 (fun W => W.cell? ⟨w.heap.size, 0, none⟩ = some (.int .i64 1) ∧ W.cell? ⟨w.heap.size, 1, none⟩ = some (.int .i64 1) ∧ W.cell? ⟨w.heap.size, 2, none⟩ = some (.string ⟨#[98]⟩) ∧ W.cell? ⟨w.heap.size, 3, none⟩ = some (.string ⟨#[]⟩) ∧ W.cell? ⟨w.heap.size, 4, none⟩ = some (.string ⟨#[]⟩) ∧ W.cell? ⟨w.heap.size, 5, none⟩ = some (.int .i64 0) ∧ W.cell? ⟨w.heap.size, 6, none⟩ = some (.int .i64 1) ∧ W.cell? ⟨w.heap.size, 7, none⟩ = some (.int .i64 0) ∧ W.cell? ⟨w.heap.size, 8, none⟩ = some (.int .i64 0) ∧ W.cell? ⟨w.heap.size, 9, none⟩ = some (.slice none 0 0) ∧ W.cell? ⟨gt, 0, none⟩ = some (.pointer none) ∧ Hid (KTb w gt W))
    (first | with_reducible assumption | (with_reducible exact HS.out) | (with_reducible refine ⟨?_, ?_, ?_, ?_, ?_, ?_, ?_, ?_, ?_, ?_, ?_, ?_⟩ <;> assumption))
    (first
      | (go_at_call 119; refine (CW.out _ (by first | assumption | exact HS.out)).mono ?_; rintro e w6 ⟨g, rfl, ⟨k0, k1, k2, k3, k4, k5, k6, k7, k8, k9, k10, k11⟩, hq⟩)
      | fail)
  all_goals
    have KQ8 := Lib.hid k11.out
    have hW1 : w.heap.size ≤ W1.drew.heap.size := H1.out.1.1.size
    clear k0 k1 k2 k3 k4 k5 k6 k7 k8 k9 k10 k11 hs0 hs1 hs2 hs3 hs4 hs5 hs6 hs7 hs8 hs9 hs10 hs11 HS CW H1
    have t0 := KQ8.out.2.read (i := 0) rfl
    have t1 := KQ8.out.2.read (i := 1) rfl
    have f0 := KQ8.out.2.open_ 0
    have f1 := KQ8.out.2.open_ 1
    have hge := KQ8.out.1.size
    have hqg : gt ≠ g := by have := hq.out.2; omega
    skip
    have hw1 : IntKind.i64.wrap 1 = 1 := by decide
    have u1 : Bx _ gt 98 #[.pointer (some ⟨g, 0, none⟩), .int .i64 0] := Bx.put KQ8.out.2 0 (.pointer (some ⟨g, 0, none⟩))
    have u2 : Bx _ gt 98 #[.pointer (some ⟨g, 0, none⟩), .int .i64 1] := Bx.put u1 1 (.int .i64 1)
    have lB : Below gt w w6 := ⟨KQ8.out.1.os, KQ8.out.1.tape, KQ8.out.1.output, KQ8.out.1.size, fun k hk => KQ8.out.1.block k (by omega)⟩
    have l2 := (lB.setCell (p := ⟨gt, 0, none⟩) (Nat.le_refl _) (.pointer (some ⟨g, 0, none⟩))).setCell (p := ⟨gt, 1, none⟩) (Nat.le_refl _) (.int .i64 1)
    have m2 := ((hq.out.1.beside (p := ⟨gt, 0, none⟩) hqg (.pointer (some ⟨g, 0, none⟩))).beside (p := ⟨gt, 1, none⟩) hqg (.int .i64 1))
    clear u1 lB KQ8 hq hge
    have HZ := Lib.hid (And.intro u2 (And.intro m2 l2))
    clear u2 m2 l2
    go_wp2_with fail
    go_ret
    exact ⟨g, rfl, HZ.out.1, HZ.out.2.1, HZ.out.2.2⟩
/-- What is kept while a tree is asked. -/
def KTa (w : World) (gt : Nat) (g1 : Nat) (W : World) : Prop := Below w.heap.size w W ∧ Bx W gt 98 #[.pointer (some ⟨g1, 0, none⟩), .int .i64 1] ∧ Bx W g1 166 #[.int .i64 1, .int .i64 1, .string ⟨#[98]⟩, .string ⟨#[]⟩, .string ⟨#[]⟩, .int .i64 0, .int .i64 1, .int .i64 0, .int .i64 0, .slice none 0 0, .pointer none, .pointer none, .int .i64 1]
theorem KTa.next {w W W' : World} {gt g1 : Nat} (h : KTa w gt g1 W) (hb : Below W.heap.size W W') : KTa w gt g1 W' := ⟨bnext h.1 hb, h.2.1.next hb, h.2.2.next hb⟩
set_option maxRecDepth 100000 in
set_option maxHeartbeats 8000000 in
theorem put_a (gt g1 : Nat) (w : World) (h : Bx w gt 98 #[.pointer (some ⟨g1, 0, none⟩), .int .i64 1]) (h1 : Bx w g1 166 #[.int .i64 1, .int .i64 1, .string ⟨#[98]⟩, .string ⟨#[]⟩, .string ⟨#[]⟩, .int .i64 0, .int .i64 1, .int .i64 0, .int .i64 0, .slice none 0 0, .pointer none, .pointer none, .int .i64 1]) : Calls Try.prog 77 #[.pointer (some ⟨gt, 0, none⟩), .agg #[.int .i64 1, .int .i64 1, .string ⟨#[97]⟩, .string ⟨#[]⟩, .string ⟨#[]⟩, .int .i64 0, .int .i64 2, .int .i64 0, .int .i64 0, .slice none 0 0]] w fun e w' => ∃ g gA, e = .returned (.bool true) ∧ Bx w' gt 98 #[.pointer (some ⟨g, 0, none⟩), .int .i64 2] ∧ (Bx w' g 166 #[.int .i64 1, .int .i64 1, .string ⟨#[98]⟩, .string ⟨#[]⟩, .string ⟨#[]⟩, .int .i64 0, .int .i64 1, .int .i64 0, .int .i64 0, .slice none 0 0, .pointer (some ⟨gA, 0, none⟩), .pointer none, .int .i64 2] ∧ Bx w' gA 166 #[.int .i64 1, .int .i64 1, .string ⟨#[97]⟩, .string ⟨#[]⟩, .string ⟨#[]⟩, .int .i64 0, .int .i64 2, .int .i64 0, .int .i64 0, .slice none 0 0, .pointer none, .pointer none, .int .i64 1]) ∧ Below gt w w' := by
  have hgt := h.inside
  have hb0 : Below w.heap.size w (w.alloc (.cells #[.int .i64 1, .int .i64 1, .string ⟨#[97]⟩, .string ⟨#[]⟩, .string ⟨#[]⟩, .int .i64 0, .int .i64 2, .int .i64 0, .int .i64 0, .slice none 0 0] 40)) := (Below.refl _ _).alloc (Nat.le_refl _) _
  have H0 := Lib.hid (show KTa w gt g1 (w.alloc (.cells #[.int .i64 1, .int .i64 1, .string ⟨#[97]⟩, .string ⟨#[]⟩, .string ⟨#[]⟩, .int .i64 0, .int .i64 2, .int .i64 0, .int .i64 0, .slice none 0 0] 40)) ∧ Bx (w.alloc (.cells #[.int .i64 1, .int .i64 1, .string ⟨#[97]⟩, .string ⟨#[]⟩, .string ⟨#[]⟩, .int .i64 0, .int .i64 2, .int .i64 0, .int .i64 0, .slice none 0 0] 40)) w.heap.size 40 #[.int .i64 1, .int .i64 1, .string ⟨#[97]⟩, .string ⟨#[]⟩, .string ⟨#[]⟩, .int .i64 0, .int .i64 2, .int .i64 0, .int .i64 0, .slice none 0 0] from ⟨⟨hb0, h.next hb0, h1.next hb0⟩, Bx.fresh _ _ _⟩)
  have CR := Lib.hid (fun W => right_a W)
  have CW := Lib.hid (fun (W : World) (hW : W.cell? ⟨w.heap.size, 0, none⟩ = some (.int .i64 1) ∧ W.cell? ⟨w.heap.size, 1, none⟩ = some (.int .i64 1) ∧ W.cell? ⟨w.heap.size, 2, none⟩ = some (.string ⟨#[97]⟩) ∧ W.cell? ⟨w.heap.size, 3, none⟩ = some (.string ⟨#[]⟩) ∧ W.cell? ⟨w.heap.size, 4, none⟩ = some (.string ⟨#[]⟩) ∧ W.cell? ⟨w.heap.size, 5, none⟩ = some (.int .i64 0) ∧ W.cell? ⟨w.heap.size, 6, none⟩ = some (.int .i64 2) ∧ W.cell? ⟨w.heap.size, 7, none⟩ = some (.int .i64 0) ∧ W.cell? ⟨w.heap.size, 8, none⟩ = some (.int .i64 0) ∧ W.cell? ⟨w.heap.size, 9, none⟩ = some (.slice none 0 0) ∧ W.cell? ⟨gt, 0, none⟩ = some (.pointer (some ⟨g1, 0, none⟩)) ∧ Hid (KTa w gt g1 W)) => (with_b g1 W hW.2.2.2.2.2.2.2.2.2.2.2.out.2.2).mono (R' := fun e w' => ∃ g gA, e = .returned (.tuple #[.pointer (some ⟨g, 0, none⟩), .bool true]) ∧ (w'.cell? ⟨w.heap.size, 0, none⟩ = some (.int .i64 1) ∧ w'.cell? ⟨w.heap.size, 1, none⟩ = some (.int .i64 1) ∧ w'.cell? ⟨w.heap.size, 2, none⟩ = some (.string ⟨#[97]⟩) ∧ w'.cell? ⟨w.heap.size, 3, none⟩ = some (.string ⟨#[]⟩) ∧ w'.cell? ⟨w.heap.size, 4, none⟩ = some (.string ⟨#[]⟩) ∧ w'.cell? ⟨w.heap.size, 5, none⟩ = some (.int .i64 0) ∧ w'.cell? ⟨w.heap.size, 6, none⟩ = some (.int .i64 2) ∧ w'.cell? ⟨w.heap.size, 7, none⟩ = some (.int .i64 0) ∧ w'.cell? ⟨w.heap.size, 8, none⟩ = some (.int .i64 0) ∧ w'.cell? ⟨w.heap.size, 9, none⟩ = some (.slice none 0 0) ∧ w'.cell? ⟨gt, 0, none⟩ = some (.pointer (some ⟨g1, 0, none⟩)) ∧ Hid (KTa w gt g1 w')) ∧ Hid ((Bx w' g 166 #[.int .i64 1, .int .i64 1, .string ⟨#[98]⟩, .string ⟨#[]⟩, .string ⟨#[]⟩, .int .i64 0, .int .i64 1, .int .i64 0, .int .i64 0, .slice none 0 0, .pointer (some ⟨gA, 0, none⟩), .pointer none, .int .i64 2] ∧ Bx w' gA 166 #[.int .i64 1, .int .i64 1, .string ⟨#[97]⟩, .string ⟨#[]⟩, .string ⟨#[]⟩, .int .i64 0, .int .i64 2, .int .i64 0, .int .i64 0, .slice none 0 0, .pointer none, .pointer none, .int .i64 1]) ∧ W.heap.size ≤ g ∧ W.heap.size ≤ gA)) (fun e w' ⟨g, gA, r, x1, x2, x3, x4, b⟩ => ⟨g, gA, r, ⟨cell_nx b hW.1, cell_nx b hW.2.1, cell_nx b hW.2.2.1, cell_nx b hW.2.2.2.1, cell_nx b hW.2.2.2.2.1, cell_nx b hW.2.2.2.2.2.1, cell_nx b hW.2.2.2.2.2.2.1, cell_nx b hW.2.2.2.2.2.2.2.1, cell_nx b hW.2.2.2.2.2.2.2.2.1, cell_nx b hW.2.2.2.2.2.2.2.2.2.1, cell_nx b hW.2.2.2.2.2.2.2.2.2.2.1, Hid.mk' (hW.2.2.2.2.2.2.2.2.2.2.2.out.next b)⟩, Lib.hid ⟨⟨x1, x2⟩, x3, x4⟩⟩))
  clear hb0 h h1
  go_enter Try.func77, Try.ntmps77
  go_wp2_with fail
  refine (CR.out _).mono ?_; rintro e W1 ⟨rfl, hb1⟩
  have H1 := Lib.hid (And.intro (H0.out.1.next hb1) (H0.out.2.next hb1))
  clear hb1 H0
  go_wp2_with fail
  have hs : W1.drew.cell? ⟨w.heap.size, 0, none⟩ = some (.int .i64 1) ∧ W1.drew.cell? ⟨w.heap.size, 1, none⟩ = some (.int .i64 1) ∧ W1.drew.cell? ⟨w.heap.size, 2, none⟩ = some (.string ⟨#[97]⟩) ∧ W1.drew.cell? ⟨w.heap.size, 3, none⟩ = some (.string ⟨#[]⟩) ∧ W1.drew.cell? ⟨w.heap.size, 4, none⟩ = some (.string ⟨#[]⟩) ∧ W1.drew.cell? ⟨w.heap.size, 5, none⟩ = some (.int .i64 0) ∧ W1.drew.cell? ⟨w.heap.size, 6, none⟩ = some (.int .i64 2) ∧ W1.drew.cell? ⟨w.heap.size, 7, none⟩ = some (.int .i64 0) ∧ W1.drew.cell? ⟨w.heap.size, 8, none⟩ = some (.int .i64 0) ∧ W1.drew.cell? ⟨w.heap.size, 9, none⟩ = some (.slice none 0 0) ∧ W1.drew.cell? ⟨gt, 0, none⟩ = some (.pointer (some ⟨g1, 0, none⟩)) ∧ Hid (KTa w gt g1 W1.drew) := ⟨H1.out.2.read (i := 0) rfl, H1.out.2.read (i := 1) rfl, H1.out.2.read (i := 2) rfl, H1.out.2.read (i := 3) rfl, H1.out.2.read (i := 4) rfl, H1.out.2.read (i := 5) rfl, H1.out.2.read (i := 6) rfl, H1.out.2.read (i := 7) rfl, H1.out.2.read (i := 8) rfl, H1.out.2.read (i := 9) rfl, H1.out.1.2.1.read (i := 0) rfl, Hid.mk' (H1.out.1.next (Below.refl _ _).drew)⟩
  have HS := Lib.hid hs
  obtain ⟨hs0, hs1, hs2, hs3, hs4, hs5, hs6, hs7, hs8, hs9, hs10, hs11⟩ := hs
  clear CR
  go_region_held3 (fun W => W.cell? ⟨w.heap.size, 0, none⟩ = some (.int .i64 1) ∧ W.cell? ⟨w.heap.size, 1, none⟩ = some (.int .i64 1) ∧ W.cell? ⟨w.heap.size, 2, none⟩ = some (.string ⟨#[97]⟩) ∧ W.cell? ⟨w.heap.size, 3, none⟩ = some (.string ⟨#[]⟩) ∧ W.cell? ⟨w.heap.size, 4, none⟩ = some (.string ⟨#[]⟩) ∧ W.cell? ⟨w.heap.size, 5, none⟩ = some (.int .i64 0) ∧ W.cell? ⟨w.heap.size, 6, none⟩ = some (.int .i64 2) ∧ W.cell? ⟨w.heap.size, 7, none⟩ = some (.int .i64 0) ∧ W.cell? ⟨w.heap.size, 8, none⟩ = some (.int .i64 0) ∧ W.cell? ⟨w.heap.size, 9, none⟩ = some (.slice none 0 0) ∧ W.cell? ⟨gt, 0, none⟩ = some (.pointer (some ⟨g1, 0, none⟩)) ∧ Hid (KTa w gt g1 W))
    (first | with_reducible assumption | (with_reducible exact HS.out) | (with_reducible refine ⟨?_, ?_, ?_, ?_, ?_, ?_, ?_, ?_, ?_, ?_, ?_, ?_⟩ <;> assumption))
    (first
      | (go_at_call 119; refine (CW.out _ (by first | assumption | exact HS.out)).mono ?_; rintro e w6 ⟨g, gA, rfl, ⟨k0, k1, k2, k3, k4, k5, k6, k7, k8, k9, k10, k11⟩, hq⟩)
      | fail)
  all_goals
    have KQ8 := Lib.hid k11.out
    have hW1 : w.heap.size ≤ W1.drew.heap.size := H1.out.1.1.size
    clear k0 k1 k2 k3 k4 k5 k6 k7 k8 k9 k10 k11 hs0 hs1 hs2 hs3 hs4 hs5 hs6 hs7 hs8 hs9 hs10 hs11 HS CW H1
    have t0 := KQ8.out.2.1.read (i := 0) rfl
    have t1 := KQ8.out.2.1.read (i := 1) rfl
    have f0 := KQ8.out.2.1.open_ 0
    have f1 := KQ8.out.2.1.open_ 1
    have hge := KQ8.out.1.size
    have hqg : gt ≠ g := by have := hq.out.2.1; omega
    have hqA : gt ≠ gA := by have := hq.out.2.2; omega
    have hw1 : IntKind.i64.wrap 2 = 2 := by decide
    have u1 : Bx _ gt 98 #[.pointer (some ⟨g, 0, none⟩), .int .i64 1] := Bx.put KQ8.out.2.1 0 (.pointer (some ⟨g, 0, none⟩))
    have u2 : Bx _ gt 98 #[.pointer (some ⟨g, 0, none⟩), .int .i64 2] := Bx.put u1 1 (.int .i64 2)
    have lB : Below gt w w6 := ⟨KQ8.out.1.os, KQ8.out.1.tape, KQ8.out.1.output, KQ8.out.1.size, fun k hk => KQ8.out.1.block k (by omega)⟩
    have l2 := (lB.setCell (p := ⟨gt, 0, none⟩) (Nat.le_refl _) (.pointer (some ⟨g, 0, none⟩))).setCell (p := ⟨gt, 1, none⟩) (Nat.le_refl _) (.int .i64 2)
    have m2 := And.intro ((hq.out.1.1.beside (p := ⟨gt, 0, none⟩) hqg (.pointer (some ⟨g, 0, none⟩))).beside (p := ⟨gt, 1, none⟩) hqg (.int .i64 2)) ((hq.out.1.2.beside (p := ⟨gt, 0, none⟩) hqA (.pointer (some ⟨g, 0, none⟩))).beside (p := ⟨gt, 1, none⟩) hqA (.int .i64 2))
    clear u1 lB KQ8 hq hge
    have HZ := Lib.hid (And.intro u2 (And.intro m2 l2))
    clear u2 m2 l2
    go_wp2_with fail
    go_ret
    exact ⟨g, gA, rfl, HZ.out.1, HZ.out.2.1, HZ.out.2.2⟩
theorem tlen (gt : Nat) (p : Value) (n : Int) (w : World) (h : Bx w gt 98 #[p, .int .i64 n]) : Calls Try.prog 79 #[.pointer (some ⟨gt, 0, none⟩)] w fun e w' => e = .returned (.int .i64 n) ∧ w' = w := by
  have h1 := h.read (i := 1) rfl
  clear h
  go_enter Try.func79, Try.ntmps79
  go_wp2_with fail
  go_ret
  exact ⟨rfl, rfl⟩
end Go.Proofs.Ytljhnkcoknikgaa
