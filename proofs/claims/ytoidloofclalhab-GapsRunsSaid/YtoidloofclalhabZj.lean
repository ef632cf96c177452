/- Layer 47 (gaps): the chapter's example: alive. -/
import Derived.Test.YtoidloofclalhabZi
import Derived.Test.YtoidloofclalhabZe
import Derived.Laws.StructEq
namespace Go.Proofs.Ytoidloofclalhab
open Go.RowKit

theorem r_guard : Try.prog.eqGuardType Try.prog.depth 61 = false := by kernel_rfl
set_option maxHeartbeats 4000000 in
theorem equalR_yes (g1 g2 c1 c2 : Nat) (w : World) (p0 : w.cell? ⟨g1, 0, none⟩ = some (.int .i64 3)) (p1 : w.cell? ⟨g1, 1, none⟩ = some (.int .i64 2)) (p2 : w.cell? ⟨g1, 2, none⟩ = some (.int .i64 9)) (p3 : w.cell? ⟨g1, 3, none⟩ = some (.int .i64 1))
    (q0 : w.cell? ⟨g2, 0, none⟩ = some (.int .i64 3)) (q1 : w.cell? ⟨g2, 1, none⟩ = some (.int .i64 2)) (q2 : w.cell? ⟨g2, 2, none⟩ = some (.int .i64 9)) (q3 : w.cell? ⟨g2, 3, none⟩ = some (.int .i64 1)) :
    Calls Try.prog 48 #[.slice (some ⟨g1, 0, none⟩) 2 c1, .slice (some ⟨g2, 0, none⟩) 2 c2] w fun e w' => e = .returned (.bool true) ∧ Below w.heap.size w w' := by
  have n1 : ∀ W, (binOp .neq 61 (.agg #[.int .i64 3, .int .i64 2]) (.agg #[.int .i64 3, .int .i64 2])).run Try.prog W = .ok (.bool false) W := fun _ => by kernel_rfl
  have n2 : ∀ W, (binOp .neq 61 (.agg #[.int .i64 9, .int .i64 1]) (.agg #[.int .i64 9, .int .i64 1])).run Try.prog W = .ok (.bool false) W := fun _ => by kernel_rfl
  have hgd := fun (x y : Operand) (xs ys : Array Value) (W : World) => run_eqGuard_agg (P := Try.prog) W .neq 61 x y xs ys r_guard
  go_enter Try.func48, Try.ntmps48
  go_wp2_with fail
  go_loopw [13] (fun i wr => ∃ k m : Nat, i = .int .i64 k ∧ k ≤ 2 ∧ wr = w.drewN m) (fun i _ => 2 - (intOf i).toNat)
  case atStart => exact ⟨0, 0, rfl, by omega, rfl⟩
  case round =>
    obtain ⟨k, m, rfl, hk, rfl⟩ := hrel
    have h3 : k = 0 ∨ k = 1 ∨ k = 2 := by omega
    clear hk
    rcases h3 with rfl | rfl | rfl
    · go_wp2_with fail
      go_quiet (fail)
      go_wp2_with fail
      go_roundw
      case rel => exact ⟨1, m + nq, by go_num, by omega, rfl⟩
      case measure => simp [intOf]
    · go_wp2_with fail
      go_quiet (fail)
      go_wp2_with fail
      go_roundw
      case rel => exact ⟨2, m + nq, by go_num, by omega, rfl⟩
      case measure => simp [intOf]
    · go_wp2_with fail
      go_ret
      exact ⟨rfl, below_drewN (Below.refl _ _) _⟩
theorem lit349 (w : World) : IR (w.alloc (.cells #[.int .i64 3, .int .i64 4, .int .i64 9] 3)) (.slice (some ⟨w.heap.size, 0, none⟩) 3 3) [3, 4, 9] :=
  IO.ir (B := w.heap.size) (World.ownsRow_lit w #[.int .i64 3, .int .i64 4, .int .i64 9] 3 (Nat.le_refl _) (by decide) rfl) (by intro x hx; simp at hx; unfold IZ; omega) (by simp [maxLen])
theorem lit3304 (w : World) : BS (w.alloc (.cells #[.int .u8 3, .int .u8 3, .int .u8 0, .int .u8 4] 5)) (.slice (some ⟨w.heap.size, 0, none⟩) 4 4) [3, 3, 0, 4] :=
  BO.bs (B := w.heap.size) (World.ownsRow_lit w #[.int .u8 3, .int .u8 3, .int .u8 0, .int .u8 4] 4 (Nat.le_refl _) (by decide) rfl)
set_option maxRecDepth 100000 in
set_option maxHeartbeats 4000000 in
theorem alive47_any (w : World) : Calls Try.prog 27 #[] w fun e w' => e = .returned (.bool true) ∧ Below w.heap.size w w' := by
  have CP : Hid (∀ W vl, IR W vl [3, 4, 9] → Calls Try.prog 22 #[.slice none 0 0, vl] W fun e w' => ∃ v', e = .returned (.tuple #[v', .bool true]) ∧ BS w' v' [3, 3, 0, 4] ∧ Below W.heap.size W w') := Lib.hid (fun W vl h => by
    refine (gput_any (.slice none 0 0) vl [] [3, 4, 9] (by simp) (by simp) W (BS.nil W) h).mono ?_
    rintro e w' ⟨v', rfl, hO, hb⟩
    rw [show okB [3, 4, 9] = true from by decide, if_pos rfl, List.nil_append, show gB [3, 4, 9] = [3, 3, 0, 4] from by decide] at *
    exact ⟨v', rfl, hO.bs, hb⟩)
  have CR : Hid (∀ W vl, IR W vl [3, 4, 9] → Calls Try.prog 34 #[vl] W fun e w' => ∃ g c, e = .returned (.slice (some ⟨g, 0, none⟩) 2 c) ∧ (w'.cell? ⟨g, 0, none⟩ = some (.int .i64 3) ∧ w'.cell? ⟨g, 1, none⟩ = some (.int .i64 2) ∧ w'.cell? ⟨g, 2, none⟩ = some (.int .i64 9) ∧ w'.cell? ⟨g, 3, none⟩ = some (.int .i64 1)) ∧ Below W.heap.size W w') := Lib.hid (fun W vl h => by
    refine (runs_any vl [3, 4, 9] (by simp) W h).mono ?_
    rintro e w' ⟨v', rfl, hO, hb, _⟩
    rw [show rsT [3, 4, 9] ([3, 4, 9] : List Int).length = [(3, 2), (9, 1)] from by decide] at hO
    obtain ⟨a, c, rfl⟩ := hO.form
    obtain ⟨g, rfl, _, z0, z1, _⟩ := RO.cell hO 0 (by simp)
    obtain ⟨g', e', _, z2, z3, _⟩ := RO.cell hO 1 (by simp)
    cases e'
    exact ⟨g, c, rfl, ⟨z0, z1, z2, z3⟩, hb⟩)
  go_enter Try.func27, Try.ntmps27
  have H1 := Lib.hid (lit349 w)
  have B0 : Hid (Below w.heap.size w (w.alloc (.cells #[.int .i64 3, .int .i64 4, .int .i64 9] 3))) := Lib.hid ((Below.refl _ _).alloc (Nat.le_refl _) _)
  go_wp2_with fail
  refine (CP.out _ _ H1.out).mono ?_; rintro e w1 ⟨v1, rfl, hS1, hb1⟩
  have B1 := Lib.hid (bnext B0.out hb1)
  have S1 := Lib.hid hS1
  clear hb1 hS1 H1 B0
  have H2 := Lib.hid (lit3304 w1)
  have A2 := Lib.hid ((Below.refl w1.heap.size w1).alloc (Nat.le_refl _) (.cells #[.int .u8 3, .int .u8 3, .int .u8 0, .int .u8 4] 5))
  go_wp2_with fail
  refine (equal_yes _ _ _ (by simp) _ (S1.out.next A2.out) H2.out).mono ?_; rintro e w2 ⟨rfl, hb2⟩
  have B2 := Lib.hid (bnext (bnext B1.out A2.out) hb2)
  clear hb2
  have H3 := Lib.hid (lit349 w2)
  have A3 := Lib.hid ((Below.refl w2.heap.size w2).alloc (Nat.le_refl _) (.cells #[.int .i64 3, .int .i64 4, .int .i64 9] 3))
  go_wp2_with fail
  refine (CR.out _ _ H3.out).mono ?_; rintro e w3 ⟨g, c, rfl, ⟨z0, z1, z2, z3⟩, hb3⟩
  have B3 := Lib.hid (bnext (bnext B2.out A3.out) hb3)
  have hg : g < w3.heap.size := World.block_lt_of_cell? _ _ z0
  clear hb3
  go_wp2_with fail
  have A4 := Lib.hid ((Below.refl w3.heap.size w3).alloc (Nat.le_refl _) (.cells #[.int .i64 3, .int .i64 2, .int .i64 9, .int .i64 1] 61))
  have BX := Bx.fresh w3 61 #[.int .i64 3, .int .i64 2, .int .i64 9, .int .i64 1]
  refine (equalR_yes g _ c _ _ ?_ ?_ ?_ ?_ (BX.read rfl) (BX.read rfl) (BX.read rfl) (BX.read rfl)).mono ?_
  · rw [World.cell?_alloc_old _ _ _ (Nat.ne_of_lt hg)]; exact z0
  · rw [World.cell?_alloc_old _ _ _ (Nat.ne_of_lt hg)]; exact z1
  · rw [World.cell?_alloc_old _ _ _ (Nat.ne_of_lt hg)]; exact z2
  · rw [World.cell?_alloc_old _ _ _ (Nat.ne_of_lt hg)]; exact z3
  rintro e w4 ⟨rfl, hb4⟩
  have B4 := Lib.hid (bnext (bnext B3.out A4.out) hb4)
  clear hb4 BX z0 z1 z2 z3 hg
  go_wp2_with fail
  go_ret
  exact ⟨rfl, B4.out⟩
end Go.Proofs.Ytoidloofclalhab
