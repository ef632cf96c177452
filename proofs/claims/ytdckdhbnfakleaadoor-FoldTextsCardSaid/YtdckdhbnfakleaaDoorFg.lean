/- Layer 39 (fold): three texts sorted, by the library's code: the insertion sort of three that stand the other way round. -/
import Derived.Test.YtdckdhbnfakleaaDoorFf
import Derived.Deep.RegionHeld3
import Derived.BigRegion
namespace Go.Proofs.YtdckdhbnfakleaaDoor
open Go.RowKit

/-- A row of three weighed texts, later than a world. -/
def Rw (w W : World) (g cap : Nat) (xs : List Value) : Prop := w.grownBy W (some g) ∧ W.ownsRow 0 46 2 (.slice (some ⟨g, 0, none⟩) 3 cap) 3 xs
theorem Rw.cells {w W : World} {g cap : Nat} {a b c d e f : Value} (h : Rw w W g cap [a, b, c, d, e, f]) : W.cell? ⟨g, 0, none⟩ = some a ∧ W.cell? ⟨g, 1, none⟩ = some b ∧ W.cell? ⟨g, 2, none⟩ = some c ∧ W.cell? ⟨g, 3, none⟩ = some d ∧ W.cell? ⟨g, 4, none⟩ = some e ∧ W.cell? ⟨g, 5, none⟩ = some f :=
  ⟨h.2.cellAt 0 (by decide), h.2.cellAt 1 (by decide), h.2.cellAt 2 (by decide), h.2.cellAt 3 (by decide), h.2.cellAt 4 (by decide), h.2.cellAt 5 (by decide)⟩
theorem Rw.opens {w W : World} {g cap : Nat} {xs : List Value} (h : Rw w W g cap xs) : W.frozen? ⟨g, 0, none⟩ = false ∧ W.frozen? ⟨g, 1, none⟩ = false ∧ W.frozen? ⟨g, 2, none⟩ = false ∧ W.frozen? ⟨g, 3, none⟩ = false ∧ W.frozen? ⟨g, 4, none⟩ = false ∧ W.frozen? ⟨g, 5, none⟩ = false :=
  ⟨h.2.frozenAt 0, h.2.frozenAt 1, h.2.frozenAt 2, h.2.frozenAt 3, h.2.frozenAt 4, h.2.frozenAt 5⟩
theorem Rw.put {w W : World} {g cap : Nat} {xs : List Value} (h : Rw w W g cap xs) (j : Nat) (u : Value) : Rw w (W.setCell ⟨g, j, none⟩ u) g cap (xs.set j u) :=
  ⟨gb_trans h.1 (h.2.stored j u).2, (h.2.stored j u).1⟩
theorem Rw.next {w W W' : World} {g cap : Nat} {xs : List Value} (h : Rw w W g cap xs) (hb : Below W.heap.size W W') : Rw w W' g cap xs := ⟨gb_trans h.1 (gb_below hb _), own_next h.2 hb⟩
theorem Rw.swap01 {w W : World} {g cap : Nat} {a b c d e f : Value} (h : Rw w W g cap [a, b, c, d, e, f]) : Rw w ((((W.setCell ⟨g, 2, none⟩ a).setCell ⟨g, 3, none⟩ b).setCell ⟨g, 0, none⟩ c).setCell ⟨g, 1, none⟩ d) g cap [c, d, a, b, e, f] := (((h.put 2 a).put 3 b).put 0 c).put 1 d
theorem Rw.swap12 {w W : World} {g cap : Nat} {a b c d e f : Value} (h : Rw w W g cap [a, b, c, d, e, f]) : Rw w ((((W.setCell ⟨g, 4, none⟩ c).setCell ⟨g, 5, none⟩ d).setCell ⟨g, 2, none⟩ e).setCell ⟨g, 3, none⟩ f) g cap [a, b, e, f, c, d] := (((h.put 4 c).put 5 d).put 2 e).put 3 f
/-- What is asked of a comparison: the first one is ahead, in every later world. -/
def Ahd (w : World) (g cap : Nat) (x y : Value) : Prop := ∀ W xs, Rw w W g cap xs → Calls Tryd.prog 21 #[x, y] W fun e w' => e = .returned (.int .i64 (-1)) ∧ Below W.heap.size W w'
set_option maxRecDepth 100000 in
set_option maxHeartbeats 4000000 in
theorem ins_rev {p0 p1 p2 : ByteArray} {q0 q1 q2 : Option Addr} {n0 n1 n2 c0 c1 c2 : Nat} (g cap : Nat) (w : World) (h : Rw w w g cap [.string p0, .slice q0 n0 c0, .string p1, .slice q1 n1 c1, .string p2, .slice q2 n2 c2]) (h10 : Ahd w g cap (.agg #[.string p1, .slice q1 n1 c1]) (.agg #[.string p0, .slice q0 n0 c0])) (h20 : Ahd w g cap (.agg #[.string p2, .slice q2 n2 c2]) (.agg #[.string p0, .slice q0 n0 c0])) (h21 : Ahd w g cap (.agg #[.string p2, .slice q2 n2 c2]) (.agg #[.string p1, .slice q1 n1 c1])) :
    Calls Tryd.prog 42 #[.slice (some ⟨g, 0, none⟩) 3 cap, .int .i64 0, .int .i64 3, .func (.func 21) #[] #[]] w fun e w' => e = .returned (.tuple #[]) ∧ Rw w w' g cap [.string p2, .slice q2 n2 c2, .string p1, .slice q1 n1 c1, .string p0, .slice q0 n0 c0] := by
  have H10 := Hid.mk' h10
  have H20 := Hid.mk' h20
  have H21 := Hid.mk' h21
  have H := Hid.mk' h
  clear h10 h20 h21 h
  go_enter Tryd.func42, Tryd.ntmps42
  go_wp2_with fail
  go_loopw [8] (fun i wr => (i = .int .i64 1 ∧ Hid (Rw w wr g cap [.string p0, .slice q0 n0 c0, .string p1, .slice q1 n1 c1, .string p2, .slice q2 n2 c2])) ∨ (i = .int .i64 2 ∧ Hid (Rw w wr g cap [.string p1, .slice q1 n1 c1, .string p0, .slice q0 n0 c0, .string p2, .slice q2 n2 c2])) ∨ (i = .int .i64 3 ∧ Hid (Rw w wr g cap [.string p2, .slice q2 n2 c2, .string p1, .slice q1 n1 c1, .string p0, .slice q0 n0 c0]))) (fun i _ => 3 - (intOf i).toNat)
  case atStart => exact .inl ⟨rfl, H⟩
  case round =>
    clear H
    rcases hrel with ⟨rfl, HP⟩ | ⟨rfl, HP⟩ | ⟨rfl, HP⟩
    · go_wp2_with fail
      go_loopw [9] (fun j wr => (j = .int .i64 1 ∧ Hid (Rw w wr g cap [.string p0, .slice q0 n0 c0, .string p1, .slice q1 n1 c1, .string p2, .slice q2 n2 c2])) ∨ (j = .int .i64 0 ∧ Hid (Rw w wr g cap [.string p1, .slice q1 n1 c1, .string p0, .slice q0 n0 c0, .string p2, .slice q2 n2 c2]))) (fun j _ => (intOf j).toNat)
      case atStart => exact .inl ⟨rfl, HP⟩
      case round =>
        clear HP
        rcases hrel with ⟨rfl, HP⟩ | ⟨rfl, HP⟩
        · obtain ⟨z0, z1, z2, z3, z4, z5⟩ := HP.out.cells
          have CC := Hid.mk' (fun (W : World) (hW : W.cell? ⟨g, 0, none⟩ = some (.string p0) ∧ W.cell? ⟨g, 1, none⟩ = some (.slice q0 n0 c0) ∧ W.cell? ⟨g, 2, none⟩ = some (.string p1) ∧ W.cell? ⟨g, 3, none⟩ = some (.slice q1 n1 c1) ∧ W.cell? ⟨g, 4, none⟩ = some (.string p2) ∧ W.cell? ⟨g, 5, none⟩ = some (.slice q2 n2 c2) ∧ Hid (Rw w W g cap [.string p0, .slice q0 n0 c0, .string p1, .slice q1 n1 c1, .string p2, .slice q2 n2 c2])) => (H10.out W _ hW.2.2.2.2.2.2.out).mono (R' := fun e w' => e = .returned (.int .i64 (-1)) ∧ w'.cell? ⟨g, 0, none⟩ = some (.string p0) ∧ w'.cell? ⟨g, 1, none⟩ = some (.slice q0 n0 c0) ∧ w'.cell? ⟨g, 2, none⟩ = some (.string p1) ∧ w'.cell? ⟨g, 3, none⟩ = some (.slice q1 n1 c1) ∧ w'.cell? ⟨g, 4, none⟩ = some (.string p2) ∧ w'.cell? ⟨g, 5, none⟩ = some (.slice q2 n2 c2) ∧ Hid (Rw w w' g cap [.string p0, .slice q0 n0 c0, .string p1, .slice q1 n1 c1, .string p2, .slice q2 n2 c2])) (fun e w' ⟨a, b⟩ => by
              have h2 := hW.2.2.2.2.2.2.out.next b
              obtain ⟨y0, y1, y2, y3, y4, y5⟩ := h2.cells
              exact ⟨a, y0, y1, y2, y3, y4, y5, Hid.mk' h2⟩))
          have HPD := Hid.mk' (HP.out.next (Below.refl _ wr).drew)
          have hw0 : IntKind.i64.wrap 0 = 0 := by decide
          have hw1 : IntKind.i64.wrap 1 = 1 := by decide
          go_wp2_with fail
          go_region_held3 (fun W => W.cell? ⟨g, 0, none⟩ = some (.string p0) ∧ W.cell? ⟨g, 1, none⟩ = some (.slice q0 n0 c0) ∧ W.cell? ⟨g, 2, none⟩ = some (.string p1) ∧ W.cell? ⟨g, 3, none⟩ = some (.slice q1 n1 c1) ∧ W.cell? ⟨g, 4, none⟩ = some (.string p2) ∧ W.cell? ⟨g, 5, none⟩ = some (.slice q2 n2 c2) ∧ Hid (Rw w W g cap [.string p0, .slice q0 n0 c0, .string p1, .slice q1 n1 c1, .string p2, .slice q2 n2 c2])) (first | assumption | exact ⟨z0, z1, z2, z3, z4, z5, HPD⟩ | (refine ⟨?_, ?_, ?_, ?_, ?_, ?_, ?_⟩ <;> assumption)) ((first | (go_at_call 21; refine (CC.out _ (by assumption)).mono ?_; rintro e w6 ⟨rfl, k0, k1, k2, k3, k4, k5, k6⟩)))
          all_goals
            obtain ⟨f0, f1, f2, f3, f4, f5⟩ := k6.out.opens
            have H7 := Hid.mk' (k6.out.swap01)
            clear z0 z1 z2 z3 z4 z5 CC HPD
            go_wp2_with fail
            go_region
            all_goals
              go_wp2_with fail
              go_roundw
              case rel => exact .inr ⟨rfl, Hid.mk' (H7.out.next (Below.refl _ _).drew)⟩
              case measure => simp [intOf]
        · have hw0 : IntKind.i64.wrap 0 = 0 := by decide
          have hw1 : IntKind.i64.wrap 1 = 1 := by decide
          go_wp2_with fail
          go_quiet (fail)
          all_goals
            go_wp2_with fail
            go_roundw
            case rel => exact .inr <| .inl ⟨rfl, Hid.mk' (HP.out.next (below_drewN (Below.refl _ _) _))⟩
            case measure => simp [intOf]
    · go_wp2_with fail
      go_loopw [9] (fun j wr => (j = .int .i64 2 ∧ Hid (Rw w wr g cap [.string p1, .slice q1 n1 c1, .string p0, .slice q0 n0 c0, .string p2, .slice q2 n2 c2])) ∨ (j = .int .i64 1 ∧ Hid (Rw w wr g cap [.string p1, .slice q1 n1 c1, .string p2, .slice q2 n2 c2, .string p0, .slice q0 n0 c0])) ∨ (j = .int .i64 0 ∧ Hid (Rw w wr g cap [.string p2, .slice q2 n2 c2, .string p1, .slice q1 n1 c1, .string p0, .slice q0 n0 c0]))) (fun j _ => (intOf j).toNat)
      case atStart => exact .inl ⟨rfl, HP⟩
      case round =>
        clear HP
        rcases hrel with ⟨rfl, HP⟩ | ⟨rfl, HP⟩ | ⟨rfl, HP⟩
        · obtain ⟨z0, z1, z2, z3, z4, z5⟩ := HP.out.cells
          have CC := Hid.mk' (fun (W : World) (hW : W.cell? ⟨g, 0, none⟩ = some (.string p1) ∧ W.cell? ⟨g, 1, none⟩ = some (.slice q1 n1 c1) ∧ W.cell? ⟨g, 2, none⟩ = some (.string p0) ∧ W.cell? ⟨g, 3, none⟩ = some (.slice q0 n0 c0) ∧ W.cell? ⟨g, 4, none⟩ = some (.string p2) ∧ W.cell? ⟨g, 5, none⟩ = some (.slice q2 n2 c2) ∧ Hid (Rw w W g cap [.string p1, .slice q1 n1 c1, .string p0, .slice q0 n0 c0, .string p2, .slice q2 n2 c2])) => (H20.out W _ hW.2.2.2.2.2.2.out).mono (R' := fun e w' => e = .returned (.int .i64 (-1)) ∧ w'.cell? ⟨g, 0, none⟩ = some (.string p1) ∧ w'.cell? ⟨g, 1, none⟩ = some (.slice q1 n1 c1) ∧ w'.cell? ⟨g, 2, none⟩ = some (.string p0) ∧ w'.cell? ⟨g, 3, none⟩ = some (.slice q0 n0 c0) ∧ w'.cell? ⟨g, 4, none⟩ = some (.string p2) ∧ w'.cell? ⟨g, 5, none⟩ = some (.slice q2 n2 c2) ∧ Hid (Rw w w' g cap [.string p1, .slice q1 n1 c1, .string p0, .slice q0 n0 c0, .string p2, .slice q2 n2 c2])) (fun e w' ⟨a, b⟩ => by
              have h2 := hW.2.2.2.2.2.2.out.next b
              obtain ⟨y0, y1, y2, y3, y4, y5⟩ := h2.cells
              exact ⟨a, y0, y1, y2, y3, y4, y5, Hid.mk' h2⟩))
          have HPD := Hid.mk' (HP.out.next (Below.refl _ wr).drew)
          have hw0 : IntKind.i64.wrap 0 = 0 := by decide
          have hw1 : IntKind.i64.wrap 1 = 1 := by decide
          go_wp2_with fail
          go_region_held3 (fun W => W.cell? ⟨g, 0, none⟩ = some (.string p1) ∧ W.cell? ⟨g, 1, none⟩ = some (.slice q1 n1 c1) ∧ W.cell? ⟨g, 2, none⟩ = some (.string p0) ∧ W.cell? ⟨g, 3, none⟩ = some (.slice q0 n0 c0) ∧ W.cell? ⟨g, 4, none⟩ = some (.string p2) ∧ W.cell? ⟨g, 5, none⟩ = some (.slice q2 n2 c2) ∧ Hid (Rw w W g cap [.string p1, .slice q1 n1 c1, .string p0, .slice q0 n0 c0, .string p2, .slice q2 n2 c2])) (first | assumption | exact ⟨z0, z1, z2, z3, z4, z5, HPD⟩ | (refine ⟨?_, ?_, ?_, ?_, ?_, ?_, ?_⟩ <;> assumption)) ((first | (go_at_call 21; refine (CC.out _ (by assumption)).mono ?_; rintro e w6 ⟨rfl, k0, k1, k2, k3, k4, k5, k6⟩)))
          all_goals
            obtain ⟨f0, f1, f2, f3, f4, f5⟩ := k6.out.opens
            have H7 := Hid.mk' (k6.out.swap12)
            clear z0 z1 z2 z3 z4 z5 CC HPD
            go_wp2_with fail
            go_region
            all_goals
              go_wp2_with fail
              go_roundw
              case rel => exact .inr <| .inl ⟨rfl, Hid.mk' (H7.out.next (Below.refl _ _).drew)⟩
              case measure => simp [intOf]
        · obtain ⟨z0, z1, z2, z3, z4, z5⟩ := HP.out.cells
          have CC := Hid.mk' (fun (W : World) (hW : W.cell? ⟨g, 0, none⟩ = some (.string p1) ∧ W.cell? ⟨g, 1, none⟩ = some (.slice q1 n1 c1) ∧ W.cell? ⟨g, 2, none⟩ = some (.string p2) ∧ W.cell? ⟨g, 3, none⟩ = some (.slice q2 n2 c2) ∧ W.cell? ⟨g, 4, none⟩ = some (.string p0) ∧ W.cell? ⟨g, 5, none⟩ = some (.slice q0 n0 c0) ∧ Hid (Rw w W g cap [.string p1, .slice q1 n1 c1, .string p2, .slice q2 n2 c2, .string p0, .slice q0 n0 c0])) => (H21.out W _ hW.2.2.2.2.2.2.out).mono (R' := fun e w' => e = .returned (.int .i64 (-1)) ∧ w'.cell? ⟨g, 0, none⟩ = some (.string p1) ∧ w'.cell? ⟨g, 1, none⟩ = some (.slice q1 n1 c1) ∧ w'.cell? ⟨g, 2, none⟩ = some (.string p2) ∧ w'.cell? ⟨g, 3, none⟩ = some (.slice q2 n2 c2) ∧ w'.cell? ⟨g, 4, none⟩ = some (.string p0) ∧ w'.cell? ⟨g, 5, none⟩ = some (.slice q0 n0 c0) ∧ Hid (Rw w w' g cap [.string p1, .slice q1 n1 c1, .string p2, .slice q2 n2 c2, .string p0, .slice q0 n0 c0])) (fun e w' ⟨a, b⟩ => by
              have h2 := hW.2.2.2.2.2.2.out.next b
              obtain ⟨y0, y1, y2, y3, y4, y5⟩ := h2.cells
              exact ⟨a, y0, y1, y2, y3, y4, y5, Hid.mk' h2⟩))
          have HPD := Hid.mk' (HP.out.next (Below.refl _ wr).drew)
          have hw0 : IntKind.i64.wrap 0 = 0 := by decide
          have hw1 : IntKind.i64.wrap 1 = 1 := by decide
          go_wp2_with fail
          go_region_held3 (fun W => W.cell? ⟨g, 0, none⟩ = some (.string p1) ∧ W.cell? ⟨g, 1, none⟩ = some (.slice q1 n1 c1) ∧ W.cell? ⟨g, 2, none⟩ = some (.string p2) ∧ W.cell? ⟨g, 3, none⟩ = some (.slice q2 n2 c2) ∧ W.cell? ⟨g, 4, none⟩ = some (.string p0) ∧ W.cell? ⟨g, 5, none⟩ = some (.slice q0 n0 c0) ∧ Hid (Rw w W g cap [.string p1, .slice q1 n1 c1, .string p2, .slice q2 n2 c2, .string p0, .slice q0 n0 c0])) (first | assumption | exact ⟨z0, z1, z2, z3, z4, z5, HPD⟩ | (refine ⟨?_, ?_, ?_, ?_, ?_, ?_, ?_⟩ <;> assumption)) ((first | (go_at_call 21; refine (CC.out _ (by assumption)).mono ?_; rintro e w6 ⟨rfl, k0, k1, k2, k3, k4, k5, k6⟩)))
          all_goals
            obtain ⟨f0, f1, f2, f3, f4, f5⟩ := k6.out.opens
            have H7 := Hid.mk' (k6.out.swap01)
            clear z0 z1 z2 z3 z4 z5 CC HPD
            go_wp2_with fail
            go_region
            all_goals
              go_wp2_with fail
              go_roundw
              case rel => exact .inr <| .inr ⟨rfl, Hid.mk' (H7.out.next (Below.refl _ _).drew)⟩
              case measure => simp [intOf]
        · have hw0 : IntKind.i64.wrap 0 = 0 := by decide
          have hw1 : IntKind.i64.wrap 1 = 1 := by decide
          go_wp2_with fail
          go_quiet (fail)
          all_goals
            go_wp2_with fail
            go_roundw
            case rel => exact .inr <| .inr ⟨rfl, Hid.mk' (HP.out.next (below_drewN (Below.refl _ _) _))⟩
            case measure => simp [intOf]
    · go_wp2_with fail
      go_end0
      exact ⟨rfl, HP.out⟩
end Go.Proofs.YtdckdhbnfakleaaDoor
