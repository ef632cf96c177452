/- Layer 21 (conf): Right, the code's and the law's; two configurations compared. -/
import Derived.Test.YtaeflfgkdjfnfaaE1
import Derived.Laws.StructEq
import Derived.ChangeKeysEq
import Derived.BigQuiet
namespace Go.Proofs.Ytaeflfgkdjfnfaa
open Go.RowKit

def Cf.eq (a b : Cf) : Bool := a.e == b.e && (a.o0 == b.o0 && (a.o1 == b.o1 && (a.o2 == b.o2 && (a.o3 == b.o3 && a.o4 == b.o4)))) && (a.j0 == b.j0 && (a.j1 == b.j1 && (a.j2 == b.j2 && (a.j3 == b.j3 && a.j4 == b.j4))))
theorem cf_guard : Try.prog.eqGuardType Try.prog.depth 39 = false := by kernel_rfl
theorem run_cfGuard (op : BinOp) (x y : Operand) (xs ys : Array Value) (w : World) : (eqGuard op 39 x y (.agg xs) (.agg ys)).run Try.prog w = .ok () w := run_eqGuard_agg w op _ x y xs ys cf_guard
set_option maxRecDepth 100000 in
theorem run_eqBools (a0 a1 a2 a3 a4 b0 b1 b2 b3 b4 : Bool) (w : World) : (Op.equalIn 9999 36 (.agg #[.bool a0, .bool a1, .bool a2, .bool a3, .bool a4]) (.agg #[.bool b0, .bool b1, .bool b2, .bool b3, .bool b4])).run Try.prog w = .ok (a0 == b0 && (a1 == b1 && (a2 == b2 && (a3 == b3 && a4 == b4)))) w := by
  have u4 := Try.underlying4
  have g4 := Try.isAgg4
  have z4 := Try.sizeOf4
  have hC : Try.prog.cellsOf 4 = 1 := by kernel_rfl
  obtain ⟨i, hi⟩ := Option.isSome_iff_exists.1 (show (Try.prog.info? 4).isSome = true by kernel_rfl)
  rw [show (9999 : Nat) = 9998 + 1 from rfl, run_equalIn_array w 9998 _ _ Try.underlying36 hi, hC, show List.range 5 = [0, 1, 2, 3, 4] from rfl]
  simp only [Op.eqItems]
  go_simp
  by_cases h0 : a0 = b0 <;> by_cases h1 : a1 = b1 <;> by_cases h2 : a2 = b2 <;> by_cases h3 : a3 = b3 <;> by_cases h4 : a4 = b4 <;> simp [h0, h1, h2, h3, h4]
set_option maxRecDepth 100000 in
theorem run_eqInts (a0 a1 a2 a3 a4 b0 b1 b2 b3 b4 : Int) (w : World) : (Op.equalIn 9999 37 (.agg #[.int .i64 a0, .int .i64 a1, .int .i64 a2, .int .i64 a3, .int .i64 a4]) (.agg #[.int .i64 b0, .int .i64 b1, .int .i64 b2, .int .i64 b3, .int .i64 b4])).run Try.prog w = .ok (a0 == b0 && (a1 == b1 && (a2 == b2 && (a3 == b3 && a4 == b4)))) w := by
  have u4 := Try.underlying3
  have g4 := Try.isAgg3
  have z4 := Try.sizeOf3
  have hC : Try.prog.cellsOf 3 = 1 := by kernel_rfl
  obtain ⟨i, hi⟩ := Option.isSome_iff_exists.1 (show (Try.prog.info? 3).isSome = true by kernel_rfl)
  rw [show (9999 : Nat) = 9998 + 1 from rfl, run_equalIn_array w 9998 _ _ Try.underlying37 hi, hC, show List.range 5 = [0, 1, 2, 3, 4] from rfl]
  simp only [Op.eqItems]
  go_simp
  by_cases h0 : a0 = b0 <;> by_cases h1 : a1 = b1 <;> by_cases h2 : a2 = b2 <;> by_cases h3 : a3 = b3 <;> by_cases h4 : a4 = b4 <;> simp [h0, h1, h2, h3, h4]
set_option maxRecDepth 100000 in
set_option maxHeartbeats 4000000 in
theorem run_eqlCf (a b : Cf) (w : World) : (binOp .eql 39 (.agg a.cells) (.agg b.cells)).run Try.prog w = .ok (.bool (a.eq b)) w := by
  obtain ⟨e, o0, o1, o2, o3, o4, j0, j1, j2, j3, j4⟩ := a
  obtain ⟨e', p0, p1, p2, p3, p4, k0, k1, k2, k3, k4⟩ := b
  have u3 := Try.underlying3
  have a3 := Try.isAgg3
  have z3 := Try.sizeOf3
  obtain ⟨x, hx⟩ : ∃ x, x = (o0 == p0 && (o1 == p1 && (o2 == p2 && (o3 == p3 && o4 == p4)))) := ⟨_, rfl⟩
  obtain ⟨y, hy⟩ : ∃ y, y = (j0 == k0 && (j1 == k1 && (j2 == k2 && (j3 == k3 && j4 == k4)))) := ⟨_, rfl⟩
  have eB := run_eqBools o0 o1 o2 o3 o4 p0 p1 p2 p3 p4
  have eI := run_eqInts j0 j1 j2 j3 j4 k0 k1 k2 k3 k4
  rw [← hx] at eB
  rw [← hy] at eI
  have hXY : Hid (Cf.eq ⟨e, o0, o1, o2, o3, o4, j0, j1, j2, j3, j4⟩ ⟨e', p0, p1, p2, p3, p4, k0, k1, k2, k3, k4⟩ = (e == e' && x && y)) := Lib.hid (by rw [hx, hy]; rfl)
  clear hx hy
  rw [hXY.out]
  have hS : Try.prog.underlying 39 = some (.struct (Try.prog.fieldsOf 39)) := by kernel_rfl
  have hp : Try.prog.stoodInHeld 39 = false := by kernel_rfl
  unfold Cf.cells
  rw [run_eql_struct, show (10000 : Nat) = 9999 + 1 from rfl, run_equalIn_agg w 9999 39 _ _ hS hp]
  simp only [Program.fieldsOf, Try.underlying39]
  go_simp
  by_cases h : e = e' <;> cases x <;> cases y <;> simp [h]
set_option maxRecDepth 100000 in
set_option maxHeartbeats 4000000 in
theorem run_neqCf (a b : Cf) (w : World) : (binOp .neq 39 (.agg a.cells) (.agg b.cells)).run Try.prog w = .ok (.bool (!a.eq b)) w := by
  obtain ⟨e, o0, o1, o2, o3, o4, j0, j1, j2, j3, j4⟩ := a
  obtain ⟨e', p0, p1, p2, p3, p4, k0, k1, k2, k3, k4⟩ := b
  have u3 := Try.underlying3
  have a3 := Try.isAgg3
  have z3 := Try.sizeOf3
  obtain ⟨x, hx⟩ : ∃ x, x = (o0 == p0 && (o1 == p1 && (o2 == p2 && (o3 == p3 && o4 == p4)))) := ⟨_, rfl⟩
  obtain ⟨y, hy⟩ : ∃ y, y = (j0 == k0 && (j1 == k1 && (j2 == k2 && (j3 == k3 && j4 == k4)))) := ⟨_, rfl⟩
  have eB := run_eqBools o0 o1 o2 o3 o4 p0 p1 p2 p3 p4
  have eI := run_eqInts j0 j1 j2 j3 j4 k0 k1 k2 k3 k4
  rw [← hx] at eB
  rw [← hy] at eI
  have hXY : Hid (Cf.eq ⟨e, o0, o1, o2, o3, o4, j0, j1, j2, j3, j4⟩ ⟨e', p0, p1, p2, p3, p4, k0, k1, k2, k3, k4⟩ = (e == e' && x && y)) := Lib.hid (by rw [hx, hy]; rfl)
  clear hx hy
  rw [hXY.out]
  have hS : Try.prog.underlying 39 = some (.struct (Try.prog.fieldsOf 39)) := by kernel_rfl
  have hp : Try.prog.stoodInHeld 39 = false := by kernel_rfl
  unfold Cf.cells
  rw [run_neq_struct, show (10000 : Nat) = 9999 + 1 from rfl, run_equalIn_agg w 9999 39 _ _ hS hp]
  simp only [Program.fieldsOf, Try.underlying39]
  go_simp
  by_cases h : e = e' <;> cases x <;> cases y <;> simp [h]
theorem Cf.eq_refl (c : Cf) : c.eq c = true := by simp [Cf.eq]
theorem Cf.eq_e {a b : Cf} (h : a.e ≠ b.e) : a.eq b = false := by simp [Cf.eq, h]

theorem cell_nxe {w w' : World} {p : Addr} {v : Value} (hb : Below w.heap.size w w') (h : w.cell? p = some v) : w'.cell? p = some v := by rw [hb.cell (World.block_lt_of_cell? _ _ h)]; exact h
def Cf.joins (c : Cf) : List Int := [c.j0, c.j1, c.j2, c.j3, c.j4]
def wrj (e x : Int) : Bool := decide (x < 0) || decide (e < x)
def Cf.right (c : Cf) : Bool := decide (0 ≤ c.e ∧ c.e ≤ 1099511627776) && !(c.joins.any (wrj c.e))
set_option maxHeartbeats 4000000 in
theorem wrong_any (g : Nat) (c : Cf) (x : Int) (w : World) (h : Bx w g 39 c.cells) : Calls Try.prog 89 #[.int .i64 x, .pointer (some ⟨g, 0, none⟩)] w fun e w' => e = .returned (.bool (wrj c.e x)) ∧ Below w.heap.size w w' := by
  have x0 := h.read (i := 0) (v := .int .i64 c.e) rfl
  clear h
  generalize c.e = e0 at *
  by_cases h1 : x < 0
  · have HR : Hid (wrj e0 x = true) := Lib.hid (by simp [wrj, h1])
    have d1 : decide (x < 0) = true := by simp [h1]
    go_enter Try.func89, Try.ntmps89
    go_wp2_with fail
    go_ret
    exact ⟨cret_b HR.out.symm, Below.refl _ _⟩
  · have HR : Hid (wrj e0 x = decide (e0 < x)) := Lib.hid (by simp [wrj, h1])
    have d1 : decide (x < 0) = false := by simp [h1]
    go_enter Try.func89, Try.ntmps89
    go_wp2_with fail
    go_ret
    exact ⟨cret_b HR.out.symm, Below.refl _ _⟩
theorem cells_in {w : World} {g : Nat} {c : Cf} (h : Bx w g 39 c.cells) : IN w (.slice (some ⟨g, 6, none⟩) 5 5) c.joins := by
  refine ⟨_, _, rfl, fun _ => ⟨g, 6, rfl, fun i hi => ?_⟩⟩
  refine h.read ?_
  have h5 : i < 5 := hi
  rcases (show i = 0 ∨ i = 1 ∨ i = 2 ∨ i = 3 ∨ i = 4 from by omega) with rfl | rfl | rfl | rfl | rfl <;> rfl
set_option maxRecDepth 100000 in
set_option maxHeartbeats 4000000 in
theorem cf_right (c : Cf) (w : World) : Calls Try.prog 21 #[.agg c.cells] w fun e w' => e = .returned (.bool c.right) ∧ Below w.heap.size w w' := by
  have hb : Below w.heap.size w (w.alloc (.cells c.cells 39)) := (Below.refl _ _).alloc (Nat.le_refl _) _
  have hx := Bx.fresh w 39 c.cells
  have C := Lib.hid (contf_c1 89 (.pointer (some ⟨w.heap.size, 0, none⟩)) (wrj c.e) _ c.joins (by simp [Cf.joins]) _ (cells_in hx) (fun xs W => by go_simp) (fun W hW x _ => wrong_any w.heap.size c x W (hx.next hW)))
  have HB := Lib.hid (And.intro hb hx)
  have HR := Lib.hid (show c.right = (decide (0 ≤ c.e ∧ c.e ≤ 1099511627776) && !(c.joins.any (wrj c.e))) from rfl)
  clear hb hx
  generalize c.right = r at *
  generalize c.joins.any (wrj c.e) = q at *
  obtain ⟨e, o0, o1, o2, o3, o4, j0, j1, j2, j3, j4⟩ := c
  unfold Cf.cells at *
  dsimp only at *
  rcases (show e < 0 ∨ (0 ≤ e ∧ 1099511627776 < e) ∨ (0 ≤ e ∧ e ≤ 1099511627776) from by omega) with h | ⟨h, h2⟩ | ⟨h, h2⟩
  · have d1 : decide (0 ≤ e) = false := by rw [decide_eq_false_iff_not]; omega
    have HR2 : Hid (r = false) := Lib.hid (by rw [HR.out, decide_eq_false (by omega)]; rfl)
    go_enter Try.func21, Try.ntmps21
    go_wp2_with fail
    go_ret
    exact ⟨cret_b HR2.out.symm, HB.out.1⟩
  · have d2 : decide (e ≤ 1099511627776) = false := by rw [decide_eq_false_iff_not]; omega
    have HR2 : Hid (r = false) := Lib.hid (by rw [HR.out, decide_eq_false (by omega)]; rfl)
    go_enter Try.func21, Try.ntmps21
    go_wp2_with fail
    go_ret
    exact ⟨cret_b HR2.out.symm, HB.out.1⟩
  · have HR2 : Hid (r = !q) := Lib.hid (by rw [HR.out, decide_eq_true (by omega)]; rfl)
    go_enter Try.func21, Try.ntmps21
    go_wp2_with fail
    refine (C.out).mono ?_; rintro e w1 ⟨rfl, hb1⟩
    have H1 := Lib.hid hb1
    clear hb1
    go_wp2_with fail
    go_ret
    exact ⟨cret_b HR2.out.symm, bnext HB.out.1 H1.out⟩
theorem take5 {p : Int → Bool} (l : List Int) (k : Nat) (h : k < l.length) : (l.take (k + 1)).any p = ((l.take k).any p || p l[k]) := by
  rw [List.take_succ_eq_append_getElem h, List.any_append]
  simp
set_option maxRecDepth 100000 in
set_option maxHeartbeats 8000000 in
theorem law_right (c : Cf) (w : World) : Calls Try.prog 22 #[.agg c.cells] w fun e w' => e = .returned (.bool c.right) ∧ Below w.heap.size w w' := by
  have hb : Below w.heap.size w (w.alloc (.cells c.cells 39)) := (Below.refl _ _).alloc (Nat.le_refl _) _
  have hx := Bx.fresh w 39 c.cells
  have x0 := hx.read (i := 0) (v := .int .i64 c.e) rfl
  have HI := Lib.hid (cells_in hx)
  have HX0 := Lib.hid x0
  have HB := Lib.hid hb
  have HR := Lib.hid (show c.right = ((decide (0 ≤ c.e) && decide (c.e ≤ 1099511627776)) && !(c.joins.any (wrj c.e))) from by unfold Cf.right; rw [Bool.decide_and])
  have H5 := Lib.hid (show c.joins.length = 5 from rfl)
  generalize c.right = r at *
  generalize c.joins = l at *
  generalize c.e = e at *
  generalize c.cells = cc at *
  clear hb hx
  rcases (show e < 0 ∨ (0 ≤ e ∧ 1099511627776 < e) ∨ (0 ≤ e ∧ e ≤ 1099511627776) from by omega) with h | ⟨h, h2⟩ | ⟨h, h2⟩
  · have d1 : decide (0 ≤ e) = false := by rw [decide_eq_false_iff_not]; omega
    have HQ : Hid (r = (false && !(l.any (wrj e)))) := Lib.hid (by rw [HR.out]; rw [decide_eq_false (show ¬ 0 ≤ e by omega)]; rfl)
    clear HR
    go_enter Try.func22, Try.ntmps22
    go_wp2_with fail
    go_loopw [3, 4] (fun r0 i wr => ∃ (k : Nat) (b : Bool), i = .int .i64 k ∧ r0 = .bool b ∧ k ≤ 5 ∧ Hid (b = (false && !((l.take k).any (wrj e))) ∧ Below (w.alloc (.cells cc 39)).heap.size (w.alloc (.cells cc 39)) wr)) (fun _ i _ => 5 - (intOf i).toNat)
    case atStart => exact ⟨0, _, rfl, rfl, by omega, Lib.hid ⟨by simp, Below.refl _ _⟩⟩
    case round =>
      obtain ⟨k, b, rfl, rfl, hk, HS⟩ := hrel
      by_cases hlt : k < 5
      · have hi1 : (k : Int) < 5 := by omega
        obtain ⟨a', cap', hv, hc⟩ := HI.out.next HS.out.2
        obtain ⟨bb, off, ha, hcell⟩ := hc (fun e => by have := H5.out; rw [e] at this; simp at this)
        cases ha
        injection hv with hv1 hv2 hv3
        injection hv1 with hv1
        injection hv1 with hv1 hv4 hv5
        subst hv1 hv4
        have y := hcell k (by rw [H5.out]; exact hlt)
        have y0 := cell_nxe HS.out.2 HX0.out
        have HT := Lib.hid (take5 (p := wrj e) l k (by rw [H5.out]; exact hlt))
        clear hcell hc hv2 hv3
        generalize l[k]'(by rw [H5.out]; exact hlt) = z at *
        cases b with
        | false =>
          have HN : Hid (false = (false && !((l.take (k + 1)).any (wrj e)))) := Lib.hid (by rw [HT.out]; have := HS.out.1; revert this; cases (List.any (l.take k) (wrj e)) <;> simp)
          go_wp2_with fail
          go_quiet (fail)
          go_wp2_with fail
          go_roundw
          case rel => exact ⟨k + 1, _, by go_num, rfl, by omega, Lib.hid ⟨HN.out, below_drewN HS.out.2 _⟩⟩
          case measure => simp [intOf]; omega
        | true =>
          by_cases z1 : 0 ≤ z
          · have d3 : decide (0 ≤ z) = true := by simp [z1]
            have hw : wrj e z = !decide (z ≤ e) := by unfold wrj; rw [decide_eq_false (show ¬ z < 0 by omega), Bool.false_or, ← decide_not]; exact decide_eq_decide.2 (by omega)
            have HN : Hid (decide (z ≤ e) = (false && !((l.take (k + 1)).any (wrj e)))) := Lib.hid (by rw [HT.out, hw]; have := HS.out.1; revert this; cases (List.any (l.take k) (wrj e)) <;> simp)
            clear hw
            clear z1
            go_wp2_with fail
            go_quiet (fail)
            go_wp2_with fail
            go_roundw
            case rel => exact ⟨k + 1, _, by go_num, rfl, by omega, Lib.hid ⟨HN.out, below_drewN HS.out.2 _⟩⟩
            case measure => simp [intOf]; omega
          · have d3 : decide (0 ≤ z) = false := by simp [z1]
            have hw : wrj e z = true := by unfold wrj; rw [decide_eq_true (show z < 0 by omega)]; rfl
            have HN : Hid (false = (false && !((l.take (k + 1)).any (wrj e)))) := Lib.hid (by rw [HT.out, hw]; have := HS.out.1; revert this; cases (List.any (l.take k) (wrj e)) <;> simp)
            clear hw
            clear z1
            go_wp2_with fail
            go_quiet (fail)
            go_wp2_with fail
            go_roundw
            case rel => exact ⟨k + 1, _, by go_num, rfl, by omega, Lib.hid ⟨HN.out, below_drewN HS.out.2 _⟩⟩
            case measure => simp [intOf]; omega
      · have hi1 : ¬ (k : Int) < 5 := by omega
        have HF : Hid (b = r) := Lib.hid (by rw [HS.out.1, HQ.out, List.take_of_length_le (by rw [H5.out]; omega)])
        go_wp2_with fail
        go_ret
        exact ⟨cret_b HF.out, bnext HB.out HS.out.2⟩
  · have d2 : decide (e ≤ 1099511627776) = false := by rw [decide_eq_false_iff_not]; omega
    have HQ : Hid (r = (false && !(l.any (wrj e)))) := Lib.hid (by rw [HR.out]; rw [decide_eq_false (show ¬ e ≤ 1099511627776 by omega)]; simp)
    clear HR
    go_enter Try.func22, Try.ntmps22
    go_wp2_with fail
    go_loopw [3, 4] (fun r0 i wr => ∃ (k : Nat) (b : Bool), i = .int .i64 k ∧ r0 = .bool b ∧ k ≤ 5 ∧ Hid (b = (false && !((l.take k).any (wrj e))) ∧ Below (w.alloc (.cells cc 39)).heap.size (w.alloc (.cells cc 39)) wr)) (fun _ i _ => 5 - (intOf i).toNat)
    case atStart => exact ⟨0, _, rfl, rfl, by omega, Lib.hid ⟨by simp, Below.refl _ _⟩⟩
    case round =>
      obtain ⟨k, b, rfl, rfl, hk, HS⟩ := hrel
      by_cases hlt : k < 5
      · have hi1 : (k : Int) < 5 := by omega
        obtain ⟨a', cap', hv, hc⟩ := HI.out.next HS.out.2
        obtain ⟨bb, off, ha, hcell⟩ := hc (fun e => by have := H5.out; rw [e] at this; simp at this)
        cases ha
        injection hv with hv1 hv2 hv3
        injection hv1 with hv1
        injection hv1 with hv1 hv4 hv5
        subst hv1 hv4
        have y := hcell k (by rw [H5.out]; exact hlt)
        have y0 := cell_nxe HS.out.2 HX0.out
        have HT := Lib.hid (take5 (p := wrj e) l k (by rw [H5.out]; exact hlt))
        clear hcell hc hv2 hv3
        generalize l[k]'(by rw [H5.out]; exact hlt) = z at *
        cases b with
        | false =>
          have HN : Hid (false = (false && !((l.take (k + 1)).any (wrj e)))) := Lib.hid (by rw [HT.out]; have := HS.out.1; revert this; cases (List.any (l.take k) (wrj e)) <;> simp)
          go_wp2_with fail
          go_quiet (fail)
          go_wp2_with fail
          go_roundw
          case rel => exact ⟨k + 1, _, by go_num, rfl, by omega, Lib.hid ⟨HN.out, below_drewN HS.out.2 _⟩⟩
          case measure => simp [intOf]; omega
        | true =>
          by_cases z1 : 0 ≤ z
          · have d3 : decide (0 ≤ z) = true := by simp [z1]
            have hw : wrj e z = !decide (z ≤ e) := by unfold wrj; rw [decide_eq_false (show ¬ z < 0 by omega), Bool.false_or, ← decide_not]; exact decide_eq_decide.2 (by omega)
            have HN : Hid (decide (z ≤ e) = (false && !((l.take (k + 1)).any (wrj e)))) := Lib.hid (by rw [HT.out, hw]; have := HS.out.1; revert this; cases (List.any (l.take k) (wrj e)) <;> simp)
            clear hw
            clear z1
            go_wp2_with fail
            go_quiet (fail)
            go_wp2_with fail
            go_roundw
            case rel => exact ⟨k + 1, _, by go_num, rfl, by omega, Lib.hid ⟨HN.out, below_drewN HS.out.2 _⟩⟩
            case measure => simp [intOf]; omega
          · have d3 : decide (0 ≤ z) = false := by simp [z1]
            have hw : wrj e z = true := by unfold wrj; rw [decide_eq_true (show z < 0 by omega)]; rfl
            have HN : Hid (false = (false && !((l.take (k + 1)).any (wrj e)))) := Lib.hid (by rw [HT.out, hw]; have := HS.out.1; revert this; cases (List.any (l.take k) (wrj e)) <;> simp)
            clear hw
            clear z1
            go_wp2_with fail
            go_quiet (fail)
            go_wp2_with fail
            go_roundw
            case rel => exact ⟨k + 1, _, by go_num, rfl, by omega, Lib.hid ⟨HN.out, below_drewN HS.out.2 _⟩⟩
            case measure => simp [intOf]; omega
      · have hi1 : ¬ (k : Int) < 5 := by omega
        have HF : Hid (b = r) := Lib.hid (by rw [HS.out.1, HQ.out, List.take_of_length_le (by rw [H5.out]; omega)])
        go_wp2_with fail
        go_ret
        exact ⟨cret_b HF.out, bnext HB.out HS.out.2⟩
  · have d2 : decide (e ≤ 1099511627776) = true := by rw [decide_eq_true_eq]; omega
    have HQ : Hid (r = (true && !(l.any (wrj e)))) := Lib.hid (by rw [HR.out]; rw [decide_eq_true (show 0 ≤ e by omega), decide_eq_true (show e ≤ 1099511627776 by omega)]; rfl)
    clear HR
    go_enter Try.func22, Try.ntmps22
    go_wp2_with fail
    go_loopw [3, 4] (fun r0 i wr => ∃ (k : Nat) (b : Bool), i = .int .i64 k ∧ r0 = .bool b ∧ k ≤ 5 ∧ Hid (b = (true && !((l.take k).any (wrj e))) ∧ Below (w.alloc (.cells cc 39)).heap.size (w.alloc (.cells cc 39)) wr)) (fun _ i _ => 5 - (intOf i).toNat)
    case atStart => exact ⟨0, _, rfl, rfl, by omega, Lib.hid ⟨by simp, Below.refl _ _⟩⟩
    case round =>
      obtain ⟨k, b, rfl, rfl, hk, HS⟩ := hrel
      by_cases hlt : k < 5
      · have hi1 : (k : Int) < 5 := by omega
        obtain ⟨a', cap', hv, hc⟩ := HI.out.next HS.out.2
        obtain ⟨bb, off, ha, hcell⟩ := hc (fun e => by have := H5.out; rw [e] at this; simp at this)
        cases ha
        injection hv with hv1 hv2 hv3
        injection hv1 with hv1
        injection hv1 with hv1 hv4 hv5
        subst hv1 hv4
        have y := hcell k (by rw [H5.out]; exact hlt)
        have y0 := cell_nxe HS.out.2 HX0.out
        have HT := Lib.hid (take5 (p := wrj e) l k (by rw [H5.out]; exact hlt))
        clear hcell hc hv2 hv3
        generalize l[k]'(by rw [H5.out]; exact hlt) = z at *
        cases b with
        | false =>
          have HN : Hid (false = (true && !((l.take (k + 1)).any (wrj e)))) := Lib.hid (by rw [HT.out]; have := HS.out.1; revert this; cases (List.any (l.take k) (wrj e)) <;> simp)
          go_wp2_with fail
          go_quiet (fail)
          go_wp2_with fail
          go_roundw
          case rel => exact ⟨k + 1, _, by go_num, rfl, by omega, Lib.hid ⟨HN.out, below_drewN HS.out.2 _⟩⟩
          case measure => simp [intOf]; omega
        | true =>
          by_cases z1 : 0 ≤ z
          · have d3 : decide (0 ≤ z) = true := by simp [z1]
            have hw : wrj e z = !decide (z ≤ e) := by unfold wrj; rw [decide_eq_false (show ¬ z < 0 by omega), Bool.false_or, ← decide_not]; exact decide_eq_decide.2 (by omega)
            have HN : Hid (decide (z ≤ e) = (true && !((l.take (k + 1)).any (wrj e)))) := Lib.hid (by rw [HT.out, hw]; have := HS.out.1; revert this; cases (List.any (l.take k) (wrj e)) <;> simp)
            clear hw
            clear z1
            go_wp2_with fail
            go_quiet (fail)
            go_wp2_with fail
            go_roundw
            case rel => exact ⟨k + 1, _, by go_num, rfl, by omega, Lib.hid ⟨HN.out, below_drewN HS.out.2 _⟩⟩
            case measure => simp [intOf]; omega
          · have d3 : decide (0 ≤ z) = false := by simp [z1]
            have hw : wrj e z = true := by unfold wrj; rw [decide_eq_true (show z < 0 by omega)]; rfl
            have HN : Hid (false = (true && !((l.take (k + 1)).any (wrj e)))) := Lib.hid (by rw [HT.out, hw]; have := HS.out.1; revert this; cases (List.any (l.take k) (wrj e)) <;> simp)
            clear hw
            clear z1
            go_wp2_with fail
            go_quiet (fail)
            go_wp2_with fail
            go_roundw
            case rel => exact ⟨k + 1, _, by go_num, rfl, by omega, Lib.hid ⟨HN.out, below_drewN HS.out.2 _⟩⟩
            case measure => simp [intOf]; omega
      · have hi1 : ¬ (k : Int) < 5 := by omega
        have HF : Hid (b = r) := Lib.hid (by rw [HS.out.1, HQ.out, List.take_of_length_le (by rw [H5.out]; omega)])
        go_wp2_with fail
        go_ret
        exact ⟨cret_b HF.out, bnext HB.out HS.out.2⟩
end Go.Proofs.Ytaeflfgkdjfnfaa
