/- Layer 39 (fold): how texts, numbers and chunks stand, by the code. -/
import Derived.Test.YtdckdhbnfakleaaDoorFb
import Derived.Laws.Strings
import Derived.Laws.Cover1
import Derived.Sort.Walk0
import Derived.Deep.RegionHeld3
namespace Go.Proofs.YtdckdhbnfakleaaDoor
open Go.RowKit

theorem cell_al {w : World} {p : Addr} {v : Value} (o : Obj) (h : w.cell? p = some v) : (w.alloc o).cell? p = some v := by
  rw [((Below.refl w.heap.size w).alloc (Nat.le_refl _) o).cell (World.block_lt_of_cell? w _ h)]; exact h
theorem ret_i {a b : Int} (h : a = b) : Ending.returned (.int .i64 a) = .returned (.int .i64 b) := by rw [h]
def cmpI (x y : Int) : Int := if x < y then -1 else if y < x then 1 else 0
def cmpS (a b : ByteArray) : Int := if Op.bytesLess a.toList b.toList = true then -1 else if (a.toList == b.toList) = true then 0 else 1
theorem nani_any (x : Int) (w : World) : Calls Tryd.prog 52 #[.int .i64 x] w fun e w' => e = .returned (.bool false) ∧ w = w' := by
  have hx : (x != x) = false := by simp
  go_enter Tryd.func52, Tryd.ntmps52
  go_wp2_with fail
  go_ret
  exact ⟨rfl, rfl⟩
theorem nans_any (x : ByteArray) (w : World) : Calls Tryd.prog 37 #[.string x] w fun e w' => e = .returned (.bool false) ∧ w = w' := by
  have hx : (x.toList == x.toList) = true := by simp
  go_enter Tryd.func37, Tryd.ntmps37
  go_wp2_with fail
  go_ret
  exact ⟨rfl, rfl⟩
theorem cmpi_any (x y : Int) (w : World) : Calls Tryd.prog 36 #[.int .i64 x, .int .i64 y] w fun e w' => e = .returned (.int .i64 (cmpI x y)) ∧ w = w' := by
  have h : x < y ∨ (¬ x < y ∧ y < x) ∨ (¬ x < y ∧ ¬ y < x) := by omega
  rcases h with h | ⟨h, h2⟩ | ⟨h, h2⟩
  all_goals
    go_enter Tryd.func36, Tryd.ntmps36
    go_wp2_with fail
    refine (nani_any _ _).mono ?_; rintro e w' ⟨rfl, rfl⟩
    go_wp2_with fail
    refine (nani_any _ _).mono ?_; rintro e w' ⟨rfl, rfl⟩
    go_wp2_with fail
    go_ret
    exact ⟨ret_i (by unfold cmpI; repeat' split
                     all_goals omega), rfl⟩
theorem cmps_any (x y : ByteArray) (w : World) : Calls Tryd.prog 31 #[.string x, .string y] w fun e w' => e = .returned (.int .i64 (cmpS x y)) ∧ w = w' := by
  cases h : Op.bytesLess x.toList y.toList with
  | true =>
    have HV := Hid.mk' (show (-1 : Int) = cmpS x y by unfold cmpS; rw [if_pos h])
    go_enter Tryd.func31, Tryd.ntmps31
    go_wp2_with fail
    refine (nans_any _ _).mono ?_; rintro e w' ⟨rfl, rfl⟩
    go_wp2_with fail
    refine (nans_any _ _).mono ?_; rintro e w' ⟨rfl, rfl⟩
    go_wp2_with fail
    go_ret
    exact ⟨ret_i HV.out, rfl⟩
  | false =>
    cases h2 : (x.toList == y.toList) with
    | true =>
      have HV := Hid.mk' (show (0 : Int) = cmpS x y by unfold cmpS; rw [if_neg (by rw [h]; simp), if_pos h2])
      go_enter Tryd.func31, Tryd.ntmps31
      go_wp2_with fail
      refine (nans_any _ _).mono ?_; rintro e w' ⟨rfl, rfl⟩
      go_wp2_with fail
      refine (nans_any _ _).mono ?_; rintro e w' ⟨rfl, rfl⟩
      go_wp2_with fail
      go_ret
      exact ⟨ret_i HV.out, rfl⟩
    | false =>
      have HV := Hid.mk' (show (1 : Int) = cmpS x y by unfold cmpS; rw [if_neg (by rw [h]; simp), if_neg (by rw [h2]; simp)])
      go_enter Tryd.func31, Tryd.ntmps31
      go_wp2_with fail
      refine (nans_any _ _).mono ?_; rintro e w' ⟨rfl, rfl⟩
      go_wp2_with fail
      refine (nans_any _ _).mono ?_; rintro e w' ⟨rfl, rfl⟩
      go_wp2_with fail
      go_ret
      exact ⟨ret_i HV.out, rfl⟩
def orI (x y : Int) : Int := if x ≠ 0 then x else y
set_option maxHeartbeats 1000000 in
theorem or_any (g : Nat) (x y : Int) (w : World) (c0 : w.cell? ⟨g, 0, none⟩ = some (.int .i64 x)) (c1 : w.cell? ⟨g, 1, none⟩ = some (.int .i64 y)) : Calls Tryd.prog 28 #[.slice (some ⟨g, 0, none⟩) 2 2] w fun e w' => e = .returned (.int .i64 (orI x y)) ∧ w = w' := by
  by_cases hx : x = 0
  · by_cases hy : y = 0
    · have HV := Hid.mk' (show (0 : Int) = orI x y by unfold orI; rw [if_neg (by omega)]; omega)
      subst hx
      subst hy
      go_enter Tryd.func28, Tryd.ntmps28
      go_wp2_with fail
      go_loopw [8] (fun i wr => ∃ k : Nat, i = .int .i64 k ∧ k ≤ 2 ∧ wr = w) (fun i _ => 2 - (intOf i).toNat)
      case atStart => exact ⟨0, rfl, by omega, rfl⟩
      case round =>
        obtain ⟨k, rfl, hk, rfl⟩ := hrel
        rcases (show k = 0 ∨ k = 1 ∨ k = 2 from by omega) with rfl | rfl | rfl
        · go_wp2_with fail
          go_roundw
          case rel => exact ⟨1, by go_num, by omega, by first | rfl | trivial⟩
          case measure => simp [intOf]
        · go_wp2_with fail
          go_roundw
          case rel => exact ⟨2, by go_num, by omega, by first | rfl | trivial⟩
          case measure => simp [intOf]
        · go_wp2_with fail
          go_ret
          exact ⟨ret_i HV.out, rfl⟩
    · have HV := Hid.mk' (show y = orI x y by unfold orI; rw [if_neg (by omega)])
      have hy2 : (y != 0) = true := by simp [hy]
      subst hx
      clear hy
      go_enter Tryd.func28, Tryd.ntmps28
      go_wp2_with fail
      go_loopw [8] (fun i wr => ∃ k : Nat, i = .int .i64 k ∧ k ≤ 1 ∧ wr = w) (fun i _ => 2 - (intOf i).toNat)
      case atStart => exact ⟨0, rfl, by omega, rfl⟩
      case round =>
        obtain ⟨k, rfl, hk, rfl⟩ := hrel
        rcases (show k = 0 ∨ k = 1 from by omega) with rfl | rfl
        · go_wp2_with fail
          go_roundw
          case rel => exact ⟨1, by go_num, by omega, by first | rfl | trivial⟩
          case measure => simp [intOf]
        · go_wp2_with fail
          go_ret
          exact ⟨ret_i HV.out, rfl⟩
  · have HV := Hid.mk' (show x = orI x y by unfold orI; rw [if_pos hx])
    have hy2 : (x != 0) = true := by simp [hx]
    clear hx
    go_enter Tryd.func28, Tryd.ntmps28
    go_wp2_with fail
    go_loopw [8] (fun i wr => i = .int .i64 0 ∧ wr = w) (fun i _ => 2 - (intOf i).toNat)
    case atStart => exact ⟨rfl, rfl⟩
    case round =>
      obtain ⟨rfl, rfl⟩ := hrel
      go_wp2_with fail
      go_ret
      exact ⟨ret_i HV.out, rfl⟩
/-- How two chunks stand. -/
def cmpK (a b : ByteArray × Bool) : Int :=
  if a.2 = true then (if b.2 = true then orI (cmpI a.1.size b.1.size) (cmpS a.1 b.1) else -1) else (if b.2 = true then 1 else cmpS a.1 b.1)
set_option maxRecDepth 100000 in
set_option maxHeartbeats 4000000 in
theorem cmpk_any (a b : ByteArray × Bool) (ha : a.1.size ≤ maxLen) (hb : b.1.size ≤ maxLen) (w : World) : Calls Tryd.prog 30 #[.agg #[.string a.1, .bool a.2], .agg #[.string b.1, .bool b.2]] w fun e w' => e = .returned (.int .i64 (cmpK a b)) ∧ Below w.heap.size w w' := by
  obtain ⟨sa, na⟩ := a
  obtain ⟨sb, nb⟩ := b
  simp only at ha hb
  have hbel : Below w.heap.size w ((w.alloc (.cells #[.string sa, .bool na] 27)).alloc (.cells #[.string sb, .bool nb] 27)) := ((Below.refl _ _).alloc (Nat.le_refl _) _).alloc (by simp) _
  have HB := Hid.mk' hbel
  clear hbel
  cases na with
  | false =>
    cases nb with
    | false =>
      have HV := Hid.mk' (show cmpS sa sb = cmpK (sa, false) (sb, false) from rfl)
      have C := Hid.mk' (cmps_any sa sb)
      generalize cmpS sa sb = z at *
      go_enter Tryd.func30, Tryd.ntmps30
      go_wp2_with fail
      refine (C.out _).mono ?_; rintro e w' ⟨rfl, rfl⟩
      go_wp2_with fail
      go_ret
      exact ⟨ret_i HV.out, HB.out⟩
    | true =>
      go_enter Tryd.func30, Tryd.ntmps30
      go_wp2_with fail
      go_ret
      exact ⟨rfl, HB.out⟩
  | true =>
    cases nb with
    | false =>
      go_enter Tryd.func30, Tryd.ntmps30
      go_wp2_with fail
      go_ret
      exact ⟨rfl, HB.out⟩
    | true =>
      have HV := Hid.mk' (show orI (cmpI sa.size sb.size) (cmpS sa sb) = cmpK (sa, true) (sb, true) from rfl)
      have c := (cmps_any sa sb)
      have c1 := (cmpi_any sa.size sb.size)
      generalize cmpS sa sb = y at *
      generalize cmpI sa.size sb.size = x at *
      have co := (fun g => or_any g x y)
      generalize orI x y = z at *
      have C := Hid.mk' (fun (W : World) (hW : W.cell? ⟨w.heap.size, 0, none⟩ = some (.string sa) ∧ W.cell? ⟨w.heap.size + 1, 0, none⟩ = some (.string sb) ∧ Hid (Below w.heap.size w W)) => (c W).mono (R' := fun e w' => e = .returned (.int .i64 y) ∧ w'.cell? ⟨w.heap.size, 0, none⟩ = some (.string sa) ∧ w'.cell? ⟨w.heap.size + 1, 0, none⟩ = some (.string sb) ∧ Hid (Below w.heap.size w w')) (fun _ _ ⟨a, b⟩ => by subst b; exact ⟨a, hW⟩))
      have C1 := Hid.mk' (fun (W : World) (hW : W.cell? ⟨w.heap.size, 0, none⟩ = some (.string sa) ∧ W.cell? ⟨w.heap.size + 1, 0, none⟩ = some (.string sb) ∧ Hid (Below w.heap.size w W)) => (c1 W).mono (R' := fun e w' => e = .returned (.int .i64 x) ∧ w'.cell? ⟨w.heap.size, 0, none⟩ = some (.string sa) ∧ w'.cell? ⟨w.heap.size + 1, 0, none⟩ = some (.string sb) ∧ Hid (Below w.heap.size w w')) (fun _ _ ⟨a, b⟩ => by subst b; exact ⟨a, hW⟩))
      have CO := Hid.mk' co
      have SK := Hid.mk' (fun (W : World) (o : Obj) (hW : W.cell? ⟨w.heap.size, 0, none⟩ = some (.string sa) ∧ W.cell? ⟨w.heap.size + 1, 0, none⟩ = some (.string sb) ∧ Hid (Below w.heap.size w W)) => (show (W.alloc o).cell? ⟨w.heap.size, 0, none⟩ = some (.string sa) ∧ (W.alloc o).cell? ⟨w.heap.size + 1, 0, none⟩ = some (.string sb) ∧ Hid (Below w.heap.size w (W.alloc o)) from ⟨cell_al _ hW.1, cell_al _ hW.2.1, Hid.mk' (hW.2.2.out.alloc hW.2.2.out.size _)⟩))
      clear c c1 co
      go_enter Tryd.func30, Tryd.ntmps30
      go_wp2_with fail
      have hs0 : ((w.alloc (.cells #[.string sa, .bool true] 27)).alloc (.cells #[.string sb, .bool true] 27)).cell? ⟨w.heap.size, 0, none⟩ = some (.string sa) := by simp
      have hs1 : ((w.alloc (.cells #[.string sa, .bool true] 27)).alloc (.cells #[.string sb, .bool true] 27)).cell? ⟨w.heap.size + 1, 0, none⟩ = some (.string sb) := by simp
      go_region_held3 (fun W => W.cell? ⟨w.heap.size, 0, none⟩ = some (.string sa) ∧ W.cell? ⟨w.heap.size + 1, 0, none⟩ = some (.string sb) ∧ Hid (Below w.heap.size w W))
        (first | assumption | exact ⟨hs0, hs1, Hid.mk' HB.out.drew⟩ | (refine ⟨?_, ?_, ?_⟩ <;> assumption) | exact SK.out _ _ (by assumption))
        ((first | (go_at_call 36; with_reducible refine (C1.out _ (by assumption)).mono ?_; rintro e w6 ⟨rfl, k0, k1, k2⟩) | (go_at_call 31; with_reducible refine (C.out _ (by assumption)).mono ?_; rintro e w7 ⟨rfl, k0, k1, k2⟩) | (go_at_call 28; refine (CO.out _ _ (by simp) (by simp)).mono ?_; rintro e w8 ⟨rfl, rfl⟩)))
      all_goals
        clear hs0 hs1
        go_wp2_with fail
        go_ret
        exact ⟨ret_i HV.out, by have := k2.out; first | exact this.alloc this.size _ | exact this.drew.alloc this.size _ | exact (this.alloc this.size _).drew | exact this⟩
end Go.Proofs.YtdckdhbnfakleaaDoor
