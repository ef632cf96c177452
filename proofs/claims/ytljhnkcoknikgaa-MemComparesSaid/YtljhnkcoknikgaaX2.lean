/- Layer 7 (mut): numbers and texts compared; rows of stamps compared, by the code. -/
import Derived.Test.YtljhnkcoknikgaaX1
import Derived.Deep.LoopGhost
import Derived.Sort.Walk0
import Derived.Deep.RegionHeld3
import Derived.Laws.Cover1
namespace Go.Proofs.Ytljhnkcoknikgaa
open Go.RowKit

theorem cmptab_any (x y : Int) (w : World) :
    Calls Try.prog 66 #[.int .i64 x, .int .i64 y] w fun e w' => e = .returned (.int .i64 (cmpI x y)) ∧ w' = w := by
  by_cases h1 : x < y
  · go_enter Try.func66, Try.ntmps66
    go_wp2
    go_ret
    exact ⟨ret_int (by simp [cmpI, h1]), rfl⟩
  · by_cases h2 : y < x
    · go_enter Try.func66, Try.ntmps66
      go_wp2
      go_ret
      exact ⟨ret_int (by simp [cmpI, h1, h2]), rfl⟩
    · go_enter Try.func66, Try.ntmps66
      go_wp2
      go_ret
      exact ⟨ret_int (by unfold cmpI; rw [if_neg (by omega), if_neg (by omega)]), rfl⟩
theorem cmpkind_any (x y : Int) (w : World) :
    Calls Try.prog 67 #[.int .i64 x, .int .i64 y] w fun e w' => e = .returned (.int .i64 (cmpI x y)) ∧ w' = w := by
  by_cases h1 : x < y
  · go_enter Try.func67, Try.ntmps67
    go_wp2
    go_ret
    exact ⟨ret_int (by simp [cmpI, h1]), rfl⟩
  · by_cases h2 : y < x
    · go_enter Try.func67, Try.ntmps67
      go_wp2
      go_ret
      exact ⟨ret_int (by simp [cmpI, h1, h2]), rfl⟩
    · go_enter Try.func67, Try.ntmps67
      go_wp2
      go_ret
      exact ⟨ret_int (by unfold cmpI; rw [if_neg (by omega), if_neg (by omega)]), rfl⟩
theorem nans_any (x : ByteArray) (w : World) : Calls Try.prog 108 #[.string x] w fun e w' => e = .returned (.bool false) ∧ w' = w := by
  have hx : (x.toList == x.toList) = true := by simp
  go_enter Try.func108, Try.ntmps108
  go_wp2_with fail
  go_ret
  exact ⟨rfl, rfl⟩
theorem cmps_any (x y : ByteArray) (w : World) : Calls Try.prog 68 #[.string x, .string y] w fun e w' => e = .returned (.int .i64 (cmpT x y)) ∧ w' = w := by
  cases h : Op.bytesLess x.toList y.toList with
  | true =>
    have HV := Hid.mk' (show (-1 : Int) = cmpT x y by unfold cmpT; rw [if_pos h])
    go_enter Try.func68, Try.ntmps68
    go_wp2_with fail
    refine (nans_any _ _).mono ?_; rintro e w' ⟨rfl, rfl⟩
    go_wp2_with fail
    refine (nans_any _ _).mono ?_; rintro e w' ⟨rfl, rfl⟩
    go_wp2_with fail
    go_ret
    exact ⟨ret_int HV.out, rfl⟩
  | false =>
    cases h2 : (x.toList == y.toList) with
    | true =>
      have HV := Hid.mk' (show (0 : Int) = cmpT x y by unfold cmpT; rw [if_neg (by rw [h]; simp), if_pos h2])
      go_enter Try.func68, Try.ntmps68
      go_wp2_with fail
      refine (nans_any _ _).mono ?_; rintro e w' ⟨rfl, rfl⟩
      go_wp2_with fail
      refine (nans_any _ _).mono ?_; rintro e w' ⟨rfl, rfl⟩
      go_wp2_with fail
      go_ret
      exact ⟨ret_int HV.out, rfl⟩
    | false =>
      have HV := Hid.mk' (show (1 : Int) = cmpT x y by unfold cmpT; rw [if_neg (by rw [h]; simp), if_neg (by rw [h2]; simp)])
      go_enter Try.func68, Try.ntmps68
      go_wp2_with fail
      refine (nans_any _ _).mono ?_; rintro e w' ⟨rfl, rfl⟩
      go_wp2_with fail
      refine (nans_any _ _).mono ?_; rintro e w' ⟨rfl, rfl⟩
      go_wp2_with fail
      go_ret
      exact ⟨ret_int HV.out, rfl⟩
set_option maxRecDepth 100000 in
set_option maxHeartbeats 4000000 in
theorem scmpfunc_any (v1 v2 : Value) (L1 L2 : List St) (hn1 : L1.length ≤ 100000) (hn2 : L2.length ≤ 100000) (w : World) (h1 : SI w v1 L1) (h2 : SI w v2 L2) :
    Calls Try.prog 70 #[v1, v2, .func (.func 65) #[] #[]] w fun e w' => e = .returned (.int .i64 (rowsC L1 L2)) ∧ Below w.heap.size w w' := by
  obtain ⟨a1, c1, rfl⟩ := h1.form
  obtain ⟨a2, c2, rfl⟩ := h2.form
  have H1 := Hid.mk' (And.intro h1 h2)
  clear h1 h2
  go_enter Try.func70, Try.ntmps70
  go_wp2_with fail
  go_loopw [13] (fun i wr => ∃ k : Nat, i = .int .i64 k ∧ k ≤ L1.length ∧ k ≤ L2.length ∧ Hid (Below w.heap.size w wr) ∧ Hid (rowsC (L1.drop k) (L2.drop k) = rowsC L1 L2)) (fun i _ => L1.length - (intOf i).toNat)
  case atStart => exact ⟨0, rfl, by omega, by omega, Hid.mk' (Below.refl _ _), Hid.mk' (by simp)⟩
  case round =>
    obtain ⟨k, rfl, hk1, hk2, HB, HR⟩ := hrel
    by_cases h1 : k < L1.length
    · obtain ⟨g1, f1, rfl, r0, r1, r2⟩ := (H1.out.1.next HB.out).at_ k h1
      by_cases h2 : k < L2.length
      · obtain ⟨g2, f2, rfl, s0, s1, s2⟩ := (H1.out.2.next HB.out).at_ k h2
        have C := Hid.mk' (fun W => compare_any L1[k] L2[k] W)
        have HR2 := Hid.mk' (show rowsC (L1[k] :: L1.drop (k + 1)) (L2[k] :: L2.drop (k + 1)) = rowsC L1 L2 by rw [← List.drop_eq_getElem_cons h1, ← List.drop_eq_getElem_cons h2]; exact HR.out)
        clear HR
        have hi1 : (k : Int) < (L1.length : Int) := by omega
        have hi2 : (k : Int) < (L2.length : Int) := by omega
        generalize L1[k] = p at *
        generalize L2[k] = q at *
        obtain ⟨p1, p2, p3⟩ := p
        obtain ⟨q1, q2, q3⟩ := q
        unfold St.cells at C
        dsimp only at *
        have s0' := Go.Proofs.Ytljhnkcoknikgaa.cell_nx ((Below.refl wr.heap.size wr).alloc (Nat.le_refl _) (.cells #[.int .i64 p1, .int .i64 p2, .int .i64 p3] 37)) s0
        have s1' := Go.Proofs.Ytljhnkcoknikgaa.cell_nx ((Below.refl wr.heap.size wr).alloc (Nat.le_refl _) (.cells #[.int .i64 p1, .int .i64 p2, .int .i64 p3] 37)) s1
        have s2' := Go.Proofs.Ytljhnkcoknikgaa.cell_nx ((Below.refl wr.heap.size wr).alloc (Nat.le_refl _) (.cells #[.int .i64 p1, .int .i64 p2, .int .i64 p3] 37)) s2
        have HA := Hid.mk' (show Below w.heap.size w ((wr.alloc (.cells #[.int .i64 p1, .int .i64 p2, .int .i64 p3] 37)).alloc (.cells #[.int .i64 q1, .int .i64 q2, .int .i64 q3] 37)) from (HB.out.alloc HB.out.size _).alloc (by have := HB.out.size; simp; omega) _)
        clear s0 s1 s2
        generalize hz0 : cmpS ⟨p1, p2, p3⟩ ⟨q1, q2, q3⟩ = z at *
        go_wp2_with fail
        refine (C.out _).mono ?_; rintro e w4 ⟨rfl, hb4⟩
        have HB4 := Hid.mk' (bnext HA.out hb4)
        by_cases hz : z = 0
        · have HR3 := Hid.mk' (show rowsC (L1.drop (k + 1)) (L2.drop (k + 1)) = rowsC L1 L2 by have h := HR2.out; rw [rowsC, hz0, if_neg (by simpa using hz)] at h; exact h)
          clear hb4 C HR2 r0 r1 r2 s0' s1' s2' HA hz0
          subst hz
          go_wp2_with fail
          go_roundw
          case rel => exact ⟨k + 1, by go_num, by omega, by omega, HB4, HR3⟩
          case measure => simp [intOf]; omega
        · have HR3 := Hid.mk' (show z = rowsC L1 L2 by have h := HR2.out; rw [rowsC, hz0, if_pos (by simpa using hz)] at h; exact h)
          clear hb4 C HR2 r0 r1 r2 s0' s1' s2' HA hz0
          have hz2 : (z != 0) = true := by simp [hz]
          clear hz
          go_wp2_with fail
          go_ret
          exact ⟨ret_int HR3.out, HB4.out⟩
      · have HR3 := Hid.mk' (show (1 : Int) = rowsC L1 L2 by
          have h := HR.out
          rw [List.drop_eq_getElem_cons h1, List.drop_of_length_le (by omega : L2.length ≤ k), rowsC] at h
          exact h)
        have hi1 : (k : Int) < (L1.length : Int) := by omega
        have hi2 : ¬ (k : Int) < (L2.length : Int) := by omega
        have HA := Hid.mk' (show Below w.heap.size w (wr.alloc (.cells #[.int .i64 L1[k].x, .int .i64 L1[k].y, .int .i64 L1[k].z] 37)) from (HB.out.alloc HB.out.size _))
        generalize L1[k] = p at *
        obtain ⟨p1, p2, p3⟩ := p
        dsimp only at *
        clear HR
        go_wp2_with fail
        go_ret
        exact ⟨ret_int HR3.out, HA.out⟩
    · by_cases h2 : k < L2.length
      · have HR3 := Hid.mk' (show (-1 : Int) = rowsC L1 L2 by
          have h := HR.out
          rw [List.drop_eq_getElem_cons h2, List.drop_of_length_le (by omega : L1.length ≤ k), rowsC] at h
          exact h)
        have hi1 : ¬ (k : Int) < (L1.length : Int) := by omega
        have hi2 : (L1.length : Int) < (L2.length : Int) := by omega
        clear HR
        go_wp2_with fail
        go_ret
        exact ⟨ret_int HR3.out, HB.out⟩
      · have HR3 := Hid.mk' (show (0 : Int) = rowsC L1 L2 by
          have h := HR.out
          rw [List.drop_of_length_le (by omega : L1.length ≤ k), List.drop_of_length_le (by omega : L2.length ≤ k), rowsC] at h
          exact h)
        have hi1 : ¬ (k : Int) < (L1.length : Int) := by omega
        have hi2 : ¬ (L1.length : Int) < (L2.length : Int) := by omega
        clear HR
        go_wp2_with fail
        go_ret
        exact ⟨ret_int HR3.out, HB.out⟩
end Go.Proofs.Ytljhnkcoknikgaa
