/- Layer 36 (diffs): Compare, the law's compare; slices.Equal, Index, Contains at entries. -/
import Derived.Test.YtkkhljneeajkmaaB2
import Derived.Lib.QuietBelow
import Derived.Deep.Draws
import Derived.Deep.LoopGhost
import Derived.Sort.Walk0
import Derived.Deep.RegionHeld3
import Derived.Laws.Cover1
namespace Go.Proofs.Ytkkhljneeajkmaa
open Go.RowKit

theorem nans_any (x : ByteArray) (w : World) : Calls Try.prog 100 #[.string x] w fun e w' => e = .returned (.bool false) ∧ w' = w := by
  have hx : (x.toList == x.toList) = true := by simp
  go_enter Try.func100, Try.ntmps100
  go_wp2_with fail
  go_ret
  exact ⟨rfl, rfl⟩
theorem cmps_any (x y : ByteArray) (w : World) : Calls Try.prog 73 #[.string x, .string y] w fun e w' => e = .returned (.int .i64 (cmpT x y)) ∧ w' = w := by
  cases h : Op.bytesLess x.toList y.toList with
  | true =>
    have HV := Hid.mk' (show (-1 : Int) = cmpT x y by unfold cmpT; rw [if_pos h])
    go_enter Try.func73, Try.ntmps73
    go_wp2_with fail
    refine (nans_any _ _).mono ?_; rintro e w' ⟨rfl, rfl⟩
    go_wp2_with fail
    refine (nans_any _ _).mono ?_; rintro e w' ⟨rfl, rfl⟩
    go_wp2_with fail
    go_ret
    exact ⟨ret_int HV.out, rfl⟩
  | false =>
    cases h2 : (x.toList == y.toList) with
    | true =>
      have HV := Hid.mk' (show (0 : Int) = cmpT x y by unfold cmpT; rw [if_neg (by rw [h]; simp), if_pos h2])
      go_enter Try.func73, Try.ntmps73
      go_wp2_with fail
      refine (nans_any _ _).mono ?_; rintro e w' ⟨rfl, rfl⟩
      go_wp2_with fail
      refine (nans_any _ _).mono ?_; rintro e w' ⟨rfl, rfl⟩
      go_wp2_with fail
      go_ret
      exact ⟨ret_int HV.out, rfl⟩
    | false =>
      have HV := Hid.mk' (show (1 : Int) = cmpT x y by unfold cmpT; rw [if_neg (by rw [h]; simp), if_neg (by rw [h2]; simp)])
      go_enter Try.func73, Try.ntmps73
      go_wp2_with fail
      refine (nans_any _ _).mono ?_; rintro e w' ⟨rfl, rfl⟩
      go_wp2_with fail
      refine (nans_any _ _).mono ?_; rintro e w' ⟨rfl, rfl⟩
      go_wp2_with fail
      go_ret
      exact ⟨ret_int HV.out, rfl⟩
theorem or2_any (g : Nat) (x y : Int) (w : World) (hb : Bx w g 3 #[.int .i64 x, .int .i64 y]) : Calls Try.prog 72 #[.slice (some ⟨g, 0, none⟩) 2 2] w fun e w' => e = .returned (.int .i64 (or2 x y)) ∧ w' = w := by
  have c0 := hb.read (i := 0) rfl
  have c1 := hb.read (i := 1) rfl
  clear hb
  by_cases hp : x = 0
  · have h1 : (x != 0) = false := by simp [hp]
    by_cases hq : y = 0
    · have h2 : (y != 0) = false := by simp [hq]
      have HR := Hid.mk' (show or2 x y = 0 by simp [or2, hp, hq])
      clear hp hq
      go_enter Try.func72, Try.ntmps72
      go_wp2
      refine wp_loop_rounds 3 ?_
      repeat (rw [rounds_succ]; go_wp2)
      go_ret
      exact ⟨ret_int HR.out.symm, rfl⟩
    · have h2 : (y != 0) = true := by simp [hq]
      have HR := Hid.mk' (show or2 x y = y by simp [or2, hp])
      clear hp hq
      go_enter Try.func72, Try.ntmps72
      go_wp2
      refine wp_loop_rounds 3 ?_
      repeat (rw [rounds_succ]; go_wp2)
      go_ret
      exact ⟨ret_int HR.out.symm, rfl⟩
  · have h1 : (x != 0) = true := by simp [hp]
    have HR := Hid.mk' (show or2 x y = x by simp [or2, hp])
    clear hp
    go_enter Try.func72, Try.ntmps72
    go_wp2
    refine wp_loop_rounds 3 ?_
    repeat (rw [rounds_succ]; go_wp2)
    go_ret
    exact ⟨ret_int HR.out.symm, rfl⟩
theorem text07_any (x y : ByteArray) (w : World) : Calls Try.prog 75 #[.string x, .string y] w fun e w' => e = .returned (.int .i64 (cmpT x y)) ∧ w' = w := by
  cases h : Op.bytesLess x.toList y.toList with
  | true =>
    have HV := Hid.mk' (show (-1 : Int) = cmpT x y by unfold cmpT; rw [if_pos h])
    go_enter Try.func75, Try.ntmps75
    go_wp2_with fail
    go_ret
    exact ⟨ret_int HV.out, rfl⟩
  | false =>
    cases h2 : Op.bytesLess y.toList x.toList with
    | true =>
      have HV := Hid.mk' (show (1 : Int) = cmpT x y by
        have h3 : ¬ (x.toList == y.toList) = true := by
          intro e
          rw [beq_iff_eq] at e
          rw [e, bless_irr] at h2
          cases h2
        unfold cmpT; rw [if_neg (by rw [h]; simp), if_neg h3])
      have e2 : (x.toList == y.toList) = false := by
        rw [Bool.eq_false_iff]
        intro e
        rw [beq_iff_eq] at e
        rw [e, bless_irr] at h2
        cases h2
      go_enter Try.func75, Try.ntmps75
      go_wp2_with fail
      go_ret
      exact ⟨ret_int HV.out, rfl⟩
    | false =>
      have HV := Hid.mk' (show (0 : Int) = cmpT x y by
        have h3 : x.toList = y.toList := Classical.byContradiction fun e => by
          have := bless_tot _ _ h e
          rw [h2] at this
          cases this
        exact ((cmpT_zero x y).2 h3).symm)
      have e2 : (x.toList == y.toList) = true := by
        rw [beq_iff_eq]
        exact Classical.byContradiction fun e => by
          have := bless_tot _ _ h e
          rw [h2] at this
          cases this
      go_enter Try.func75, Try.ntmps75
      go_wp2_with fail
      go_ret
      exact ⟨ret_int HV.out, rfl⟩
set_option maxRecDepth 100000 in
set_option maxHeartbeats 4000000 in
theorem lcompare_any (a b : En) (w : World) : Calls Try.prog 37 #[.agg a.cells, .agg b.cells] w fun e w' => e = .returned (.int .i64 (cmpE a b)) ∧ Below w.heap.size w w' := by
  have HB := Lib.hid (show Below w.heap.size w ((w.alloc (.cells a.cells 72)).alloc (.cells b.cells 72)) from ((Below.refl _ _).alloc (Nat.le_refl _) _).alloc (by simp) _)
  have CS := Lib.hid (fun W => refcompare_any a.st b.st W)
  have HE : cmpE a b = or2 (cmpT a.key b.key) (cmpS a.st b.st) := rfl
  have HZ := Lib.hid (cmpT_zero a.key b.key)
  rw [HE]
  clear HE
  obtain ⟨k1, ⟨ax, ay, az⟩⟩ := a
  obtain ⟨k2, ⟨bx, b_y, bz⟩⟩ := b
  unfold En.cells at *
  unfold St.cells at CS
  dsimp only at *
  generalize cmpS ⟨ax, ay, az⟩ ⟨bx, b_y, bz⟩ = cs at *
  by_cases hk : k1.toList = k2.toList
  · have e1 : (k1.toList == k2.toList) = true := by simp [hk]
    have HR := Lib.hid (show cs = or2 (cmpT k1 k2) cs from by unfold or2; rw [if_neg (by rw [HZ.out.2 hk]; simp)])
    clear hk
    go_enter Try.func37, Try.ntmps37
    go_wp2_with fail
    refine (CS.out _).mono ?_; rintro e w5 ⟨rfl, hb5⟩
    go_wp2_with fail
    go_ret
    exact ⟨ret_int HR.out, bnext HB.out hb5⟩
  · have e1 : (k1.toList == k2.toList) = false := by simp [hk]
    have HR := Lib.hid (show cmpT k1 k2 = or2 (cmpT k1 k2) cs from by unfold or2; rw [if_pos (fun e => hk (HZ.out.1 e))])
    clear hk
    go_enter Try.func37, Try.ntmps37
    go_wp2_with fail
    refine (text07_any _ _ _).mono ?_; rintro e w5 ⟨rfl, rfl⟩
    go_wp2_with fail
    go_ret
    exact ⟨ret_int HR.out, HB.out⟩
set_option maxRecDepth 100000 in
set_option maxHeartbeats 4000000 in
theorem ecompare_any (a b : En) (w : World) : Calls Try.prog 36 #[.agg a.cells, .agg b.cells] w fun e w' => e = .returned (.int .i64 (cmpE a b)) ∧ Below w.heap.size w w' := by
  have HB := Lib.hid (show Below w.heap.size w ((w.alloc (.cells a.cells 72)).alloc (.cells b.cells 72)) from ((Below.refl _ _).alloc (Nat.le_refl _) _).alloc (by simp) _)
  have CS := Lib.hid (fun W => compare_any a.st b.st W)
  have HE : cmpE a b = or2 (cmpT a.key b.key) (cmpS a.st b.st) := rfl
  rw [HE]
  clear HE
  have hX1 : Bx ((w.alloc (.cells a.cells 72)).alloc (.cells b.cells 72)) w.heap.size 72 a.cells := (Bx.fresh w _ _).past _
  have hX2 : Bx ((w.alloc (.cells a.cells 72)).alloc (.cells b.cells 72)) (w.heap.size + 1) 72 b.cells := Bx.fresh' _ (by simp) _ _
  obtain ⟨k1, ⟨ax, ay, az⟩⟩ := a
  obtain ⟨k2, ⟨bx, b_y, bz⟩⟩ := b
  unfold En.cells at *
  unfold St.cells at CS
  dsimp only at *
  generalize cmpS ⟨ax, ay, az⟩ ⟨bx, b_y, bz⟩ = cs at *
  have CT := Lib.hid (fun (W : World) (hW : (W.cell? ⟨w.heap.size, 0, none⟩ = some (.string k1) ∧ W.cell? ⟨w.heap.size, 1, none⟩ = some (.int .i64 ax) ∧ W.cell? ⟨w.heap.size, 2, none⟩ = some (.int .i64 ay) ∧ W.cell? ⟨w.heap.size, 3, none⟩ = some (.int .i64 az) ∧ W.cell? ⟨w.heap.size + 1, 0, none⟩ = some (.string k2) ∧ W.cell? ⟨w.heap.size + 1, 1, none⟩ = some (.int .i64 bx) ∧ W.cell? ⟨w.heap.size + 1, 2, none⟩ = some (.int .i64 b_y) ∧ W.cell? ⟨w.heap.size + 1, 3, none⟩ = some (.int .i64 bz) ∧ Hid (Below w.heap.size w W))) => (cmps_any k1 k2 W).mono (R' := fun e w' => e = .returned (.int .i64 (cmpT k1 k2)) ∧ (w'.cell? ⟨w.heap.size, 0, none⟩ = some (.string k1) ∧ w'.cell? ⟨w.heap.size, 1, none⟩ = some (.int .i64 ax) ∧ w'.cell? ⟨w.heap.size, 2, none⟩ = some (.int .i64 ay) ∧ w'.cell? ⟨w.heap.size, 3, none⟩ = some (.int .i64 az) ∧ w'.cell? ⟨w.heap.size + 1, 0, none⟩ = some (.string k2) ∧ w'.cell? ⟨w.heap.size + 1, 1, none⟩ = some (.int .i64 bx) ∧ w'.cell? ⟨w.heap.size + 1, 2, none⟩ = some (.int .i64 b_y) ∧ w'.cell? ⟨w.heap.size + 1, 3, none⟩ = some (.int .i64 bz) ∧ Hid (Below w.heap.size w w'))) (fun _ _ ⟨a, b⟩ => by subst b; exact ⟨a, hW⟩))
  have CS2 := Lib.hid (fun (W : World) (hW : (W.cell? ⟨w.heap.size, 0, none⟩ = some (.string k1) ∧ W.cell? ⟨w.heap.size, 1, none⟩ = some (.int .i64 ax) ∧ W.cell? ⟨w.heap.size, 2, none⟩ = some (.int .i64 ay) ∧ W.cell? ⟨w.heap.size, 3, none⟩ = some (.int .i64 az) ∧ W.cell? ⟨w.heap.size + 1, 0, none⟩ = some (.string k2) ∧ W.cell? ⟨w.heap.size + 1, 1, none⟩ = some (.int .i64 bx) ∧ W.cell? ⟨w.heap.size + 1, 2, none⟩ = some (.int .i64 b_y) ∧ W.cell? ⟨w.heap.size + 1, 3, none⟩ = some (.int .i64 bz) ∧ Hid (Below w.heap.size w W))) => (CS.out W).mono (R' := fun e w' => e = .returned (.int .i64 cs) ∧ (w'.cell? ⟨w.heap.size, 0, none⟩ = some (.string k1) ∧ w'.cell? ⟨w.heap.size, 1, none⟩ = some (.int .i64 ax) ∧ w'.cell? ⟨w.heap.size, 2, none⟩ = some (.int .i64 ay) ∧ w'.cell? ⟨w.heap.size, 3, none⟩ = some (.int .i64 az) ∧ w'.cell? ⟨w.heap.size + 1, 0, none⟩ = some (.string k2) ∧ w'.cell? ⟨w.heap.size + 1, 1, none⟩ = some (.int .i64 bx) ∧ w'.cell? ⟨w.heap.size + 1, 2, none⟩ = some (.int .i64 b_y) ∧ w'.cell? ⟨w.heap.size + 1, 3, none⟩ = some (.int .i64 bz) ∧ Hid (Below w.heap.size w w'))) (fun _ _ ⟨a, b⟩ => ⟨a, cell_nx b hW.1, cell_nx b hW.2.1, cell_nx b hW.2.2.1, cell_nx b hW.2.2.2.1, cell_nx b hW.2.2.2.2.1, cell_nx b hW.2.2.2.2.2.1, cell_nx b hW.2.2.2.2.2.2.1, cell_nx b hW.2.2.2.2.2.2.2.1, Lib.hid (bnext hW.2.2.2.2.2.2.2.2.out b)⟩))
  have SK := Lib.hid (fun (W : World) (o : Obj) (hW : (W.cell? ⟨w.heap.size, 0, none⟩ = some (.string k1) ∧ W.cell? ⟨w.heap.size, 1, none⟩ = some (.int .i64 ax) ∧ W.cell? ⟨w.heap.size, 2, none⟩ = some (.int .i64 ay) ∧ W.cell? ⟨w.heap.size, 3, none⟩ = some (.int .i64 az) ∧ W.cell? ⟨w.heap.size + 1, 0, none⟩ = some (.string k2) ∧ W.cell? ⟨w.heap.size + 1, 1, none⟩ = some (.int .i64 bx) ∧ W.cell? ⟨w.heap.size + 1, 2, none⟩ = some (.int .i64 b_y) ∧ W.cell? ⟨w.heap.size + 1, 3, none⟩ = some (.int .i64 bz) ∧ Hid (Below w.heap.size w W))) => (show ((W.alloc o).cell? ⟨w.heap.size, 0, none⟩ = some (.string k1) ∧ (W.alloc o).cell? ⟨w.heap.size, 1, none⟩ = some (.int .i64 ax) ∧ (W.alloc o).cell? ⟨w.heap.size, 2, none⟩ = some (.int .i64 ay) ∧ (W.alloc o).cell? ⟨w.heap.size, 3, none⟩ = some (.int .i64 az) ∧ (W.alloc o).cell? ⟨w.heap.size + 1, 0, none⟩ = some (.string k2) ∧ (W.alloc o).cell? ⟨w.heap.size + 1, 1, none⟩ = some (.int .i64 bx) ∧ (W.alloc o).cell? ⟨w.heap.size + 1, 2, none⟩ = some (.int .i64 b_y) ∧ (W.alloc o).cell? ⟨w.heap.size + 1, 3, none⟩ = some (.int .i64 bz) ∧ Hid (Below w.heap.size w (W.alloc o))) from by
    have b : Below W.heap.size W (W.alloc o) := (Below.refl _ _).alloc (Nat.le_refl _) _
    exact ⟨cell_nx b hW.1, cell_nx b hW.2.1, cell_nx b hW.2.2.1, cell_nx b hW.2.2.2.1, cell_nx b hW.2.2.2.2.1, cell_nx b hW.2.2.2.2.2.1, cell_nx b hW.2.2.2.2.2.2.1, cell_nx b hW.2.2.2.2.2.2.2.1, Lib.hid (bnext hW.2.2.2.2.2.2.2.2.out b)⟩))
  have CO := Lib.hid (fun W g x y (hb : Bx W g 3 #[.int .i64 x, .int .i64 y]) => or2_any g x y W hb)
  have HS0 := Lib.hid (show ((((w.alloc (.cells #[.string k1, .int .i64 ax, .int .i64 ay, .int .i64 az] 72)).alloc (.cells #[.string k2, .int .i64 bx, .int .i64 b_y, .int .i64 bz] 72))).drew.cell? ⟨w.heap.size, 0, none⟩ = some (.string k1) ∧ (((w.alloc (.cells #[.string k1, .int .i64 ax, .int .i64 ay, .int .i64 az] 72)).alloc (.cells #[.string k2, .int .i64 bx, .int .i64 b_y, .int .i64 bz] 72))).drew.cell? ⟨w.heap.size, 1, none⟩ = some (.int .i64 ax) ∧ (((w.alloc (.cells #[.string k1, .int .i64 ax, .int .i64 ay, .int .i64 az] 72)).alloc (.cells #[.string k2, .int .i64 bx, .int .i64 b_y, .int .i64 bz] 72))).drew.cell? ⟨w.heap.size, 2, none⟩ = some (.int .i64 ay) ∧ (((w.alloc (.cells #[.string k1, .int .i64 ax, .int .i64 ay, .int .i64 az] 72)).alloc (.cells #[.string k2, .int .i64 bx, .int .i64 b_y, .int .i64 bz] 72))).drew.cell? ⟨w.heap.size, 3, none⟩ = some (.int .i64 az) ∧ (((w.alloc (.cells #[.string k1, .int .i64 ax, .int .i64 ay, .int .i64 az] 72)).alloc (.cells #[.string k2, .int .i64 bx, .int .i64 b_y, .int .i64 bz] 72))).drew.cell? ⟨w.heap.size + 1, 0, none⟩ = some (.string k2) ∧ (((w.alloc (.cells #[.string k1, .int .i64 ax, .int .i64 ay, .int .i64 az] 72)).alloc (.cells #[.string k2, .int .i64 bx, .int .i64 b_y, .int .i64 bz] 72))).drew.cell? ⟨w.heap.size + 1, 1, none⟩ = some (.int .i64 bx) ∧ (((w.alloc (.cells #[.string k1, .int .i64 ax, .int .i64 ay, .int .i64 az] 72)).alloc (.cells #[.string k2, .int .i64 bx, .int .i64 b_y, .int .i64 bz] 72))).drew.cell? ⟨w.heap.size + 1, 2, none⟩ = some (.int .i64 b_y) ∧ (((w.alloc (.cells #[.string k1, .int .i64 ax, .int .i64 ay, .int .i64 az] 72)).alloc (.cells #[.string k2, .int .i64 bx, .int .i64 b_y, .int .i64 bz] 72))).drew.cell? ⟨w.heap.size + 1, 3, none⟩ = some (.int .i64 bz) ∧ Hid (Below w.heap.size w (((w.alloc (.cells #[.string k1, .int .i64 ax, .int .i64 ay, .int .i64 az] 72)).alloc (.cells #[.string k2, .int .i64 bx, .int .i64 b_y, .int .i64 bz] 72))).drew)) from ⟨hX1.read (i := 0) rfl, hX1.read (i := 1) rfl, hX1.read (i := 2) rfl, hX1.read (i := 3) rfl, hX2.read (i := 0) rfl, hX2.read (i := 1) rfl, hX2.read (i := 2) rfl, hX2.read (i := 3) rfl, Lib.hid HB.out.drew⟩)
  generalize cmpT k1 k2 = ct at *
  clear CS hX1 hX2 HB
  go_enter Try.func36, Try.ntmps36
  go_wp2_with fail
  go_region_held3 (fun W => W.cell? ⟨w.heap.size, 0, none⟩ = some (.string k1) ∧ W.cell? ⟨w.heap.size, 1, none⟩ = some (.int .i64 ax) ∧ W.cell? ⟨w.heap.size, 2, none⟩ = some (.int .i64 ay) ∧ W.cell? ⟨w.heap.size, 3, none⟩ = some (.int .i64 az) ∧ W.cell? ⟨w.heap.size + 1, 0, none⟩ = some (.string k2) ∧ W.cell? ⟨w.heap.size + 1, 1, none⟩ = some (.int .i64 bx) ∧ W.cell? ⟨w.heap.size + 1, 2, none⟩ = some (.int .i64 b_y) ∧ W.cell? ⟨w.heap.size + 1, 3, none⟩ = some (.int .i64 bz) ∧ Hid (Below w.heap.size w W))
    (first | assumption | exact HS0.out | exact SK.out _ _ (by assumption))
    ((first | (go_at_call 73; with_reducible refine (CT.out _ (by assumption)).mono ?_; rintro e w6 ⟨rfl, k0⟩) | (go_at_call 74; with_reducible refine (CS2.out _ (by assumption)).mono ?_; rintro e w7 ⟨rfl, k0⟩) | (go_at_call 72; refine (CO.out _ _ _ _ (Bx.fresh _ _ _)).mono ?_; rintro e w8 ⟨rfl, rfl⟩)))
  all_goals
    go_wp2_with fail
    go_ret
    exact ⟨rfl, by have := k0.2.2.2.2.2.2.2.2.out; first | exact this.alloc this.size _ | exact this.drew.alloc this.size _ | exact (this.alloc this.size _).drew | exact this⟩
end Go.Proofs.Ytkkhljneeajkmaa
