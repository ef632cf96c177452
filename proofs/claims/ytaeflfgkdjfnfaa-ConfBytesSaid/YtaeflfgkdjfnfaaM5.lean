/- Layer 21 (conf): the statement ConfBytes' walk. -/
import Derived.Test.YtaeflfgkdjfnfaaM4
import Derived.Test.YtaeflfgkdjfnfaaE4
import Derived.Test.YtaeflfgkdjfnfaaE7
import Derived.Test.YtaeflfgkdjfnfaaVo
namespace Go.Proofs.Ytaeflfgkdjfnfaa
open Go.RowKit

theorem cB_len (c : Cf) : (cB c).length ≤ 110 := by
  have := pall_len (cN c)
  unfold cB
  simp [cN] at this ⊢
  omega
set_option maxRecDepth 100000 in
set_option maxHeartbeats 16000000 in
theorem byteslaw (c : Cf) (vb : Value) (lb : List UInt8) (w : World) (h : BS w vb lb) : Calls Try.prog 7 #[.agg c.cells, vb] w fun e w' => e = .returned (.bool true) ∧ Below w.heap.size w w' := by
  have hb0 : Below w.heap.size w (w.alloc (.cells c.cells 39)) := (Below.refl _ _).alloc (Nat.le_refl _) _
  have hx0 := Bx.fresh w 39 c.cells
  have h0 := h.next hb0
  have HB := Lib.hid (And.intro hb0 (And.intro hx0 h0))
  obtain ⟨av, capv, rfl⟩ := h.form
  obtain ⟨vb, hvb⟩ : ∃ vb, vb = Value.slice av lb.length capv := ⟨_, rfl⟩
  by_cases hbig : 500 < lb.length
  · have hb2 : (500 : Int) < (lb.length : Int) := by omega
    clear hb0 hx0 h0 h hvb hbig
    obtain ⟨e, o0, o1, o2, o3, o4, j0, j1, j2, j3, j4⟩ := c
    unfold Cf.cells at *
    dsimp only at *
    go_enter Try.func7, Try.ntmps7
    go_wp2_with fail
    go_ret
    exact ⟨rfl, HB.out.1⟩
  · have hb2 : ¬ (500 : Int) < (lb.length : Int) := by omega
    have hlen : lb.length ≤ 500 := by omega
    have CR := Lib.hid (law_right c (w.alloc (.cells c.cells 39)))
    rw [← hvb] at HB
    clear hb0 hx0 h0 h hbig
    cases hr : c.right with
    | false =>
      rw [hr] at CR
      clear hr
      obtain ⟨e, o0, o1, o2, o3, o4, j0, j1, j2, j3, j4⟩ := c
      unfold Cf.cells at *
      dsimp only at *
      go_enter Try.func7, Try.ntmps7
      go_wp2_with fail
      refine (CR.out).mono ?_; rintro _ w1 ⟨rfl, hb1⟩
      have HP := Lib.hid (show BS w1 vb lb ∧ Below w.heap.size w w1 from ⟨HB.out.2.2.next hb1, bnext HB.out.1 hb1⟩)
      clear hb1 CR HB hb2
      rw [← hvb]
      clear hvb
      have CL := Lib.hid (sclone_any vb lb (by omega) _ HP.out.1)
      go_wp2_with fail
      refine (CL.out).mono ?_; rintro _ w5 ⟨v5, rfl, hO5, hb5⟩
      have CG := Lib.hid (cf_get v5 lb (by omega) w5 hO5.bs)
      have HP5 := Lib.hid (show BS w5 vb lb ∧ Below w.heap.size w w5 from ⟨HP.out.1.next hb5, bnext HP.out.2 hb5⟩)
      clear hO5 hb5 CL HP
      go_wp2_with fail
      refine (CG.out).mono ?_; rintro _ w6 ⟨rfl, hb6⟩
      have HP6 := Lib.hid (show BS w6 vb lb ∧ Below w.heap.size w w6 from ⟨HP5.out.1.next hb6, bnext HP5.out.2 hb6⟩)
      clear hb6 CG HP5
      have HP7 := Lib.hid (show BS (w6.alloc (.cells (gC lb).cells 39)) vb lb ∧ Below w.heap.size w (w6.alloc (.cells (gC lb).cells 39)) from ⟨HP6.out.1.next ((Below.refl _ _).alloc (Nat.le_refl _) _), HP6.out.2.alloc HP6.out.2.size _⟩)
      have HX7 := Lib.hid (Bx.fresh w6 39 (gC lb).cells)
      by_cases hy : gY lb = 0
      · obtain ⟨hrd, hbd⟩ := get_inv hy
        have CR := Lib.hid (law_right (gC lb))
        rw [hrd] at CR
        have CB := Lib.hid (law_bytes (gC lb) hrd)
        rw [hbd] at CB
        rw [hy]
        clear hy hrd hbd HP6
        generalize gC lb = d at *
        obtain ⟨de, p0, p1, p2, p3, p4, k0, k1, k2, k3, k4⟩ := d
        unfold Cf.cells at *
        dsimp only at *
        go_wp2_with fail
        refine (CR.out _).mono ?_; rintro _ w8 ⟨rfl, hb8⟩
        have HP8 := Lib.hid (show BS w8 vb lb ∧ Below w.heap.size w w8 from ⟨HP7.out.1.next hb8, bnext HP7.out.2 hb8⟩)
        obtain ⟨x0, x1, x2, x3, x4, x5, x6, x7, x8, x9, x10⟩ := (HX7.out.next hb8).reads11
        clear hb8 CR HP7 HX7
        go_wp2_with fail
        refine (CB.out _).mono ?_; rintro _ w9 ⟨v9, rfl, hS9, hb9⟩
        have HP9 := Lib.hid (show BS w9 vb lb ∧ Below w.heap.size w w9 from ⟨HP8.out.1.next hb9, bnext HP8.out.2 hb9⟩)
        have CE := Lib.hid (equal_yes v9 vb lb (by omega) w9 hS9 HP9.out.1)
        clear hS9 hb9 HP8 CB x0 x1 x2 x3 x4 x5 x6 x7 x8 x9 x10
        go_wp2_with fail
        refine (CE.out).mono ?_; rintro _ w10 ⟨rfl, hb10⟩
        have HP10 := Lib.hid (bnext HP9.out.2 hb10)
        clear hb10 CE HP9
        go_wp2_with fail
        refine (alive21_any w10).mono ?_; rintro _ w11 ⟨rfl, hb11⟩
        have HP11 := Lib.hid (bnext HP10.out hb11)
        clear hb11
        go_wp2_with fail
        go_ret
        exact ⟨rfl, HP11.out⟩
      · have hz2 : (gY lb != 0) = true := by simp [hy]
        have hzero : gC lb = Cf.zero := by unfold gC; rw [if_neg hy]
        generalize hd : gC lb = d at *
        subst hzero
        generalize gY lb = z at *
        have heq : ∀ W, (binOp .eql 39 (.agg #[.int .i64 0, .bool false, .bool false, .bool false, .bool false, .bool false, .int .i64 0, .int .i64 0, .int .i64 0, .int .i64 0, .int .i64 0]) (.agg #[.int .i64 0, .bool false, .bool false, .bool false, .bool false, .bool false, .int .i64 0, .int .i64 0, .int .i64 0, .int .i64 0, .int .i64 0])).run Try.prog W = .ok (.bool true) W := fun W => run_eqlCf Cf.zero Cf.zero W
        have hgd := fun (op : BinOp) (x y : Operand) (xs ys : Array Value) (W : World) => run_cfGuard op x y xs ys W
        clear hy hd HX7 HP6
        unfold Cf.zero Cf.cells at *
        dsimp only at *
        go_wp2_with fail
        refine (alive21_any _).mono ?_; rintro _ w11 ⟨rfl, hb11⟩
        have HP11 := Lib.hid (bnext HP7.out.2 hb11)
        clear hb11
        go_wp2_with fail
        go_ret
        exact ⟨rfl, HP11.out⟩
    | true =>
      rw [hr] at CR
      obtain ⟨hgy, hgc⟩ := get_put hr
      have CP := Lib.hid (cf_put c hr)
      have CBY := Lib.hid (law_bytes c hr)
      have CGT : Hid (∀ v W, BS W v (cB c) → Calls Try.prog 34 #[v] W fun e w' => e = .returned (.tuple #[.agg c.cells, .int .i64 0]) ∧ Below W.heap.size W w') := Lib.hid (fun v W hv => by have := cf_get v (cB c) (by have := cB_len c; omega) W hv; rw [hgy, hgc] at this; exact this)
      have HCL := Lib.hid (cB_len c)
      have hneq : ∀ W, (binOp .neq 39 (.agg c.cells) (.agg c.cells)).run Try.prog W = .ok (.bool false) W := fun W => by rw [run_neqCf, Cf.eq_refl]; rfl
      have hgd := fun (op : BinOp) (x y : Operand) (xs ys : Array Value) (W : World) => run_cfGuard op x y xs ys W
      clear hr hgy hgc
      generalize cB c = CC at *
      obtain ⟨e, o0, o1, o2, o3, o4, j0, j1, j2, j3, j4⟩ := c
      unfold Cf.cells at *
      dsimp only at *
      go_enter Try.func7, Try.ntmps7
      go_wp2_with fail
      refine (CR.out).mono ?_; rintro _ w1 ⟨rfl, hb1⟩
      have HQ := Lib.hid (show BS w1 vb lb ∧ Bx w1 w.heap.size 39 #[.int .i64 e, .bool o0, .bool o1, .bool o2, .bool o3, .bool o4, .int .i64 j0, .int .i64 j1, .int .i64 j2, .int .i64 j3, .int .i64 j4] ∧ Below w.heap.size w w1 from ⟨HB.out.2.2.next hb1, HB.out.2.1.next hb1, bnext HB.out.1 hb1⟩)
      clear hb1 CR HB hb2
      obtain ⟨x0, x1, x2, x3, x4, x5, x6, x7, x8, x9, x10⟩ := HQ.out.2.1.reads11
      go_wp2_with fail
      refine (CP.out _).mono ?_; rintro _ w2 ⟨v2, rfl, hS2, hb2⟩
      have HQ2 := Lib.hid (show BS w2 vb lb ∧ Bx w2 w.heap.size 39 #[.int .i64 e, .bool o0, .bool o1, .bool o2, .bool o3, .bool o4, .int .i64 j0, .int .i64 j1, .int .i64 j2, .int .i64 j3, .int .i64 j4] ∧ Below w.heap.size w w2 from ⟨HQ.out.1.next hb2, HQ.out.2.1.next hb2, bnext HQ.out.2.2 hb2⟩)
      have CG2 := Lib.hid (CGT.out v2 w2 hS2)
      clear hb2 hS2 HQ CGT x0 x1 x2 x3 x4 x5 x6 x7 x8 x9 x10
      go_wp2_with fail
      refine (CG2.out).mono ?_; rintro _ w3 ⟨rfl, hb3⟩
      have HQ3 := Lib.hid (show BS (w3.alloc (.cells #[.int .i64 e, .bool o0, .bool o1, .bool o2, .bool o3, .bool o4, .int .i64 j0, .int .i64 j1, .int .i64 j2, .int .i64 j3, .int .i64 j4] 39)) vb lb ∧ Bx (w3.alloc (.cells #[.int .i64 e, .bool o0, .bool o1, .bool o2, .bool o3, .bool o4, .int .i64 j0, .int .i64 j1, .int .i64 j2, .int .i64 j3, .int .i64 j4] 39)) w.heap.size 39 #[.int .i64 e, .bool o0, .bool o1, .bool o2, .bool o3, .bool o4, .int .i64 j0, .int .i64 j1, .int .i64 j2, .int .i64 j3, .int .i64 j4] ∧ Bx (w3.alloc (.cells #[.int .i64 e, .bool o0, .bool o1, .bool o2, .bool o3, .bool o4, .int .i64 j0, .int .i64 j1, .int .i64 j2, .int .i64 j3, .int .i64 j4] 39)) w3.heap.size 39 #[.int .i64 e, .bool o0, .bool o1, .bool o2, .bool o3, .bool o4, .int .i64 j0, .int .i64 j1, .int .i64 j2, .int .i64 j3, .int .i64 j4] ∧ Below w.heap.size w (w3.alloc (.cells #[.int .i64 e, .bool o0, .bool o1, .bool o2, .bool o3, .bool o4, .int .i64 j0, .int .i64 j1, .int .i64 j2, .int .i64 j3, .int .i64 j4] 39)) from
        ⟨(HQ2.out.1.next hb3).next ((Below.refl _ _).alloc (Nat.le_refl _) _), (HQ2.out.2.1.next hb3).past _, Bx.fresh w3 _ _, (bnext HQ2.out.2.2 hb3).alloc (bnext HQ2.out.2.2 hb3).size _⟩)
      clear hb3 CG2 HQ2
      go_wp2_with fail
      generalize hW3 : w3.alloc (.cells #[.int .i64 e, .bool o0, .bool o1, .bool o2, .bool o3, .bool o4, .int .i64 j0, .int .i64 j1, .int .i64 j2, .int .i64 j3, .int .i64 j4] 39) = W3 at *
      have HS0 : Hid ((fun W : World => (W.cell? ⟨w.heap.size, 0, none⟩ = some (.int .i64 e) ∧ W.cell? ⟨w.heap.size, 1, none⟩ = some (.bool o0) ∧ W.cell? ⟨w.heap.size, 2, none⟩ = some (.bool o1) ∧ W.cell? ⟨w.heap.size, 3, none⟩ = some (.bool o2) ∧ W.cell? ⟨w.heap.size, 4, none⟩ = some (.bool o3) ∧ W.cell? ⟨w.heap.size, 5, none⟩ = some (.bool o4) ∧ W.cell? ⟨w.heap.size, 6, none⟩ = some (.int .i64 j0) ∧ W.cell? ⟨w.heap.size, 7, none⟩ = some (.int .i64 j1) ∧ W.cell? ⟨w.heap.size, 8, none⟩ = some (.int .i64 j2) ∧ W.cell? ⟨w.heap.size, 9, none⟩ = some (.int .i64 j3) ∧ W.cell? ⟨w.heap.size, 10, none⟩ = some (.int .i64 j4)) ∧ (W.cell? ⟨w3.heap.size, 0, none⟩ = some (.int .i64 e) ∧ W.cell? ⟨w3.heap.size, 1, none⟩ = some (.bool o0) ∧ W.cell? ⟨w3.heap.size, 2, none⟩ = some (.bool o1) ∧ W.cell? ⟨w3.heap.size, 3, none⟩ = some (.bool o2) ∧ W.cell? ⟨w3.heap.size, 4, none⟩ = some (.bool o3) ∧ W.cell? ⟨w3.heap.size, 5, none⟩ = some (.bool o4) ∧ W.cell? ⟨w3.heap.size, 6, none⟩ = some (.int .i64 j0) ∧ W.cell? ⟨w3.heap.size, 7, none⟩ = some (.int .i64 j1) ∧ W.cell? ⟨w3.heap.size, 8, none⟩ = some (.int .i64 j2) ∧ W.cell? ⟨w3.heap.size, 9, none⟩ = some (.int .i64 j3) ∧ W.cell? ⟨w3.heap.size, 10, none⟩ = some (.int .i64 j4))) W3.drew) := Lib.hid ⟨(HQ3.out.2.1.drawn 1).reads11, (HQ3.out.2.2.1.drawn 1).reads11⟩
      have HQD := Lib.hid (show BS W3.drew vb lb ∧ Bx W3.drew w.heap.size 39 #[.int .i64 e, .bool o0, .bool o1, .bool o2, .bool o3, .bool o4, .int .i64 j0, .int .i64 j1, .int .i64 j2, .int .i64 j3, .int .i64 j4] ∧ Bx W3.drew w3.heap.size 39 #[.int .i64 e, .bool o0, .bool o1, .bool o2, .bool o3, .bool o4, .int .i64 j0, .int .i64 j1, .int .i64 j2, .int .i64 j3, .int .i64 j4] ∧ Below w.heap.size w W3.drew from ⟨HQ3.out.1, HQ3.out.2.1, HQ3.out.2.2.1, HQ3.out.2.2.2.drew⟩)
      go_region_held3 (fun W : World => (W.cell? ⟨w.heap.size, 0, none⟩ = some (.int .i64 e) ∧ W.cell? ⟨w.heap.size, 1, none⟩ = some (.bool o0) ∧ W.cell? ⟨w.heap.size, 2, none⟩ = some (.bool o1) ∧ W.cell? ⟨w.heap.size, 3, none⟩ = some (.bool o2) ∧ W.cell? ⟨w.heap.size, 4, none⟩ = some (.bool o3) ∧ W.cell? ⟨w.heap.size, 5, none⟩ = some (.bool o4) ∧ W.cell? ⟨w.heap.size, 6, none⟩ = some (.int .i64 j0) ∧ W.cell? ⟨w.heap.size, 7, none⟩ = some (.int .i64 j1) ∧ W.cell? ⟨w.heap.size, 8, none⟩ = some (.int .i64 j2) ∧ W.cell? ⟨w.heap.size, 9, none⟩ = some (.int .i64 j3) ∧ W.cell? ⟨w.heap.size, 10, none⟩ = some (.int .i64 j4)) ∧ (W.cell? ⟨w3.heap.size, 0, none⟩ = some (.int .i64 e) ∧ W.cell? ⟨w3.heap.size, 1, none⟩ = some (.bool o0) ∧ W.cell? ⟨w3.heap.size, 2, none⟩ = some (.bool o1) ∧ W.cell? ⟨w3.heap.size, 3, none⟩ = some (.bool o2) ∧ W.cell? ⟨w3.heap.size, 4, none⟩ = some (.bool o3) ∧ W.cell? ⟨w3.heap.size, 5, none⟩ = some (.bool o4) ∧ W.cell? ⟨w3.heap.size, 6, none⟩ = some (.int .i64 j0) ∧ W.cell? ⟨w3.heap.size, 7, none⟩ = some (.int .i64 j1) ∧ W.cell? ⟨w3.heap.size, 8, none⟩ = some (.int .i64 j2) ∧ W.cell? ⟨w3.heap.size, 9, none⟩ = some (.int .i64 j3) ∧ W.cell? ⟨w3.heap.size, 10, none⟩ = some (.int .i64 j4)))
        (first | assumption | exact HS0.out | exact HT5.out | exact HT4.out | exact HT6.out)
        (first
          | (go_at_call 35; refine (CP.out _).mono ?_; rintro _ w4 ⟨v4, rfl, hS4, hb4⟩; have HA4 := Lib.hid (And.intro hS4 (And.intro (HQD.out.1.next hb4) (And.intro (HQD.out.2.1.next hb4) (And.intro (HQD.out.2.2.1.next hb4) (bnext HQD.out.2.2.2 hb4))))); have HT4 := Lib.hid (And.intro HA4.out.2.2.1.reads11 HA4.out.2.2.2.1.reads11); clear hS4 hb4)
          | (go_at_call 37; refine (CBY.out _).mono ?_; rintro _ w5 ⟨v5, rfl, hS5, hb5⟩; have HA5 := Lib.hid (And.intro (HA4.out.1.next hb5) (And.intro (HA4.out.2.1.next hb5) (And.intro (HA4.out.2.2.1.next hb5) (And.intro (HA4.out.2.2.2.1.next hb5) (And.intro (bnext HA4.out.2.2.2.2 hb5) hS5))))); have HT5 := Lib.hid (And.intro HA5.out.2.2.1.reads11 HA5.out.2.2.2.1.reads11); clear hS5 hb5)
          | (go_at_call 36; refine (equal_yes v4 v5 CC (by have := HCL.out; omega) w5 HA5.out.1 HA5.out.2.2.2.2.2).mono ?_; rintro _ w6 ⟨rfl, hb6⟩; have HA6 := Lib.hid (And.intro (HA5.out.2.1.next hb6) (And.intro (HA5.out.2.2.1.next hb6) (And.intro (HA5.out.2.2.2.1.next hb6) (bnext HA5.out.2.2.2.2.1 hb6)))); have HT6 := Lib.hid (And.intro HA6.out.2.1.reads11 HA6.out.2.2.1.reads11); clear hb6)
          | fail)
      have HP := Lib.hid (show BS w6 vb lb ∧ Below w.heap.size w w6 from ⟨HA6.out.1, HA6.out.2.2.2⟩)
      clear HA4 HA5 HA6 HT4 HT5 HT6 HS0 HQD HQ3 CP CBY HCL hW3 hneq hgd
      rw [← hvb]
      clear hvb
      have CL := Lib.hid (sclone_any vb lb (by omega) _ HP.out.1)
      go_wp2_with fail
      refine (CL.out).mono ?_; rintro _ w5 ⟨v5, rfl, hO5, hb5⟩
      have CG := Lib.hid (cf_get v5 lb (by omega) w5 hO5.bs)
      have HP5 := Lib.hid (show BS w5 vb lb ∧ Below w.heap.size w w5 from ⟨HP.out.1.next hb5, bnext HP.out.2 hb5⟩)
      clear hO5 hb5 CL HP
      go_wp2_with fail
      refine (CG.out).mono ?_; rintro _ w6 ⟨rfl, hb6⟩
      have HP6 := Lib.hid (show BS w6 vb lb ∧ Below w.heap.size w w6 from ⟨HP5.out.1.next hb6, bnext HP5.out.2 hb6⟩)
      clear hb6 CG HP5
      have HP7 := Lib.hid (show BS (w6.alloc (.cells (gC lb).cells 39)) vb lb ∧ Below w.heap.size w (w6.alloc (.cells (gC lb).cells 39)) from ⟨HP6.out.1.next ((Below.refl _ _).alloc (Nat.le_refl _) _), HP6.out.2.alloc HP6.out.2.size _⟩)
      have HX7 := Lib.hid (Bx.fresh w6 39 (gC lb).cells)
      by_cases hy : gY lb = 0
      · obtain ⟨hrd, hbd⟩ := get_inv hy
        have CR := Lib.hid (law_right (gC lb))
        rw [hrd] at CR
        have CB := Lib.hid (law_bytes (gC lb) hrd)
        rw [hbd] at CB
        rw [hy]
        clear hy hrd hbd HP6
        generalize gC lb = d at *
        obtain ⟨de, p0, p1, p2, p3, p4, k0, k1, k2, k3, k4⟩ := d
        unfold Cf.cells at *
        dsimp only at *
        go_wp2_with fail
        refine (CR.out _).mono ?_; rintro _ w8 ⟨rfl, hb8⟩
        have HP8 := Lib.hid (show BS w8 vb lb ∧ Below w.heap.size w w8 from ⟨HP7.out.1.next hb8, bnext HP7.out.2 hb8⟩)
        obtain ⟨x0, x1, x2, x3, x4, x5, x6, x7, x8, x9, x10⟩ := (HX7.out.next hb8).reads11
        clear hb8 CR HP7 HX7
        go_wp2_with fail
        refine (CB.out _).mono ?_; rintro _ w9 ⟨v9, rfl, hS9, hb9⟩
        have HP9 := Lib.hid (show BS w9 vb lb ∧ Below w.heap.size w w9 from ⟨HP8.out.1.next hb9, bnext HP8.out.2 hb9⟩)
        have CE := Lib.hid (equal_yes v9 vb lb (by omega) w9 hS9 HP9.out.1)
        clear hS9 hb9 HP8 CB x0 x1 x2 x3 x4 x5 x6 x7 x8 x9 x10
        go_wp2_with fail
        refine (CE.out).mono ?_; rintro _ w10 ⟨rfl, hb10⟩
        have HP10 := Lib.hid (bnext HP9.out.2 hb10)
        clear hb10 CE HP9
        go_wp2_with fail
        refine (alive21_any w10).mono ?_; rintro _ w11 ⟨rfl, hb11⟩
        have HP11 := Lib.hid (bnext HP10.out hb11)
        clear hb11
        go_wp2_with fail
        go_ret
        exact ⟨rfl, HP11.out⟩
      · have hz2 : (gY lb != 0) = true := by simp [hy]
        have hzero : gC lb = Cf.zero := by unfold gC; rw [if_neg hy]
        generalize hd : gC lb = d at *
        subst hzero
        generalize gY lb = z at *
        have heq : ∀ W, (binOp .eql 39 (.agg #[.int .i64 0, .bool false, .bool false, .bool false, .bool false, .bool false, .int .i64 0, .int .i64 0, .int .i64 0, .int .i64 0, .int .i64 0]) (.agg #[.int .i64 0, .bool false, .bool false, .bool false, .bool false, .bool false, .int .i64 0, .int .i64 0, .int .i64 0, .int .i64 0, .int .i64 0])).run Try.prog W = .ok (.bool true) W := fun W => run_eqlCf Cf.zero Cf.zero W
        have hgd := fun (op : BinOp) (x y : Operand) (xs ys : Array Value) (W : World) => run_cfGuard op x y xs ys W
        clear hy hd HX7 HP6
        unfold Cf.zero Cf.cells at *
        dsimp only at *
        go_wp2_with fail
        refine (alive21_any _).mono ?_; rintro _ w11 ⟨rfl, hb11⟩
        have HP11 := Lib.hid (bnext HP7.out.2 hb11)
        clear hb11
        go_wp2_with fail
        go_ret
        exact ⟨rfl, HP11.out⟩
theorem byteslaw' (v vb : Value) (w : World) (hv : ConfV v) (hb : ∃ l, BS w vb l ∧ l.length ≤ maxLen) : Calls Try.prog 7 #[v, vb] w fun e w' => e = .returned (.bool true) ∧ Below w.heap.size w w' := by
  obtain ⟨e, o0, o1, o2, o3, o4, j0, j1, j2, j3, j4, rfl, _⟩ := hv
  obtain ⟨l, hl, _⟩ := hb
  exact byteslaw ⟨e, o0, o1, o2, o3, o4, j0, j1, j2, j3, j4⟩ vb l w hl
end Go.Proofs.Ytaeflfgkdjfnfaa
