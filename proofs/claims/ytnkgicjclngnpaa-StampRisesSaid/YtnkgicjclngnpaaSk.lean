/- Layer 4 (stamp): the statement on clocks. -/
import Derived.Test.YtnkgicjclngnpaaSj
namespace Go.Proofs.Ytnkgicjclngnpaa
open Go.RowKit

set_option maxRecDepth 100000 in
set_option maxHeartbeats 8000000 in
theorem plays_some (who phys : Int) (b off cap n : Nat) (f : Nat → Opr) (hn : n ≤ 100) (hcap : n ≤ cap) (w : World) (hb : b < w.heap.size)
    (hc : ∀ i, i < n → w.cell? ⟨b, off + i * 5, none⟩ = some (.int .i64 (f i).kind) ∧ w.cell? ⟨b, off + i * 5 + 1, none⟩ = some (.int .i64 (f i).n) ∧ w.cell? ⟨b, off + i * 5 + 2, none⟩ = some (.int .i64 (f i).s.x) ∧
    w.cell? ⟨b, off + i * 5 + 3, none⟩ = some (.int .i64 (f i).s.y) ∧ w.cell? ⟨b, off + i * 5 + 4, none⟩ = some (.int .i64 (f i).s.z)) :
    Calls Try.prog 7 #[.int .i64 who, .int .i64 phys, .slice (some ⟨b, off, none⟩) n cap] w fun e w' => e = .returned (.bool true) ∧ Below w.heap.size w w' := by
  have HC := Hid.mk' hc
  clear hc
  have hok := Ck.Ok.fresh who phys
  go_enter Try.func7, Try.ntmps7
  go_wp2_with fail
  refine (new_any _ _ _).mono ?_; rintro e w1 ⟨rfl, hc1, hb1⟩
  go_wp2_with fail
  refine (refcut_any _ _).mono ?_; rintro e w' ⟨rfl, rfl⟩
  go_wp2_with fail
  refine (refcut_any _ _).mono ?_; rintro e w' ⟨rfl, rfl⟩
  go_wp2_with fail
  have bM := Bx.fresh w1 56 #[.int .i64 (cut who), .int .i64 (cut phys), .int .i64 0, .int .i64 0, .int .i64 0]
  have below1 := hb1.alloc hb1.size (.cells #[.int .i64 (cut who), .int .i64 (cut phys), .int .i64 0, .int .i64 0, .int .i64 0] 56)
  have hC1 : Clk (w1.alloc (.cells #[.int .i64 (cut who), .int .i64 (cut phys), .int .i64 0, .int .i64 0, .int .i64 0] 56)) w.heap.size _ := hc1.past _
  have hMc : w.heap.size < w1.heap.size := hc1.inside
  generalize w1.alloc (.cells #[.int .i64 (cut who), .int .i64 (cut phys), .int .i64 0, .int .i64 0, .int .i64 0] 56) = W0 at *
  generalize w1.heap.size = M at *
  have HM := Hid.mk' hMc
  clear hc1 hb1 hMc
  go_loopw [9] (fun i wr => ∃ k : Nat, i = .int .i64 k ∧ k ≤ n ∧ ∃ K : Ck, K.Ok ∧ Clk wr w.heap.size K ∧ Bx wr M 56 K.cells ∧ Below w.heap.size w wr) (fun i _ => n - (intOf i).toNat)
  case atStart => exact ⟨0, rfl, by omega, _, hok, hC1, bM, below1⟩
  case round =>
    obtain ⟨k, rfl, hk, K, hKok, hC, hM, hbel⟩ := hrel
    by_cases hlt : k < n
    · obtain ⟨l0, l1, l2, l3, l4⟩ := HC.out k hlt
      rw [← hbel.cell (p := ⟨b, _, none⟩) hb] at l0 l1 l2 l3 l4
      generalize f k = o at *
      obtain ⟨kind, on, ⟨sx, sy, sz⟩⟩ := o
      dsimp only at *
      clear hok hC1 bM below1
      have hC1 : Clk (wr.alloc (.cells #[.int .i64 kind, .int .i64 on, .int .i64 sx, .int .i64 sy, .int .i64 sz] 58)) w.heap.size K := hC.past _
      have hM1 : Bx (wr.alloc (.cells #[.int .i64 kind, .int .i64 on, .int .i64 sx, .int .i64 sy, .int .i64 sz] 58)) M 56 K.cells := hM.past _
      have bO1 := Bx.fresh wr 58 #[.int .i64 kind, .int .i64 on, .int .i64 sx, .int .i64 sy, .int .i64 sz]
      have below1 : Below w.heap.size w (wr.alloc (.cells #[.int .i64 kind, .int .i64 on, .int .i64 sx, .int .i64 sy, .int .i64 sz] 58)) := hbel.alloc hbel.size _
      have hMO : M < wr.heap.size := hM.inside
      have HO := Hid.mk' (And.intro HM.out hMO)
      have H1 := Hid.mk' (And.intro hKok (And.intro hC1 (And.intro hM1 (And.intro bO1 below1))))
      clear hC hM hbel hC1 hM1 bO1 below1 hMO hKok
      by_cases h0 : kind.tmod 3 = 0
      · have t0 : (kind.tmod 3 == 0) = true := by simp [h0]
        clear h0
        go_wp2_with fail
        clear l0 l1 l2 l3 l4 t0
        obtain ⟨hKok, hC1, hM1, bO1, below1⟩ := H1.out
        clear H1
        generalize wr.alloc (.cells #[.int .i64 kind, .int .i64 on, .int .i64 sx, .int .i64 sy, .int .i64 sz] 58) = W1 at *
        generalize wr.heap.size = O at *
        refine (tick_any _ _ _ hKok.phys _ hC1).mono ?_; rintro e W2 ⟨rfl, hC2, hg2⟩
        have hM2 := hM1.grown hg2 (by intro h; have h1 := Option.some.inj h; have h2 := HO.out; omega)
        have bO2 := bO1.grown hg2 (by intro h; have h1 := Option.some.inj h; have h2 := HO.out; omega)
        have below2 := below_gb below1 hg2 (Nat.le_refl _)
        have hph := hKok.phys
        have hcb := cut_bd on
        have hwr := IntWalk.i64_in (K.phys + cut on) (by omega)
        have hM3 : Bx ((W2.setCell ⟨M, 1, none⟩ (.int .i64 (cut (K.phys + cut on)))).drew) M 56 (K.tick on).cells := (hM2.put 1 _).drawn 1
        have hC3 : Clk ((W2.setCell ⟨M, 1, none⟩ (.int .i64 (cut (K.phys + cut on)))).drew) w.heap.size (K.tick on) := (Bx.beside hC2 (by have h2 := HO.out; dsimp only; omega) _).drawn 1
        have below3 := (below2.setCell (p := ⟨M, 1, none⟩) (by have h2 := HO.out; dsimp only; omega) (.int .i64 (cut (K.phys + cut on)))).drew
        have H3 := Hid.mk' (And.intro (hKok.tick on) (And.intro hC3 (And.intro hM3 below3)))
        obtain ⟨p0, p1, p2, p3, p4⟩ := Bx.reads5 hM2
        obtain ⟨f0, f1, f2, f3, f4⟩ := Bx.opens5 hM2
        obtain ⟨o0, o1, o2, o3, o4⟩ := Bx.reads5 bO2
        clear hC1 hM1 bO1 below1 hC2 hg2 hM2 bO2 below2 hph hcb hM3 hC3 below3 hKok p0 p2 p3 p4 f0 f2 f3 f4 o0 o2 o3 o4
        go_wp2_with fail
        refine region_tail 8 (by kernel_rfl) (by kernel_rfl) ?_
        simp only [List.take_succ_cons, List.take_zero, List.drop_succ_cons, List.drop_zero]
        repeat (first | still_step | still_call (refcut_same _ _))
        refine wpStill_nil ?_
        go_wp2_with fail
        clear hwr p1 f1 o1
        obtain ⟨hK3, hC3, hM3, below3⟩ := H3.out
        clear H3
        generalize K.tick on = K3 at *
        generalize (W2.setCell ⟨M, 1, none⟩ (.int .i64 (cut (K.phys + cut on)))).drew = W3 at *
        obtain ⟨kw, kp, ⟨kx, ky, kz⟩⟩ := K3
        have m1 := Go.cell_regrown (hM3.read (i := 1) (v := .int .i64 kp) rfl)
        have m2 := Go.cell_regrown (hM3.read (i := 2) (v := .int .i64 kx) rfl)
        have m3 := Go.cell_regrown (hM3.read (i := 3) (v := .int .i64 ky) rfl)
        have m4 := Go.cell_regrown (hM3.read (i := 4) (v := .int .i64 kz) rfl)
        have cP : ∀ d os, Calls Try.prog 40 #[.pointer (some ⟨w.heap.size, 0, none⟩)] (Go.Sort.grow (Go.redrawn W3 d) os) fun e w'' => e = .returned (.int .i64 kp) ∧ ∃ p : Go.Regrown, w'' = Go.Sort.grow (Go.redrawn W3 p.d) p.os := fun d os => Calls.regrown_of ((phys_any _ _ _ (hC3.next (Go.below_regrown W3 d os))).mono fun _ _ ⟨a, b⟩ => ⟨a, by rw [b]; exact Below.refl _ _⟩)
        have cL : ∀ d os, Calls Try.prog 41 #[.pointer (some ⟨w.heap.size, 0, none⟩)] (Go.Sort.grow (Go.redrawn W3 d) os) fun e w'' => e = .returned (.agg #[.int .i64 kx, .int .i64 ky, .int .i64 kz]) ∧ ∃ p : Go.Regrown, w'' = Go.Sort.grow (Go.redrawn W3 p.d) p.os := fun d os => Calls.regrown_of (last_any _ _ _ (hC3.next (Go.below_regrown W3 d os)))
        have CP := Hid.mk' cP
        have CL := Hid.mk' cL
        have HE := Hid.mk' (And.intro hK3 (And.intro hC3 (And.intro hM3 below3)))
        clear cP cL hK3 hC3 hM3 below3
        have hg := run_stGuard
        have hne : ∀ w, (binOp .neq 46 (.agg #[.int .i64 kx, .int .i64 ky, .int .i64 kz]) (.agg #[.int .i64 kx, .int .i64 ky, .int .i64 kz])).run Try.prog w = .ok (.bool false) w := fun w => by rw [run_neqSt, eqS_refl]; rfl
        have hni : (kp != kp) = false := by simp
        go_wp2_with fail
        refine Go.wp_region_quiet_below (by kernel_rfl) (by kernel_rfl) ?_
        repeat (quiet_step (first | with_reducible exact CP.out _ _ | with_reducible exact CL.out _ _))
        refine wpQuiet_nil ?_
        intro _ hw'
        obtain ⟨⟨dq, osq⟩, hw''⟩ := hw'
        subst hw''
        have hbq := Go.below_regrown W3 dq osq
        have R := Hid.mk' (show Ck.Ok ⟨kw, kp, ⟨kx, ky, kz⟩⟩ ∧ Clk (Go.Sort.grow (Go.redrawn W3 dq) osq) w.heap.size ⟨kw, kp, ⟨kx, ky, kz⟩⟩ ∧ Bx (Go.Sort.grow (Go.redrawn W3 dq) osq) M 56 (Ck.cells ⟨kw, kp, ⟨kx, ky, kz⟩⟩) ∧ Below w.heap.size w (Go.Sort.grow (Go.redrawn W3 dq) osq) from ⟨HE.out.1, HE.out.2.1.next hbq, HE.out.2.2.1.next hbq, bnext HE.out.2.2.2 hbq⟩)
        clear hbq m1 m2 m3 m4 hg hne hni
        generalize Go.Sort.grow (Go.redrawn W3 dq) osq = W9 at *
        go_wp2_with fail
        go_roundw
        case rel => exact ⟨k + 1, by go_num, by omega, _, R.out.1, R.out.2.1, R.out.2.2.1, R.out.2.2.2⟩
        case measure => simp [intOf]; omega
      · have t0 : (kind.tmod 3 == 0) = false := by simp [h0]
        clear h0
        by_cases h1 : kind.tmod 3 = 1
        · have t1 : (kind.tmod 3 == 1) = true := by simp [h1]
          clear h1
          obtain ⟨kw, kp, ⟨kx, ky, kz⟩⟩ := K
          cases hr : rightB ⟨sx, sy, sz⟩ with
          | true =>
            have CR := Hid.mk' (refright_any ⟨sx, sy, sz⟩)
            rw [hr] at CR
            have hsee : Ck.see ⟨kw, kp, ⟨kx, ky, kz⟩⟩ ⟨sx, sy, sz⟩ = ⟨kw, kp, maxS ⟨kx, ky, kz⟩ ⟨sx, sy, sz⟩⟩ := by unfold Ck.see; rw [if_pos hr]
            have HS := Hid.mk' hsee
            clear hr hsee
            go_wp2_with fail
            clear l0 l1 l2 l3 l4 t0 t1
            obtain ⟨hKok, hC1, hM1, bO1, below1⟩ := H1.out
            clear H1
            generalize wr.alloc (.cells #[.int .i64 kind, .int .i64 on, .int .i64 sx, .int .i64 sy, .int .i64 sz] 58) = W1 at *
            generalize wr.heap.size = O at *
            refine (see_any _ _ ⟨sx, sy, sz⟩ _ hC1).mono ?_; rintro e W2 ⟨rfl, hC2, hg2⟩
            have hM2 := hM1.grown hg2 (by intro h; have h1 := Option.some.inj h; have h2 := HO.out; omega)
            have bO2 := bO1.grown hg2 (by intro h; have h1 := Option.some.inj h; have h2 := HO.out; omega)
            have below2 := below_gb below1 hg2 (Nat.le_refl _)
            have hK2 := hKok.see ⟨sx, sy, sz⟩
            rw [HS.out] at hC2 hK2
            clear hC1 hM1 bO1 below1 hg2 hKok
            obtain ⟨o0, o1, o2, o3, o4⟩ := Bx.reads5 bO2
            clear o0 o1
            go_wp2_with fail
            clear o2 o3 o4
            refine (CR.out _).mono ?_; rintro e W4 ⟨rfl, hb4⟩
            have hC4 := Bx.next hC2 hb4
            have hM4 := hM2.next hb4
            have bO4 := bO2.next hb4
            have below4 := bnext below2 hb4
            clear hC2 hM2 bO2 below2 hb4
            have CM := Hid.mk' (refmax_any ⟨kx, ky, kz⟩ ⟨sx, sy, sz⟩)
            generalize maxS ⟨kx, ky, kz⟩ ⟨sx, sy, sz⟩ = mm at *
            obtain ⟨mx, my, mz⟩ := mm
            unfold St.cells at CM
            dsimp only at CM
            obtain ⟨o0, o1, o2, o3, o4⟩ := Bx.reads5 bO4
            obtain ⟨p0, p1, p2, p3, p4⟩ := Bx.reads5 hM4
            clear o0 o1 p0 p1
            have HC4 := Hid.mk' hC4
            have HB4 := Hid.mk' below4
            clear hC4 below4
            go_wp2_with fail
            clear o2 o3 o4 p2 p3 p4
            refine (CM.out _).mono ?_; rintro e W5 ⟨rfl, hb5⟩
            have hC5 := HC4.out.next hb5
            have hM5 := hM4.next hb5
            have below5 := bnext HB4.out hb5
            clear hM4 bO4 hb5 HC4 HB4
            have hM3 : Bx (((W5.setCell ⟨M, 2, none⟩ (.int .i64 mx)).setCell ⟨M, 3, none⟩ (.int .i64 my)).setCell ⟨M, 4, none⟩ (.int .i64 mz)) M 56 (Ck.cells ⟨kw, kp, ⟨mx, my, mz⟩⟩) := ((hM5.put 2 _).put 3 _).put 4 _
            have hC3 : Clk (((W5.setCell ⟨M, 2, none⟩ (.int .i64 mx)).setCell ⟨M, 3, none⟩ (.int .i64 my)).setCell ⟨M, 4, none⟩ (.int .i64 mz)) w.heap.size ⟨kw, kp, ⟨mx, my, mz⟩⟩ := ((Bx.beside hC5 (by have h2 := HO.out; dsimp only; omega) _).beside (by have h2 := HO.out; dsimp only; omega) _).beside (by have h2 := HO.out; dsimp only; omega) _
            have below3 : Below w.heap.size w (((W5.setCell ⟨M, 2, none⟩ (.int .i64 mx)).setCell ⟨M, 3, none⟩ (.int .i64 my)).setCell ⟨M, 4, none⟩ (.int .i64 mz)) := ((below5.setCell (by have h2 := HO.out; dsimp only; omega) _).setCell (by have h2 := HO.out; dsimp only; omega) _).setCell (by have h2 := HO.out; dsimp only; omega) _
            obtain ⟨p0, p1, p2, p3, p4⟩ := Bx.reads5 hM5
            obtain ⟨f0, f1, f2, f3, f4⟩ := Bx.opens5 hM5
            have H3 := Hid.mk' (And.intro hK2 (And.intro hC3 (And.intro hM3 below3)))
            clear hK2 hC5 hM5 below5 hC3 hM3 below3
            go_wp2_with fail
            clear p0 p1 p2 p3 p4 f0 f1 f2 f3 f4
            obtain ⟨hK3, hC3, hM3, below3⟩ := H3.out
            clear H3
            generalize ((W5.setCell ⟨M, 2, none⟩ (.int .i64 mx)).setCell ⟨M, 3, none⟩ (.int .i64 my)).setCell ⟨M, 4, none⟩ (.int .i64 mz) = W3 at *
            generalize (⟨kw, kp, ⟨mx, my, mz⟩⟩ : Ck) = K3 at *
            clear HS
            obtain ⟨kw, kp, ⟨kx, ky, kz⟩⟩ := K3
            have m1 := Go.cell_regrown (hM3.read (i := 1) (v := .int .i64 kp) rfl)
            have m2 := Go.cell_regrown (hM3.read (i := 2) (v := .int .i64 kx) rfl)
            have m3 := Go.cell_regrown (hM3.read (i := 3) (v := .int .i64 ky) rfl)
            have m4 := Go.cell_regrown (hM3.read (i := 4) (v := .int .i64 kz) rfl)
            have cP : ∀ d os, Calls Try.prog 40 #[.pointer (some ⟨w.heap.size, 0, none⟩)] (Go.Sort.grow (Go.redrawn W3 d) os) fun e w'' => e = .returned (.int .i64 kp) ∧ ∃ p : Go.Regrown, w'' = Go.Sort.grow (Go.redrawn W3 p.d) p.os := fun d os => Calls.regrown_of ((phys_any _ _ _ (hC3.next (Go.below_regrown W3 d os))).mono fun _ _ ⟨a, b⟩ => ⟨a, by rw [b]; exact Below.refl _ _⟩)
            have cL : ∀ d os, Calls Try.prog 41 #[.pointer (some ⟨w.heap.size, 0, none⟩)] (Go.Sort.grow (Go.redrawn W3 d) os) fun e w'' => e = .returned (.agg #[.int .i64 kx, .int .i64 ky, .int .i64 kz]) ∧ ∃ p : Go.Regrown, w'' = Go.Sort.grow (Go.redrawn W3 p.d) p.os := fun d os => Calls.regrown_of (last_any _ _ _ (hC3.next (Go.below_regrown W3 d os)))
            have CP := Hid.mk' cP
            have CL := Hid.mk' cL
            have HE := Hid.mk' (And.intro hK3 (And.intro hC3 (And.intro hM3 below3)))
            clear cP cL hK3 hC3 hM3 below3
            have hg := run_stGuard
            have hne : ∀ w, (binOp .neq 46 (.agg #[.int .i64 kx, .int .i64 ky, .int .i64 kz]) (.agg #[.int .i64 kx, .int .i64 ky, .int .i64 kz])).run Try.prog w = .ok (.bool false) w := fun w => by rw [run_neqSt, eqS_refl]; rfl
            have hni : (kp != kp) = false := by simp
            go_wp2_with fail
            refine Go.wp_region_quiet_below (by kernel_rfl) (by kernel_rfl) ?_
            repeat (quiet_step (first | with_reducible exact CP.out _ _ | with_reducible exact CL.out _ _))
            refine wpQuiet_nil ?_
            intro _ hw'
            obtain ⟨⟨dq, osq⟩, hw''⟩ := hw'
            subst hw''
            have hbq := Go.below_regrown W3 dq osq
            have R := Hid.mk' (show Ck.Ok ⟨kw, kp, ⟨kx, ky, kz⟩⟩ ∧ Clk (Go.Sort.grow (Go.redrawn W3 dq) osq) w.heap.size ⟨kw, kp, ⟨kx, ky, kz⟩⟩ ∧ Bx (Go.Sort.grow (Go.redrawn W3 dq) osq) M 56 (Ck.cells ⟨kw, kp, ⟨kx, ky, kz⟩⟩) ∧ Below w.heap.size w (Go.Sort.grow (Go.redrawn W3 dq) osq) from ⟨HE.out.1, HE.out.2.1.next hbq, HE.out.2.2.1.next hbq, bnext HE.out.2.2.2 hbq⟩)
            clear hbq m1 m2 m3 m4 hg hne hni
            generalize Go.Sort.grow (Go.redrawn W3 dq) osq = W9 at *
            go_wp2_with fail
            go_roundw
            case rel => exact ⟨k + 1, by go_num, by omega, _, R.out.1, R.out.2.1, R.out.2.2.1, R.out.2.2.2⟩
            case measure => simp [intOf]; omega
          | false =>
            have CR := Hid.mk' (refright_any ⟨sx, sy, sz⟩)
            rw [hr] at CR
            have hsee : Ck.see ⟨kw, kp, ⟨kx, ky, kz⟩⟩ ⟨sx, sy, sz⟩ = ⟨kw, kp, ⟨kx, ky, kz⟩⟩ := by unfold Ck.see; rw [if_neg (by rw [hr]; simp)]
            have HS := Hid.mk' hsee
            clear hr hsee
            go_wp2_with fail
            clear l0 l1 l2 l3 l4 t0 t1
            obtain ⟨hKok, hC1, hM1, bO1, below1⟩ := H1.out
            clear H1
            generalize wr.alloc (.cells #[.int .i64 kind, .int .i64 on, .int .i64 sx, .int .i64 sy, .int .i64 sz] 58) = W1 at *
            generalize wr.heap.size = O at *
            refine (see_any _ _ ⟨sx, sy, sz⟩ _ hC1).mono ?_; rintro e W2 ⟨rfl, hC2, hg2⟩
            have hM2 := hM1.grown hg2 (by intro h; have h1 := Option.some.inj h; have h2 := HO.out; omega)
            have bO2 := bO1.grown hg2 (by intro h; have h1 := Option.some.inj h; have h2 := HO.out; omega)
            have below2 := below_gb below1 hg2 (Nat.le_refl _)
            have hK2 := hKok.see ⟨sx, sy, sz⟩
            rw [HS.out] at hC2 hK2
            clear hC1 hM1 bO1 below1 hg2 hKok
            obtain ⟨o0, o1, o2, o3, o4⟩ := Bx.reads5 bO2
            clear o0 o1
            go_wp2_with fail
            clear o2 o3 o4
            refine (CR.out _).mono ?_; rintro e W4 ⟨rfl, hb4⟩
            have hC4 := Bx.next hC2 hb4
            have hM4 := hM2.next hb4
            have bO4 := bO2.next hb4
            have below4 := bnext below2 hb4
            clear hC2 hM2 bO2 below2 hb4
            go_wp2_with fail
            have hK3 := hK2; have hC3 := hC4; have hM3 := hM4; have below3 := below4
            clear hK2 hC4 hM4 below4 bO4
            generalize W4 = W3 at *
            generalize (⟨kw, kp, ⟨kx, ky, kz⟩⟩ : Ck) = K3 at *
            clear HS
            obtain ⟨kw, kp, ⟨kx, ky, kz⟩⟩ := K3
            have m1 := Go.cell_regrown (hM3.read (i := 1) (v := .int .i64 kp) rfl)
            have m2 := Go.cell_regrown (hM3.read (i := 2) (v := .int .i64 kx) rfl)
            have m3 := Go.cell_regrown (hM3.read (i := 3) (v := .int .i64 ky) rfl)
            have m4 := Go.cell_regrown (hM3.read (i := 4) (v := .int .i64 kz) rfl)
            have cP : ∀ d os, Calls Try.prog 40 #[.pointer (some ⟨w.heap.size, 0, none⟩)] (Go.Sort.grow (Go.redrawn W3 d) os) fun e w'' => e = .returned (.int .i64 kp) ∧ ∃ p : Go.Regrown, w'' = Go.Sort.grow (Go.redrawn W3 p.d) p.os := fun d os => Calls.regrown_of ((phys_any _ _ _ (hC3.next (Go.below_regrown W3 d os))).mono fun _ _ ⟨a, b⟩ => ⟨a, by rw [b]; exact Below.refl _ _⟩)
            have cL : ∀ d os, Calls Try.prog 41 #[.pointer (some ⟨w.heap.size, 0, none⟩)] (Go.Sort.grow (Go.redrawn W3 d) os) fun e w'' => e = .returned (.agg #[.int .i64 kx, .int .i64 ky, .int .i64 kz]) ∧ ∃ p : Go.Regrown, w'' = Go.Sort.grow (Go.redrawn W3 p.d) p.os := fun d os => Calls.regrown_of (last_any _ _ _ (hC3.next (Go.below_regrown W3 d os)))
            have CP := Hid.mk' cP
            have CL := Hid.mk' cL
            have HE := Hid.mk' (And.intro hK3 (And.intro hC3 (And.intro hM3 below3)))
            clear cP cL hK3 hC3 hM3 below3
            have hg := run_stGuard
            have hne : ∀ w, (binOp .neq 46 (.agg #[.int .i64 kx, .int .i64 ky, .int .i64 kz]) (.agg #[.int .i64 kx, .int .i64 ky, .int .i64 kz])).run Try.prog w = .ok (.bool false) w := fun w => by rw [run_neqSt, eqS_refl]; rfl
            have hni : (kp != kp) = false := by simp
            go_wp2_with fail
            refine Go.wp_region_quiet_below (by kernel_rfl) (by kernel_rfl) ?_
            repeat (quiet_step (first | with_reducible exact CP.out _ _ | with_reducible exact CL.out _ _))
            refine wpQuiet_nil ?_
            intro _ hw'
            obtain ⟨⟨dq, osq⟩, hw''⟩ := hw'
            subst hw''
            have hbq := Go.below_regrown W3 dq osq
            have R := Hid.mk' (show Ck.Ok ⟨kw, kp, ⟨kx, ky, kz⟩⟩ ∧ Clk (Go.Sort.grow (Go.redrawn W3 dq) osq) w.heap.size ⟨kw, kp, ⟨kx, ky, kz⟩⟩ ∧ Bx (Go.Sort.grow (Go.redrawn W3 dq) osq) M 56 (Ck.cells ⟨kw, kp, ⟨kx, ky, kz⟩⟩) ∧ Below w.heap.size w (Go.Sort.grow (Go.redrawn W3 dq) osq) from ⟨HE.out.1, HE.out.2.1.next hbq, HE.out.2.2.1.next hbq, bnext HE.out.2.2.2 hbq⟩)
            clear hbq m1 m2 m3 m4 hg hne hni
            generalize Go.Sort.grow (Go.redrawn W3 dq) osq = W9 at *
            go_wp2_with fail
            go_roundw
            case rel => exact ⟨k + 1, by go_num, by omega, _, R.out.1, R.out.2.1, R.out.2.2.1, R.out.2.2.2⟩
            case measure => simp [intOf]; omega
        · have t1 : (kind.tmod 3 == 1) = false := by simp [h1]
          clear h1
          go_wp2_with fail
          clear l0 l1 l2 l3 l4 t0 t1
          obtain ⟨hKok, hC1, hM1, bO1, below1⟩ := H1.out
          clear H1 bO1
          generalize wr.alloc (.cells #[.int .i64 kind, .int .i64 on, .int .i64 sx, .int .i64 sy, .int .i64 sz] 58) = W1 at *
          generalize wr.heap.size = O at *
          refine (now_any _ _ hKok _ hC1).mono ?_; rintro e W2 ⟨rfl, hC2, hg2⟩
          have hM2 := hM1.grown hg2 (by intro h; have h1 := Option.some.inj h; have h2 := HO.out; omega)
          have below2 := below_gb below1 hg2 (Nat.le_refl _)
          have CN := Hid.mk' (refnow_any K hKok)
          have hK2 := hKok.now
          clear hC1 hM1 below1 hg2 hKok
          generalize K.told = tt at *
          generalize K.now = K2 at *
          generalize rightB K.next = r at *
          obtain ⟨tx, ty, tz⟩ := tt
          obtain ⟨kw, kp, ⟨kx, ky, kz⟩⟩ := K
          obtain ⟨jw, jp, ⟨jx, jy, jz⟩⟩ := K2
          have bA := Bx.fresh W2 46 #[.int .i64 tx, .int .i64 ty, .int .i64 tz]
          have hC4 : Clk (W2.alloc (.cells #[.int .i64 tx, .int .i64 ty, .int .i64 tz] 46)) w.heap.size _ := Bx.past hC2 _
          have hM4 := hM2.past (.cells #[.int .i64 tx, .int .i64 ty, .int .i64 tz] 46)
          have below4 := below2.alloc below2.size (.cells #[.int .i64 tx, .int .i64 ty, .int .i64 tz] 46)
          have hMA : M < W2.heap.size := hM2.inside
          have HA := Hid.mk' hMA
          clear hC2 hM2 below2 hMA
          obtain ⟨p0, p1, p2, p3, p4⟩ := Bx.reads5 hM4
          unfold St.cells Ck.cells at CN
          dsimp only at CN p0 p1 p2 p3 p4
          have H4 := Hid.mk' (And.intro hC4 (And.intro hM4 (And.intro bA below4)))
          clear hC4 hM4 bA below4
          unfold St.cells
          dsimp only
          go_wp2_with fail
          clear p0 p1 p2 p3 p4
          obtain ⟨hC4, hM4, bA, below4⟩ := H4.out
          clear H4
          generalize W2.alloc (.cells #[.int .i64 tx, .int .i64 ty, .int .i64 tz] 46) = W4 at *
          generalize W2.heap.size = A at *
          refine (CN.out _).mono ?_; rintro e W5 ⟨rfl, hb5⟩
          have hC6 : Clk ((W5.alloc (.cells #[.int .i64 tx, .int .i64 ty, .int .i64 tz] 46)).alloc (.cells #[.int .i64 jw, .int .i64 jp, .int .i64 jx, .int .i64 jy, .int .i64 jz] 56)) w.heap.size _ := ((hC4.next hb5).past _).past _
          have hM6 : Bx ((W5.alloc (.cells #[.int .i64 tx, .int .i64 ty, .int .i64 tz] 46)).alloc (.cells #[.int .i64 jw, .int .i64 jp, .int .i64 jx, .int .i64 jy, .int .i64 jz] 56)) M _ _ := ((hM4.next hb5).past _).past _
          have bA6 : Bx ((W5.alloc (.cells #[.int .i64 tx, .int .i64 ty, .int .i64 tz] 46)).alloc (.cells #[.int .i64 jw, .int .i64 jp, .int .i64 jx, .int .i64 jy, .int .i64 jz] 56)) A _ _ := ((bA.next hb5).past _).past _
          have bB6 : Bx ((W5.alloc (.cells #[.int .i64 tx, .int .i64 ty, .int .i64 tz] 46)).alloc (.cells #[.int .i64 jw, .int .i64 jp, .int .i64 jx, .int .i64 jy, .int .i64 jz] 56)) W5.heap.size _ _ := (Bx.fresh W5 46 #[.int .i64 tx, .int .i64 ty, .int .i64 tz]).past _
          have bD6 : Bx ((W5.alloc (.cells #[.int .i64 tx, .int .i64 ty, .int .i64 tz] 46)).alloc (.cells #[.int .i64 jw, .int .i64 jp, .int .i64 jx, .int .i64 jy, .int .i64 jz] 56)) (W5.heap.size + 1) _ _ := Bx.fresh' (W5.alloc _) (by simp) 56 #[.int .i64 jw, .int .i64 jp, .int .i64 jx, .int .i64 jy, .int .i64 jz]
          have below6 : Below w.heap.size w ((W5.alloc (.cells #[.int .i64 tx, .int .i64 ty, .int .i64 tz] 46)).alloc (.cells #[.int .i64 jw, .int .i64 jp, .int .i64 jx, .int .i64 jy, .int .i64 jz] 56)) := ((bnext below4 hb5).alloc (bnext below4 hb5).size _).alloc (((bnext below4 hb5).alloc (bnext below4 hb5).size _).size) _
          have hMB : M < W5.heap.size ∧ A < W5.heap.size := ⟨(hM4.next hb5).inside, (bA.next hb5).inside⟩
          have HH := Hid.mk' hMB
          clear hC4 hM4 bA below4 hb5 hMB
          have hM3 : Bx (((((((W5.alloc (.cells #[.int .i64 tx, .int .i64 ty, .int .i64 tz] 46)).alloc (.cells #[.int .i64 jw, .int .i64 jp, .int .i64 jx, .int .i64 jy, .int .i64 jz] 56)).setCell ⟨M, 0, none⟩ (.int .i64 jw)).setCell ⟨M, 1, none⟩ (.int .i64 jp)).setCell ⟨M, 2, none⟩ (.int .i64 jx)).setCell ⟨M, 3, none⟩ (.int .i64 jy)).setCell ⟨M, 4, none⟩ (.int .i64 jz)) M 56 (Ck.cells ⟨jw, jp, ⟨jx, jy, jz⟩⟩) := Bx.put5 hM6
          have hC3 : Clk (((((((W5.alloc (.cells #[.int .i64 tx, .int .i64 ty, .int .i64 tz] 46)).alloc (.cells #[.int .i64 jw, .int .i64 jp, .int .i64 jx, .int .i64 jy, .int .i64 jz] 56)).setCell ⟨M, 0, none⟩ (.int .i64 jw)).setCell ⟨M, 1, none⟩ (.int .i64 jp)).setCell ⟨M, 2, none⟩ (.int .i64 jx)).setCell ⟨M, 3, none⟩ (.int .i64 jy)).setCell ⟨M, 4, none⟩ (.int .i64 jz)) w.heap.size ⟨jw, jp, ⟨jx, jy, jz⟩⟩ := ((((Bx.beside hC6 (by have h2 := HO.out; dsimp only; omega) _).beside (by have h2 := HO.out; dsimp only; omega) _).beside (by have h2 := HO.out; dsimp only; omega) _).beside (by have h2 := HO.out; dsimp only; omega) _).beside (by have h2 := HO.out; dsimp only; omega) _
          have below3 : Below w.heap.size w (((((((W5.alloc (.cells #[.int .i64 tx, .int .i64 ty, .int .i64 tz] 46)).alloc (.cells #[.int .i64 jw, .int .i64 jp, .int .i64 jx, .int .i64 jy, .int .i64 jz] 56)).setCell ⟨M, 0, none⟩ (.int .i64 jw)).setCell ⟨M, 1, none⟩ (.int .i64 jp)).setCell ⟨M, 2, none⟩ (.int .i64 jx)).setCell ⟨M, 3, none⟩ (.int .i64 jy)).setCell ⟨M, 4, none⟩ (.int .i64 jz)) := ((((below6.setCell (by have h2 := HO.out; dsimp only; omega) _).setCell (by have h2 := HO.out; dsimp only; omega) _).setCell (by have h2 := HO.out; dsimp only; omega) _).setCell (by have h2 := HO.out; dsimp only; omega) _).setCell (by have h2 := HO.out; dsimp only; omega) _
          have bA3 : Bx (((((((W5.alloc (.cells #[.int .i64 tx, .int .i64 ty, .int .i64 tz] 46)).alloc (.cells #[.int .i64 jw, .int .i64 jp, .int .i64 jx, .int .i64 jy, .int .i64 jz] 56)).setCell ⟨M, 0, none⟩ (.int .i64 jw)).setCell ⟨M, 1, none⟩ (.int .i64 jp)).setCell ⟨M, 2, none⟩ (.int .i64 jx)).setCell ⟨M, 3, none⟩ (.int .i64 jy)).setCell ⟨M, 4, none⟩ (.int .i64 jz)) A _ _ := ((((Bx.beside bA6 (by have h2 := HH.out; have h3 := HA.out; dsimp only; omega) _).beside (by have h2 := HH.out; have h3 := HA.out; dsimp only; omega) _).beside (by have h2 := HH.out; have h3 := HA.out; dsimp only; omega) _).beside (by have h2 := HH.out; have h3 := HA.out; dsimp only; omega) _).beside (by have h2 := HH.out; have h3 := HA.out; dsimp only; omega) _
          have bB3 : Bx (((((((W5.alloc (.cells #[.int .i64 tx, .int .i64 ty, .int .i64 tz] 46)).alloc (.cells #[.int .i64 jw, .int .i64 jp, .int .i64 jx, .int .i64 jy, .int .i64 jz] 56)).setCell ⟨M, 0, none⟩ (.int .i64 jw)).setCell ⟨M, 1, none⟩ (.int .i64 jp)).setCell ⟨M, 2, none⟩ (.int .i64 jx)).setCell ⟨M, 3, none⟩ (.int .i64 jy)).setCell ⟨M, 4, none⟩ (.int .i64 jz)) W5.heap.size _ _ := ((((Bx.beside bB6 (by have h2 := HH.out; have h3 := HA.out; dsimp only; omega) _).beside (by have h2 := HH.out; have h3 := HA.out; dsimp only; omega) _).beside (by have h2 := HH.out; have h3 := HA.out; dsimp only; omega) _).beside (by have h2 := HH.out; have h3 := HA.out; dsimp only; omega) _).beside (by have h2 := HH.out; have h3 := HA.out; dsimp only; omega) _
          have H3 := Hid.mk' (And.intro hK2 (And.intro hC3 (And.intro hM3 below3)))
          have H5 := Hid.mk' (And.intro bA3 bB3)
          obtain ⟨p0, p1, p2, p3, p4⟩ := Bx.reads5 hM6
          obtain ⟨f0, f1, f2, f3, f4⟩ := Bx.opens5 hM6
          obtain ⟨d0, d1, d2, d3, d4⟩ := Bx.reads5 bD6
          obtain ⟨a0, a1, a2⟩ := bA3.reads3
          obtain ⟨b0, b1, b2⟩ := bB3.reads3
          clear hK2 hC3 hM3 below3 bA3 bB3 hC6 hM6 bA6 bB6 bD6 below6
          have hg := run_stGuard
          have hne : ∀ w, (binOp .neq 46 (.agg #[.int .i64 tx, .int .i64 ty, .int .i64 tz]) (.agg #[.int .i64 tx, .int .i64 ty, .int .i64 tz])).run Try.prog w = .ok (.bool false) w := fun w => by rw [run_neqSt, eqS_refl]; rfl
          have hnr : (r != r) = false := by simp
          go_wp2_with fail
          clear p0 p1 p2 p3 p4 f0 f1 f2 f3 f4 d0 d1 d2 d3 d4 a0 a1 a2 b0 b1 b2 hg hne hnr H5
          obtain ⟨hK3, hC3, hM3, below3⟩ := H3.out
          clear H3
          generalize (((((((W5.alloc (.cells #[.int .i64 tx, .int .i64 ty, .int .i64 tz] 46)).alloc (.cells #[.int .i64 jw, .int .i64 jp, .int .i64 jx, .int .i64 jy, .int .i64 jz] 56)).setCell ⟨M, 0, none⟩ (.int .i64 jw)).setCell ⟨M, 1, none⟩ (.int .i64 jp)).setCell ⟨M, 2, none⟩ (.int .i64 jx)).setCell ⟨M, 3, none⟩ (.int .i64 jy)).setCell ⟨M, 4, none⟩ (.int .i64 jz)) = W3 at *
          have m1 := Go.cell_regrown (hM3.read (i := 1) (v := .int .i64 jp) rfl)
          have m2 := Go.cell_regrown (hM3.read (i := 2) (v := .int .i64 jx) rfl)
          have m3 := Go.cell_regrown (hM3.read (i := 3) (v := .int .i64 jy) rfl)
          have m4 := Go.cell_regrown (hM3.read (i := 4) (v := .int .i64 jz) rfl)
          have cP : ∀ d os, Calls Try.prog 40 #[.pointer (some ⟨w.heap.size, 0, none⟩)] (Go.Sort.grow (Go.redrawn W3 d) os) fun e w'' => e = .returned (.int .i64 jp) ∧ ∃ p : Go.Regrown, w'' = Go.Sort.grow (Go.redrawn W3 p.d) p.os := fun d os => Calls.regrown_of ((phys_any _ _ _ (hC3.next (Go.below_regrown W3 d os))).mono fun _ _ ⟨a, b⟩ => ⟨a, by rw [b]; exact Below.refl _ _⟩)
          have cL : ∀ d os, Calls Try.prog 41 #[.pointer (some ⟨w.heap.size, 0, none⟩)] (Go.Sort.grow (Go.redrawn W3 d) os) fun e w'' => e = .returned (.agg #[.int .i64 jx, .int .i64 jy, .int .i64 jz]) ∧ ∃ p : Go.Regrown, w'' = Go.Sort.grow (Go.redrawn W3 p.d) p.os := fun d os => Calls.regrown_of (last_any _ _ _ (hC3.next (Go.below_regrown W3 d os)))
          have CP := Hid.mk' cP
          have CL := Hid.mk' cL
          have HE := Hid.mk' (And.intro hK3 (And.intro hC3 (And.intro hM3 below3)))
          clear cP cL hK3 hC3 hM3 below3
          have hg := run_stGuard
          have hne : ∀ w, (binOp .neq 46 (.agg #[.int .i64 jx, .int .i64 jy, .int .i64 jz]) (.agg #[.int .i64 jx, .int .i64 jy, .int .i64 jz])).run Try.prog w = .ok (.bool false) w := fun w => by rw [run_neqSt, eqS_refl]; rfl
          have hni : (jp != jp) = false := by simp
          try go_wp2_with fail
          refine Go.wp_region_quiet_below (by kernel_rfl) (by kernel_rfl) ?_
          repeat (quiet_step (first | with_reducible exact CP.out _ _ | with_reducible exact CL.out _ _))
          refine wpQuiet_nil ?_
          intro _ hw'
          obtain ⟨⟨dq, osq⟩, hw''⟩ := hw'
          subst hw''
          have hbq := Go.below_regrown W3 dq osq
          have R := Hid.mk' (show Ck.Ok ⟨jw, jp, ⟨jx, jy, jz⟩⟩ ∧ Clk (Go.Sort.grow (Go.redrawn W3 dq) osq) w.heap.size ⟨jw, jp, ⟨jx, jy, jz⟩⟩ ∧ Bx (Go.Sort.grow (Go.redrawn W3 dq) osq) M 56 (Ck.cells ⟨jw, jp, ⟨jx, jy, jz⟩⟩) ∧ Below w.heap.size w (Go.Sort.grow (Go.redrawn W3 dq) osq) from ⟨HE.out.1, HE.out.2.1.next hbq, HE.out.2.2.1.next hbq, bnext HE.out.2.2.2 hbq⟩)
          clear hbq m1 m2 m3 m4 hg hne hni
          generalize Go.Sort.grow (Go.redrawn W3 dq) osq = W9 at *
          go_wp2_with fail
          go_roundw
          case rel => exact ⟨k + 1, by go_num, by omega, _, R.out.1, R.out.2.1, R.out.2.2.1, R.out.2.2.2⟩
          case measure => simp [intOf]; omega
    · clear HC hok hC1 bM below1
      go_wp2_with fail
      refine (alive4_any _).mono ?_; rintro e w9 ⟨rfl, hb9⟩
      go_wp2_with fail
      go_ret
      exact ⟨rfl, bnext hbel hb9⟩
end Go.Proofs.Ytnkgicjclngnpaa
