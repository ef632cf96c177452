/- Layer 4 (stamp): Now, the code's. -/
import Derived.Test.YtnkgicjclngnpaaSf
namespace Go.Proofs.Ytnkgicjclngnpaa
open Go.RowKit

set_option maxHeartbeats 4000000 in
theorem now_tt (c : Nat) (k : Ck) (hk : k.Ok) (w : World) (h : Clk w c k) (hlt : k.last.x < k.phys) (hr : rightB k.next = true) :
    Calls Try.prog 38 #[.pointer (some ⟨c, 0, none⟩)] w fun e w' => e = .returned (.tuple #[.agg k.told.cells, .bool (rightB k.next)]) ∧ Clk w' c k.now ∧ w.grownBy w' (some c) := by
  have CR := Hid.mk' (right_any k.next)
  obtain ⟨⟨hw1, hw2⟩, ⟨hp1, hp2⟩, ⟨hx1, hx2⟩, ⟨hy1, hy2⟩, ⟨hz1, hz2⟩⟩ := hk
  have hin : c < w.heap.size := h.inside
  unfold Ck.told Ck.now
  have hnx : k.next = ⟨k.phys, 0, k.who⟩ := by unfold Ck.next; rw [if_pos hlt]
  rw [hr] at CR ⊢
  rw [hnx] at CR
  try rw [hnx]
  simp only [if_true]
  clear hr hnx
  obtain ⟨who, phys, ⟨lx, ly, lz⟩⟩ := k
  unfold Clk Ck.cells at *
  unfold St.cells at *
  dsimp only at *
  have hs : IntKind.i64.wrap (ly + 1) = ly + 1 := IntWalk.i64_in _ (by omega)
  obtain ⟨c0, c1, c2, c3, c4⟩ := Bx.reads5 h
  go_enter Try.func38, Try.ntmps38
  go_wp2_with fail
  go_region
  clear c0 c1 c2 c3 c4 hs
  have bC : Bx ((w.alloc (.cells #[.int .i64 0, .int .i64 0, .int .i64 0] 46)).alloc (.cells #[.int .i64 lx, .int .i64 (ly + 1), .int .i64 who] 46)).drew c 83 #[.int .i64 who, .int .i64 phys, .int .i64 lx, .int .i64 ly, .int .i64 lz] := (((h.past _).past _).drawn 1)
  have bR : Bx ((w.alloc (.cells #[.int .i64 0, .int .i64 0, .int .i64 0] 46)).alloc (.cells #[.int .i64 lx, .int .i64 (ly + 1), .int .i64 who] 46)).drew w.heap.size 46 #[.int .i64 0, .int .i64 0, .int .i64 0] := ((Bx.fresh w _ _).past _).drawn 1
  have bS : Bx ((w.alloc (.cells #[.int .i64 0, .int .i64 0, .int .i64 0] 46)).alloc (.cells #[.int .i64 lx, .int .i64 (ly + 1), .int .i64 who] 46)).drew (w.heap.size + 1) 46 #[.int .i64 lx, .int .i64 (ly + 1), .int .i64 who] := (Bx.fresh' (w.alloc _) (by simp) _ _).drawn 1
  have gW : w.grownBy ((w.alloc (.cells #[.int .i64 0, .int .i64 0, .int .i64 0] 46)).alloc (.cells #[.int .i64 lx, .int .i64 (ly + 1), .int .i64 who] 46)).drew (some c) := gb_trans (gb_trans (gb_alloc _ _ _) (gb_alloc _ _ _)) (gb_drew _ _)
  clear h
  generalize ((w.alloc (.cells #[.int .i64 0, .int .i64 0, .int .i64 0] 46)).alloc (.cells #[.int .i64 lx, .int .i64 (ly + 1), .int .i64 who] 46)).drew = W1 at *
  generalize hN : w.heap.size = N at *
  have HN := Hid.mk' hN
  clear hN
  have hRC : N ≠ c := by omega
  have hSC : N + 1 ≠ c := by omega
  have hSR : N + 1 ≠ N := by omega
  have HH := Hid.mk' (And.intro hRC (And.intro hSC hSR))
  clear hRC hSC hSR
  obtain ⟨c0, c1, c2, c3, c4⟩ := Bx.reads5 bC
  go_wp2_with fail
  go_quiet (fail)
  clear c0 c1 c2 c3 c4
  replace bC := bC.drawn nq
  replace bR := bR.drawn nq
  replace bS := bS.drawn nq
  replace gW := gb_trans gW (gb_drawn W1 nq _)
  generalize W1.drewN nq = W2 at *
  obtain ⟨c0, c1, c2, c3, c4⟩ := Bx.reads5 bC
  obtain ⟨f0, f1, f2⟩ := Bx.opens3 bS
  obtain ⟨s0, s1, s2⟩ := Bx.reads3 bS
  go_wp2_with fail
  go_region
  clear c0 c1 c2 c3 c4 f0 f1 f2 s0 s1 s2
  have bC2 : Bx (((W2.setCell ⟨N + 1, 0, none⟩ (.int .i64 phys)).setCell ⟨N + 1, 1, none⟩ (.int .i64 0)).setCell ⟨N + 1, 2, none⟩ (.int .i64 who)).drew c 83 #[.int .i64 who, .int .i64 phys, .int .i64 lx, .int .i64 ly, .int .i64 lz] := (((bC.beside HH.out.2.1 _).beside HH.out.2.1 _).beside HH.out.2.1 _).drawn 1
  have bR2 : Bx (((W2.setCell ⟨N + 1, 0, none⟩ (.int .i64 phys)).setCell ⟨N + 1, 1, none⟩ (.int .i64 0)).setCell ⟨N + 1, 2, none⟩ (.int .i64 who)).drew N 46 #[.int .i64 0, .int .i64 0, .int .i64 0] := (((bR.beside HH.out.2.2 _).beside HH.out.2.2 _).beside HH.out.2.2 _).drawn 1
  have bS2 : Bx (((W2.setCell ⟨N + 1, 0, none⟩ (.int .i64 phys)).setCell ⟨N + 1, 1, none⟩ (.int .i64 0)).setCell ⟨N + 1, 2, none⟩ (.int .i64 who)).drew (N + 1) 46 #[.int .i64 phys, .int .i64 0, .int .i64 who] := bS.put3.drawn 1
  have gW2 : w.grownBy (((W2.setCell ⟨N + 1, 0, none⟩ (.int .i64 phys)).setCell ⟨N + 1, 1, none⟩ (.int .i64 0)).setCell ⟨N + 1, 2, none⟩ (.int .i64 who)).drew (some c) := gb_trans (gb_new (gb_new (gb_new gW (by rw [HN.out]; omega) _) (by rw [HN.out]; omega) _) (by rw [HN.out]; omega) _) (gb_drew _ _)
  clear bC bR bS gW
  generalize (((W2.setCell ⟨N + 1, 0, none⟩ (.int .i64 phys)).setCell ⟨N + 1, 1, none⟩ (.int .i64 0)).setCell ⟨N + 1, 2, none⟩ (.int .i64 who)).drew = W3 at *
  obtain ⟨s0, s1, s2⟩ := Bx.reads3 bS2
  go_wp2_with fail
  clear s0 s1 s2
  refine (CR.out _).mono ?_; rintro e W4 ⟨rfl, hb4⟩
  replace bC2 := bC2.next hb4
  replace bR2 := bR2.next hb4
  replace bS2 := bS2.next hb4
  replace gW2 := gb_trans gW2 (gb_below hb4 _)
  clear hb4
  obtain ⟨s0, s1, s2⟩ := Bx.reads3 bS2
  obtain ⟨r0, r1, r2⟩ := Bx.opens3 bR2
  obtain ⟨f0, f1, f2, f3, f4⟩ := Bx.opens5 bC2
  obtain ⟨c0, c1, c2, c3, c4⟩ := Bx.reads5 bC2
  have bC3 := ((bC2.put 2 (.int .i64 phys)).put 3 (.int .i64 0)).put 4 (.int .i64 who)
  have bS3 : Bx (((W4.setCell ⟨c, 2, none⟩ (.int .i64 phys)).setCell ⟨c, 3, none⟩ (.int .i64 0)).setCell ⟨c, 4, none⟩ (.int .i64 who)) (N + 1) _ _ := ((bS2.beside HH.out.2.1.symm _).beside HH.out.2.1.symm _).beside HH.out.2.1.symm _
  have bR3 : Bx (((W4.setCell ⟨c, 2, none⟩ (.int .i64 phys)).setCell ⟨c, 3, none⟩ (.int .i64 0)).setCell ⟨c, 4, none⟩ (.int .i64 who)) N _ _ := ((bR2.beside HH.out.1.symm _).beside HH.out.1.symm _).beside HH.out.1.symm _
  have gW3 : w.grownBy (((W4.setCell ⟨c, 2, none⟩ (.int .i64 phys)).setCell ⟨c, 3, none⟩ (.int .i64 0)).setCell ⟨c, 4, none⟩ (.int .i64 who)) (some c) := gb_trans (gb_trans (gb_trans gW2 (gb_set _ _ _ _)) (gb_set _ _ _ _)) (gb_set _ _ _ _)
  have H0 := Hid.mk' (And.intro bC3 (And.intro bS3 (And.intro bR3 gW3)))
  clear bC3 bS3 bR3 gW3 bC2 bR2 bS2 gW2 r0 r1 r2
  obtain ⟨t0, t1, t2⟩ := H0.out.2.1.reads3
  obtain ⟨r0, r1, r2⟩ := H0.out.2.2.1.opens3
  obtain ⟨u0, u1, u2⟩ := H0.out.2.2.1.reads3
  go_wp2_with fail
  obtain ⟨q0, q1, q2⟩ := (H0.out.2.2.1.put3 (x := .int .i64 phys) (y := .int .i64 0) (z := .int .i64 who)).reads3
  exact bodyPost_ret (v := .tuple #[.agg #[.int .i64 phys, .int .i64 0, .int .i64 who], .bool true]) (by simp [results, Try.results38, go_sem, q0, q1, q2]) rfl ⟨rfl, (((H0.out.1.beside HH.out.1 _).beside HH.out.1 _).beside HH.out.1 _), gb_new (gb_new (gb_new H0.out.2.2.2 (by rw [HN.out]; omega) _) (by rw [HN.out]; omega) _) (by rw [HN.out]; omega) _⟩
set_option maxHeartbeats 4000000 in
theorem now_tf (c : Nat) (k : Ck) (hk : k.Ok) (w : World) (h : Clk w c k) (hlt : k.last.x < k.phys) (hr : rightB k.next = false) :
    Calls Try.prog 38 #[.pointer (some ⟨c, 0, none⟩)] w fun e w' => e = .returned (.tuple #[.agg k.told.cells, .bool (rightB k.next)]) ∧ Clk w' c k.now ∧ w.grownBy w' (some c) := by
  have CR := Hid.mk' (right_any k.next)
  obtain ⟨⟨hw1, hw2⟩, ⟨hp1, hp2⟩, ⟨hx1, hx2⟩, ⟨hy1, hy2⟩, ⟨hz1, hz2⟩⟩ := hk
  have hin : c < w.heap.size := h.inside
  unfold Ck.told Ck.now
  have hnx : k.next = ⟨k.phys, 0, k.who⟩ := by unfold Ck.next; rw [if_pos hlt]
  rw [hr] at CR ⊢
  rw [hnx] at CR
  try rw [hnx]
  simp only [Bool.false_eq_true, if_false]
  clear hr hnx
  obtain ⟨who, phys, ⟨lx, ly, lz⟩⟩ := k
  unfold Clk Ck.cells at *
  unfold St.cells at *
  unfold zeroS at *
  dsimp only at *
  have hs : IntKind.i64.wrap (ly + 1) = ly + 1 := IntWalk.i64_in _ (by omega)
  obtain ⟨c0, c1, c2, c3, c4⟩ := Bx.reads5 h
  go_enter Try.func38, Try.ntmps38
  go_wp2_with fail
  go_region
  clear c0 c1 c2 c3 c4 hs
  have bC : Bx ((w.alloc (.cells #[.int .i64 0, .int .i64 0, .int .i64 0] 46)).alloc (.cells #[.int .i64 lx, .int .i64 (ly + 1), .int .i64 who] 46)).drew c 83 #[.int .i64 who, .int .i64 phys, .int .i64 lx, .int .i64 ly, .int .i64 lz] := (((h.past _).past _).drawn 1)
  have bR : Bx ((w.alloc (.cells #[.int .i64 0, .int .i64 0, .int .i64 0] 46)).alloc (.cells #[.int .i64 lx, .int .i64 (ly + 1), .int .i64 who] 46)).drew w.heap.size 46 #[.int .i64 0, .int .i64 0, .int .i64 0] := ((Bx.fresh w _ _).past _).drawn 1
  have bS : Bx ((w.alloc (.cells #[.int .i64 0, .int .i64 0, .int .i64 0] 46)).alloc (.cells #[.int .i64 lx, .int .i64 (ly + 1), .int .i64 who] 46)).drew (w.heap.size + 1) 46 #[.int .i64 lx, .int .i64 (ly + 1), .int .i64 who] := (Bx.fresh' (w.alloc _) (by simp) _ _).drawn 1
  have gW : w.grownBy ((w.alloc (.cells #[.int .i64 0, .int .i64 0, .int .i64 0] 46)).alloc (.cells #[.int .i64 lx, .int .i64 (ly + 1), .int .i64 who] 46)).drew (some c) := gb_trans (gb_trans (gb_alloc _ _ _) (gb_alloc _ _ _)) (gb_drew _ _)
  clear h
  generalize ((w.alloc (.cells #[.int .i64 0, .int .i64 0, .int .i64 0] 46)).alloc (.cells #[.int .i64 lx, .int .i64 (ly + 1), .int .i64 who] 46)).drew = W1 at *
  generalize hN : w.heap.size = N at *
  have HN := Hid.mk' hN
  clear hN
  have hRC : N ≠ c := by omega
  have hSC : N + 1 ≠ c := by omega
  have hSR : N + 1 ≠ N := by omega
  have HH := Hid.mk' (And.intro hRC (And.intro hSC hSR))
  clear hRC hSC hSR
  obtain ⟨c0, c1, c2, c3, c4⟩ := Bx.reads5 bC
  go_wp2_with fail
  go_quiet (fail)
  clear c0 c1 c2 c3 c4
  replace bC := bC.drawn nq
  replace bR := bR.drawn nq
  replace bS := bS.drawn nq
  replace gW := gb_trans gW (gb_drawn W1 nq _)
  generalize W1.drewN nq = W2 at *
  obtain ⟨c0, c1, c2, c3, c4⟩ := Bx.reads5 bC
  obtain ⟨f0, f1, f2⟩ := Bx.opens3 bS
  obtain ⟨s0, s1, s2⟩ := Bx.reads3 bS
  go_wp2_with fail
  go_region
  clear c0 c1 c2 c3 c4 f0 f1 f2 s0 s1 s2
  have bC2 : Bx (((W2.setCell ⟨N + 1, 0, none⟩ (.int .i64 phys)).setCell ⟨N + 1, 1, none⟩ (.int .i64 0)).setCell ⟨N + 1, 2, none⟩ (.int .i64 who)).drew c 83 #[.int .i64 who, .int .i64 phys, .int .i64 lx, .int .i64 ly, .int .i64 lz] := (((bC.beside HH.out.2.1 _).beside HH.out.2.1 _).beside HH.out.2.1 _).drawn 1
  have bR2 : Bx (((W2.setCell ⟨N + 1, 0, none⟩ (.int .i64 phys)).setCell ⟨N + 1, 1, none⟩ (.int .i64 0)).setCell ⟨N + 1, 2, none⟩ (.int .i64 who)).drew N 46 #[.int .i64 0, .int .i64 0, .int .i64 0] := (((bR.beside HH.out.2.2 _).beside HH.out.2.2 _).beside HH.out.2.2 _).drawn 1
  have bS2 : Bx (((W2.setCell ⟨N + 1, 0, none⟩ (.int .i64 phys)).setCell ⟨N + 1, 1, none⟩ (.int .i64 0)).setCell ⟨N + 1, 2, none⟩ (.int .i64 who)).drew (N + 1) 46 #[.int .i64 phys, .int .i64 0, .int .i64 who] := bS.put3.drawn 1
  have gW2 : w.grownBy (((W2.setCell ⟨N + 1, 0, none⟩ (.int .i64 phys)).setCell ⟨N + 1, 1, none⟩ (.int .i64 0)).setCell ⟨N + 1, 2, none⟩ (.int .i64 who)).drew (some c) := gb_trans (gb_new (gb_new (gb_new gW (by rw [HN.out]; omega) _) (by rw [HN.out]; omega) _) (by rw [HN.out]; omega) _) (gb_drew _ _)
  clear bC bR bS gW
  generalize (((W2.setCell ⟨N + 1, 0, none⟩ (.int .i64 phys)).setCell ⟨N + 1, 1, none⟩ (.int .i64 0)).setCell ⟨N + 1, 2, none⟩ (.int .i64 who)).drew = W3 at *
  obtain ⟨s0, s1, s2⟩ := Bx.reads3 bS2
  go_wp2_with fail
  clear s0 s1 s2
  refine (CR.out _).mono ?_; rintro e W4 ⟨rfl, hb4⟩
  replace bC2 := bC2.next hb4
  replace bR2 := bR2.next hb4
  replace bS2 := bS2.next hb4
  replace gW2 := gb_trans gW2 (gb_below hb4 _)
  clear hb4
  obtain ⟨s0, s1, s2⟩ := Bx.reads3 bS2
  obtain ⟨r0, r1, r2⟩ := Bx.opens3 bR2
  obtain ⟨u0, u1, u2⟩ := Bx.reads3 bR2
  go_wp2_with fail
  obtain ⟨q0, q1, q2⟩ := (bR2.put3 (x := .int .i64 0) (y := .int .i64 0) (z := .int .i64 0)).reads3
  exact bodyPost_ret (v := .tuple #[.agg #[.int .i64 0, .int .i64 0, .int .i64 0], .bool false]) (by simp [results, Try.results38, go_sem, q0, q1, q2]) rfl ⟨rfl, (((bC2.beside HH.out.1 _).beside HH.out.1 _).beside HH.out.1 _), gb_new (gb_new (gb_new gW2 (by rw [HN.out]; omega) _) (by rw [HN.out]; omega) _) (by rw [HN.out]; omega) _⟩
set_option maxHeartbeats 4000000 in
theorem now_ft (c : Nat) (k : Ck) (hk : k.Ok) (w : World) (h : Clk w c k) (hlt : ¬ k.last.x < k.phys) (hr : rightB k.next = true) :
    Calls Try.prog 38 #[.pointer (some ⟨c, 0, none⟩)] w fun e w' => e = .returned (.tuple #[.agg k.told.cells, .bool (rightB k.next)]) ∧ Clk w' c k.now ∧ w.grownBy w' (some c) := by
  have CR := Hid.mk' (right_any k.next)
  obtain ⟨⟨hw1, hw2⟩, ⟨hp1, hp2⟩, ⟨hx1, hx2⟩, ⟨hy1, hy2⟩, ⟨hz1, hz2⟩⟩ := hk
  have hin : c < w.heap.size := h.inside
  unfold Ck.told Ck.now
  have hnx : k.next = ⟨k.last.x, k.last.y + 1, k.who⟩ := by unfold Ck.next; rw [if_neg hlt]
  rw [hr] at CR ⊢
  rw [hnx] at CR
  try rw [hnx]
  simp only [if_true]
  clear hr hnx
  obtain ⟨who, phys, ⟨lx, ly, lz⟩⟩ := k
  unfold Clk Ck.cells at *
  unfold St.cells at *
  dsimp only at *
  have hs : IntKind.i64.wrap (ly + 1) = ly + 1 := IntWalk.i64_in _ (by omega)
  obtain ⟨c0, c1, c2, c3, c4⟩ := Bx.reads5 h
  go_enter Try.func38, Try.ntmps38
  go_wp2_with fail
  go_region
  clear c0 c1 c2 c3 c4 hs
  have bC : Bx ((w.alloc (.cells #[.int .i64 0, .int .i64 0, .int .i64 0] 46)).alloc (.cells #[.int .i64 lx, .int .i64 (ly + 1), .int .i64 who] 46)).drew c 83 #[.int .i64 who, .int .i64 phys, .int .i64 lx, .int .i64 ly, .int .i64 lz] := (((h.past _).past _).drawn 1)
  have bR : Bx ((w.alloc (.cells #[.int .i64 0, .int .i64 0, .int .i64 0] 46)).alloc (.cells #[.int .i64 lx, .int .i64 (ly + 1), .int .i64 who] 46)).drew w.heap.size 46 #[.int .i64 0, .int .i64 0, .int .i64 0] := ((Bx.fresh w _ _).past _).drawn 1
  have bS : Bx ((w.alloc (.cells #[.int .i64 0, .int .i64 0, .int .i64 0] 46)).alloc (.cells #[.int .i64 lx, .int .i64 (ly + 1), .int .i64 who] 46)).drew (w.heap.size + 1) 46 #[.int .i64 lx, .int .i64 (ly + 1), .int .i64 who] := (Bx.fresh' (w.alloc _) (by simp) _ _).drawn 1
  have gW : w.grownBy ((w.alloc (.cells #[.int .i64 0, .int .i64 0, .int .i64 0] 46)).alloc (.cells #[.int .i64 lx, .int .i64 (ly + 1), .int .i64 who] 46)).drew (some c) := gb_trans (gb_trans (gb_alloc _ _ _) (gb_alloc _ _ _)) (gb_drew _ _)
  clear h
  generalize ((w.alloc (.cells #[.int .i64 0, .int .i64 0, .int .i64 0] 46)).alloc (.cells #[.int .i64 lx, .int .i64 (ly + 1), .int .i64 who] 46)).drew = W1 at *
  generalize hN : w.heap.size = N at *
  have HN := Hid.mk' hN
  clear hN
  have hRC : N ≠ c := by omega
  have hSC : N + 1 ≠ c := by omega
  have hSR : N + 1 ≠ N := by omega
  have HH := Hid.mk' (And.intro hRC (And.intro hSC hSR))
  clear hRC hSC hSR
  obtain ⟨c0, c1, c2, c3, c4⟩ := Bx.reads5 bC
  go_wp2_with fail
  go_quiet (fail)
  clear c0 c1 c2 c3 c4
  replace bC := bC.drawn nq
  replace bR := bR.drawn nq
  replace bS := bS.drawn nq
  replace gW := gb_trans gW (gb_drawn W1 nq _)
  generalize W1.drewN nq = W2 at *
  have bC2 := bC
  have bR2 := bR
  have bS2 := bS
  have gW2 := gW
  clear bC bR bS gW
  obtain ⟨s0, s1, s2⟩ := Bx.reads3 bS2
  go_wp2_with fail
  clear s0 s1 s2
  refine (CR.out _).mono ?_; rintro e W4 ⟨rfl, hb4⟩
  replace bC2 := bC2.next hb4
  replace bR2 := bR2.next hb4
  replace bS2 := bS2.next hb4
  replace gW2 := gb_trans gW2 (gb_below hb4 _)
  clear hb4
  obtain ⟨s0, s1, s2⟩ := Bx.reads3 bS2
  obtain ⟨r0, r1, r2⟩ := Bx.opens3 bR2
  obtain ⟨f0, f1, f2, f3, f4⟩ := Bx.opens5 bC2
  obtain ⟨c0, c1, c2, c3, c4⟩ := Bx.reads5 bC2
  have bC3 := ((bC2.put 2 (.int .i64 lx)).put 3 (.int .i64 (ly + 1))).put 4 (.int .i64 who)
  have bS3 : Bx (((W4.setCell ⟨c, 2, none⟩ (.int .i64 lx)).setCell ⟨c, 3, none⟩ (.int .i64 (ly + 1))).setCell ⟨c, 4, none⟩ (.int .i64 who)) (N + 1) _ _ := ((bS2.beside HH.out.2.1.symm _).beside HH.out.2.1.symm _).beside HH.out.2.1.symm _
  have bR3 : Bx (((W4.setCell ⟨c, 2, none⟩ (.int .i64 lx)).setCell ⟨c, 3, none⟩ (.int .i64 (ly + 1))).setCell ⟨c, 4, none⟩ (.int .i64 who)) N _ _ := ((bR2.beside HH.out.1.symm _).beside HH.out.1.symm _).beside HH.out.1.symm _
  have gW3 : w.grownBy (((W4.setCell ⟨c, 2, none⟩ (.int .i64 lx)).setCell ⟨c, 3, none⟩ (.int .i64 (ly + 1))).setCell ⟨c, 4, none⟩ (.int .i64 who)) (some c) := gb_trans (gb_trans (gb_trans gW2 (gb_set _ _ _ _)) (gb_set _ _ _ _)) (gb_set _ _ _ _)
  have H0 := Hid.mk' (And.intro bC3 (And.intro bS3 (And.intro bR3 gW3)))
  clear bC3 bS3 bR3 gW3 bC2 bR2 bS2 gW2 r0 r1 r2
  obtain ⟨t0, t1, t2⟩ := H0.out.2.1.reads3
  obtain ⟨r0, r1, r2⟩ := H0.out.2.2.1.opens3
  obtain ⟨u0, u1, u2⟩ := H0.out.2.2.1.reads3
  go_wp2_with fail
  obtain ⟨q0, q1, q2⟩ := (H0.out.2.2.1.put3 (x := .int .i64 lx) (y := .int .i64 (ly + 1)) (z := .int .i64 who)).reads3
  exact bodyPost_ret (v := .tuple #[.agg #[.int .i64 lx, .int .i64 (ly + 1), .int .i64 who], .bool true]) (by simp [results, Try.results38, go_sem, q0, q1, q2]) rfl ⟨rfl, (((H0.out.1.beside HH.out.1 _).beside HH.out.1 _).beside HH.out.1 _), gb_new (gb_new (gb_new H0.out.2.2.2 (by rw [HN.out]; omega) _) (by rw [HN.out]; omega) _) (by rw [HN.out]; omega) _⟩
set_option maxHeartbeats 4000000 in
theorem now_ff (c : Nat) (k : Ck) (hk : k.Ok) (w : World) (h : Clk w c k) (hlt : ¬ k.last.x < k.phys) (hr : rightB k.next = false) :
    Calls Try.prog 38 #[.pointer (some ⟨c, 0, none⟩)] w fun e w' => e = .returned (.tuple #[.agg k.told.cells, .bool (rightB k.next)]) ∧ Clk w' c k.now ∧ w.grownBy w' (some c) := by
  have CR := Hid.mk' (right_any k.next)
  obtain ⟨⟨hw1, hw2⟩, ⟨hp1, hp2⟩, ⟨hx1, hx2⟩, ⟨hy1, hy2⟩, ⟨hz1, hz2⟩⟩ := hk
  have hin : c < w.heap.size := h.inside
  unfold Ck.told Ck.now
  have hnx : k.next = ⟨k.last.x, k.last.y + 1, k.who⟩ := by unfold Ck.next; rw [if_neg hlt]
  rw [hr] at CR ⊢
  rw [hnx] at CR
  try rw [hnx]
  simp only [Bool.false_eq_true, if_false]
  clear hr hnx
  obtain ⟨who, phys, ⟨lx, ly, lz⟩⟩ := k
  unfold Clk Ck.cells at *
  unfold St.cells at *
  unfold zeroS at *
  dsimp only at *
  have hs : IntKind.i64.wrap (ly + 1) = ly + 1 := IntWalk.i64_in _ (by omega)
  obtain ⟨c0, c1, c2, c3, c4⟩ := Bx.reads5 h
  go_enter Try.func38, Try.ntmps38
  go_wp2_with fail
  go_region
  clear c0 c1 c2 c3 c4 hs
  have bC : Bx ((w.alloc (.cells #[.int .i64 0, .int .i64 0, .int .i64 0] 46)).alloc (.cells #[.int .i64 lx, .int .i64 (ly + 1), .int .i64 who] 46)).drew c 83 #[.int .i64 who, .int .i64 phys, .int .i64 lx, .int .i64 ly, .int .i64 lz] := (((h.past _).past _).drawn 1)
  have bR : Bx ((w.alloc (.cells #[.int .i64 0, .int .i64 0, .int .i64 0] 46)).alloc (.cells #[.int .i64 lx, .int .i64 (ly + 1), .int .i64 who] 46)).drew w.heap.size 46 #[.int .i64 0, .int .i64 0, .int .i64 0] := ((Bx.fresh w _ _).past _).drawn 1
  have bS : Bx ((w.alloc (.cells #[.int .i64 0, .int .i64 0, .int .i64 0] 46)).alloc (.cells #[.int .i64 lx, .int .i64 (ly + 1), .int .i64 who] 46)).drew (w.heap.size + 1) 46 #[.int .i64 lx, .int .i64 (ly + 1), .int .i64 who] := (Bx.fresh' (w.alloc _) (by simp) _ _).drawn 1
  have gW : w.grownBy ((w.alloc (.cells #[.int .i64 0, .int .i64 0, .int .i64 0] 46)).alloc (.cells #[.int .i64 lx, .int .i64 (ly + 1), .int .i64 who] 46)).drew (some c) := gb_trans (gb_trans (gb_alloc _ _ _) (gb_alloc _ _ _)) (gb_drew _ _)
  clear h
  generalize ((w.alloc (.cells #[.int .i64 0, .int .i64 0, .int .i64 0] 46)).alloc (.cells #[.int .i64 lx, .int .i64 (ly + 1), .int .i64 who] 46)).drew = W1 at *
  generalize hN : w.heap.size = N at *
  have HN := Hid.mk' hN
  clear hN
  have hRC : N ≠ c := by omega
  have hSC : N + 1 ≠ c := by omega
  have hSR : N + 1 ≠ N := by omega
  have HH := Hid.mk' (And.intro hRC (And.intro hSC hSR))
  clear hRC hSC hSR
  obtain ⟨c0, c1, c2, c3, c4⟩ := Bx.reads5 bC
  go_wp2_with fail
  go_quiet (fail)
  clear c0 c1 c2 c3 c4
  replace bC := bC.drawn nq
  replace bR := bR.drawn nq
  replace bS := bS.drawn nq
  replace gW := gb_trans gW (gb_drawn W1 nq _)
  generalize W1.drewN nq = W2 at *
  have bC2 := bC
  have bR2 := bR
  have bS2 := bS
  have gW2 := gW
  clear bC bR bS gW
  obtain ⟨s0, s1, s2⟩ := Bx.reads3 bS2
  go_wp2_with fail
  clear s0 s1 s2
  refine (CR.out _).mono ?_; rintro e W4 ⟨rfl, hb4⟩
  replace bC2 := bC2.next hb4
  replace bR2 := bR2.next hb4
  replace bS2 := bS2.next hb4
  replace gW2 := gb_trans gW2 (gb_below hb4 _)
  clear hb4
  obtain ⟨s0, s1, s2⟩ := Bx.reads3 bS2
  obtain ⟨r0, r1, r2⟩ := Bx.opens3 bR2
  obtain ⟨u0, u1, u2⟩ := Bx.reads3 bR2
  go_wp2_with fail
  obtain ⟨q0, q1, q2⟩ := (bR2.put3 (x := .int .i64 0) (y := .int .i64 0) (z := .int .i64 0)).reads3
  exact bodyPost_ret (v := .tuple #[.agg #[.int .i64 0, .int .i64 0, .int .i64 0], .bool false]) (by simp [results, Try.results38, go_sem, q0, q1, q2]) rfl ⟨rfl, (((bC2.beside HH.out.1 _).beside HH.out.1 _).beside HH.out.1 _), gb_new (gb_new (gb_new gW2 (by rw [HN.out]; omega) _) (by rw [HN.out]; omega) _) (by rw [HN.out]; omega) _⟩
theorem now_any (c : Nat) (k : Ck) (hk : k.Ok) (w : World) (h : Clk w c k) :
    Calls Try.prog 38 #[.pointer (some ⟨c, 0, none⟩)] w fun e w' => e = .returned (.tuple #[.agg k.told.cells, .bool (rightB k.next)]) ∧ Clk w' c k.now ∧ w.grownBy w' (some c) := by
  by_cases hlt : k.last.x < k.phys
  · cases hr : rightB k.next with
    | true => rw [← hr]; exact now_tt c k hk w h hlt hr
    | false => rw [← hr]; exact now_tf c k hk w h hlt hr
  · cases hr : rightB k.next with
    | true => rw [← hr]; exact now_ft c k hk w h hlt hr
    | false => rw [← hr]; exact now_ff c k hk w h hlt hr
end Go.Proofs.Ytnkgicjclngnpaa
