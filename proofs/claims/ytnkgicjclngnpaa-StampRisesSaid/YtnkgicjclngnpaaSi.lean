/- Layer 4 (stamp): the document's Now. -/
import Derived.Test.YtnkgicjclngnpaaSg
namespace Go.Proofs.Ytnkgicjclngnpaa
open Go.RowKit

theorem Bx.put5 {w : World} {g : Nat} {t : TypeId} {a b c d e a' b' c' d' e' : Value} (h : Bx w g t #[a, b, c, d, e]) : Bx (((((w.setCell ⟨g, 0, none⟩ a').setCell ⟨g, 1, none⟩ b').setCell ⟨g, 2, none⟩ c').setCell ⟨g, 3, none⟩ d').setCell ⟨g, 4, none⟩ e') g t #[a', b', c', d', e'] := by
  have := ((((h.put 0 a').put 1 b').put 2 c').put 3 d').put 4 e'
  exact this
theorem below_new {w w' : World} (h : Below w.heap.size w w') {g i : Nat} (hg : w.heap.size ≤ g) (v : Value) : Below w.heap.size w (w'.setCell ⟨g, i, none⟩ v) := h.setCell hg v

set_option maxHeartbeats 4000000 in
theorem refnow_tt (k : Ck) (hk : k.Ok) (w : World) (hlt : k.last.x < k.phys) (hr : rightB k.next = true) :
    Calls Try.prog 39 #[.agg k.cells] w fun e w' => e = .returned (.tuple #[.agg k.told.cells, .agg k.now.cells, .bool (rightB k.next)]) ∧ Below w.heap.size w w' := by
  have CR := Hid.mk' (refright_any k.next)
  obtain ⟨⟨hw1, hw2⟩, ⟨hp1, hp2⟩, ⟨hx1, hx2⟩, ⟨hy1, hy2⟩, ⟨hz1, hz2⟩⟩ := hk
  unfold Ck.told Ck.now
  have hnx : k.next = ⟨k.phys, 0, k.who⟩ := by unfold Ck.next; rw [if_pos hlt]
  rw [hr] at CR ⊢
  rw [hnx] at CR
  try rw [hnx]
  simp only [if_true]
  clear hr hnx
  obtain ⟨who, phys, ⟨lx, ly, lz⟩⟩ := k
  unfold Ck.cells
  unfold St.cells at *
  dsimp only at *
  have bC : Bx ((((w.alloc (.cells #[.int .i64 who, .int .i64 phys, .int .i64 lx, .int .i64 ly, .int .i64 lz] 56)).alloc (.cells #[.int .i64 0, .int .i64 0, .int .i64 0] 46)).alloc (.cells #[.int .i64 0, .int .i64 0, .int .i64 0, .int .i64 0, .int .i64 0] 56)).alloc (.cells #[.int .i64 phys, .int .i64 0, .int .i64 who] 46)) w.heap.size 56 #[.int .i64 who, .int .i64 phys, .int .i64 lx, .int .i64 ly, .int .i64 lz] := ((((Bx.fresh w _ _).past _).past _).past _)
  have bR : Bx ((((w.alloc (.cells #[.int .i64 who, .int .i64 phys, .int .i64 lx, .int .i64 ly, .int .i64 lz] 56)).alloc (.cells #[.int .i64 0, .int .i64 0, .int .i64 0] 46)).alloc (.cells #[.int .i64 0, .int .i64 0, .int .i64 0, .int .i64 0, .int .i64 0] 56)).alloc (.cells #[.int .i64 phys, .int .i64 0, .int .i64 who] 46)) (w.heap.size + 1) 46 #[.int .i64 0, .int .i64 0, .int .i64 0] := ((Bx.fresh' (w.alloc _) (by simp) _ _).past _).past _
  have bT : Bx ((((w.alloc (.cells #[.int .i64 who, .int .i64 phys, .int .i64 lx, .int .i64 ly, .int .i64 lz] 56)).alloc (.cells #[.int .i64 0, .int .i64 0, .int .i64 0] 46)).alloc (.cells #[.int .i64 0, .int .i64 0, .int .i64 0, .int .i64 0, .int .i64 0] 56)).alloc (.cells #[.int .i64 phys, .int .i64 0, .int .i64 who] 46)) (w.heap.size + 1 + 1) 56 #[.int .i64 0, .int .i64 0, .int .i64 0, .int .i64 0, .int .i64 0] := (Bx.fresh' ((w.alloc _).alloc _) (by simp) _ _).past _
  have bS : Bx ((((w.alloc (.cells #[.int .i64 who, .int .i64 phys, .int .i64 lx, .int .i64 ly, .int .i64 lz] 56)).alloc (.cells #[.int .i64 0, .int .i64 0, .int .i64 0] 46)).alloc (.cells #[.int .i64 0, .int .i64 0, .int .i64 0, .int .i64 0, .int .i64 0] 56)).alloc (.cells #[.int .i64 phys, .int .i64 0, .int .i64 who] 46)) (w.heap.size + 1 + 1 + 1) 46 #[.int .i64 phys, .int .i64 0, .int .i64 who] := (Bx.fresh' (((w.alloc _).alloc _).alloc _) (by simp) _ _)
  have gW : Below w.heap.size w ((((w.alloc (.cells #[.int .i64 who, .int .i64 phys, .int .i64 lx, .int .i64 ly, .int .i64 lz] 56)).alloc (.cells #[.int .i64 0, .int .i64 0, .int .i64 0] 46)).alloc (.cells #[.int .i64 0, .int .i64 0, .int .i64 0, .int .i64 0, .int .i64 0] 56)).alloc (.cells #[.int .i64 phys, .int .i64 0, .int .i64 who] 46)) := ((((Below.refl _ _).alloc (Nat.le_refl _) _).alloc (by simp) _).alloc (by simp; omega) _).alloc (by simp; omega) _
  have HI := Hid.mk' (And.intro bC (And.intro bR (And.intro bT (And.intro bS gW))))
  clear bC bR bT bS gW
  go_enter Try.func39, Try.ntmps39
  go_wp2_with fail
  obtain ⟨bC, bR, bT, bS, gW⟩ := HI.out
  clear HI
  generalize ((((w.alloc (.cells #[.int .i64 who, .int .i64 phys, .int .i64 lx, .int .i64 ly, .int .i64 lz] 56)).alloc (.cells #[.int .i64 0, .int .i64 0, .int .i64 0] 46)).alloc (.cells #[.int .i64 0, .int .i64 0, .int .i64 0, .int .i64 0, .int .i64 0] 56)).alloc (.cells #[.int .i64 phys, .int .i64 0, .int .i64 who] 46)) = W1 at *
  generalize hN : w.heap.size = N at *
  have HN := Hid.mk' hN
  clear hN
  refine (CR.out _).mono ?_; rintro e W4 ⟨rfl, hb4⟩
  replace bC := bC.next hb4
  replace bR := bR.next hb4
  replace bT := bT.next hb4
  replace bS := bS.next hb4
  replace gW := gW.trans (hb4.mono (by have := gW.size; rw [HN.out] at this; exact this))
  clear hb4
  have HH := Hid.mk' (show N + 1 ≠ N ∧ N + 1 + 1 ≠ N ∧ N + 1 + 1 ≠ N + 1 ∧ N + 1 + 1 + 1 ≠ N ∧ N + 1 + 1 + 1 ≠ N + 1 + 1 by omega)
  obtain ⟨s0, s1, s2⟩ := Bx.reads3 bS
  obtain ⟨c0, c1, c2, c3, c4⟩ := Bx.reads5 bC
  obtain ⟨f0, f1, f2, f3, f4⟩ := Bx.opens5 bC
  go_wp2_with fail
  clear s0 s1 s2 c0 c1 c2 c3 c4 f0 f1 f2 f3 f4
  have bC3 : Bx (((W4.setCell ⟨N, 2, none⟩ (.int .i64 phys)).setCell ⟨N, 3, none⟩ (.int .i64 0)).setCell ⟨N, 4, none⟩ (.int .i64 who)) N 56 #[.int .i64 who, .int .i64 phys, .int .i64 phys, .int .i64 0, .int .i64 who] := ((bC.put 2 (.int .i64 phys)).put 3 (.int .i64 0)).put 4 (.int .i64 who)
  have bS3 : Bx (((W4.setCell ⟨N, 2, none⟩ (.int .i64 phys)).setCell ⟨N, 3, none⟩ (.int .i64 0)).setCell ⟨N, 4, none⟩ (.int .i64 who)) (N + 1 + 1 + 1) _ _ := ((bS.beside HH.out.2.2.2.1.symm _).beside HH.out.2.2.2.1.symm _).beside HH.out.2.2.2.1.symm _
  have bR3 : Bx (((W4.setCell ⟨N, 2, none⟩ (.int .i64 phys)).setCell ⟨N, 3, none⟩ (.int .i64 0)).setCell ⟨N, 4, none⟩ (.int .i64 who)) (N + 1) _ _ := ((bR.beside HH.out.1.symm _).beside HH.out.1.symm _).beside HH.out.1.symm _
  have bT3 : Bx (((W4.setCell ⟨N, 2, none⟩ (.int .i64 phys)).setCell ⟨N, 3, none⟩ (.int .i64 0)).setCell ⟨N, 4, none⟩ (.int .i64 who)) (N + 1 + 1) _ _ := ((bT.beside HH.out.2.1.symm _).beside HH.out.2.1.symm _).beside HH.out.2.1.symm _
  have gW3 : Below N w (((W4.setCell ⟨N, 2, none⟩ (.int .i64 phys)).setCell ⟨N, 3, none⟩ (.int .i64 0)).setCell ⟨N, 4, none⟩ (.int .i64 who)) := ((gW.setCell (Nat.le_refl _) _).setCell (Nat.le_refl _) _).setCell (Nat.le_refl _) _
  generalize ((W4.setCell ⟨N, 2, none⟩ (.int .i64 phys)).setCell ⟨N, 3, none⟩ (.int .i64 0)).setCell ⟨N, 4, none⟩ (.int .i64 who) = W5 at *
  clear bC bR bT bS gW
  obtain ⟨s0, s1, s2⟩ := Bx.reads3 bS3
  obtain ⟨c0, c1, c2, c3, c4⟩ := Bx.reads5 bC3
  obtain ⟨r0, r1, r2⟩ := Bx.reads3 bR3
  obtain ⟨o0, o1, o2⟩ := Bx.opens3 bR3
  obtain ⟨t0, t1, t2, t3, t4⟩ := Bx.reads5 bT3
  obtain ⟨u0, u1, u2, u3, u4⟩ := Bx.opens5 bT3
  have HB := Hid.mk' (And.intro bR3 (And.intro bT3 gW3))
  clear bR3 bT3 gW3 bC3 bS3
  go_wp2_with fail
  go_region
  clear s0 s1 s2 c0 c1 c2 c3 c4 r0 r1 r2 o0 o1 o2 t0 t1 t2 t3 t4 u0 u1 u2 u3 u4
  have RR : Bx (((((((((W5.setCell ⟨N + 1, 0, none⟩ (.int .i64 phys)).setCell ⟨N + 1, 1, none⟩ (.int .i64 0)).setCell ⟨N + 1, 2, none⟩ (.int .i64 who)).setCell ⟨N + 1 + 1, 0, none⟩ (.int .i64 who)).setCell ⟨N + 1 + 1, 1, none⟩ (.int .i64 phys)).setCell ⟨N + 1 + 1, 2, none⟩ (.int .i64 phys)).setCell ⟨N + 1 + 1, 3, none⟩ (.int .i64 0)).setCell ⟨N + 1 + 1, 4, none⟩ (.int .i64 who)).drew) (N + 1) 46 #[.int .i64 phys, .int .i64 0, .int .i64 who] := ((((((HB.out.1.put3 (x := (.int .i64 phys)) (y := (.int .i64 0)) (z := (.int .i64 who))).beside HH.out.2.2.1 _).beside HH.out.2.2.1 _).beside HH.out.2.2.1 _).beside HH.out.2.2.1 _).beside HH.out.2.2.1 _).drawn 1
  have TT : Bx (((((((((W5.setCell ⟨N + 1, 0, none⟩ (.int .i64 phys)).setCell ⟨N + 1, 1, none⟩ (.int .i64 0)).setCell ⟨N + 1, 2, none⟩ (.int .i64 who)).setCell ⟨N + 1 + 1, 0, none⟩ (.int .i64 who)).setCell ⟨N + 1 + 1, 1, none⟩ (.int .i64 phys)).setCell ⟨N + 1 + 1, 2, none⟩ (.int .i64 phys)).setCell ⟨N + 1 + 1, 3, none⟩ (.int .i64 0)).setCell ⟨N + 1 + 1, 4, none⟩ (.int .i64 who)).drew) (N + 1 + 1) 56 #[.int .i64 who, .int .i64 phys, .int .i64 phys, .int .i64 0, .int .i64 who] := (Bx.put5 (((HB.out.2.1.beside HH.out.2.2.1.symm _).beside HH.out.2.2.1.symm _).beside HH.out.2.2.1.symm _)).drawn 1
  have GG : Below N w (((((((((W5.setCell ⟨N + 1, 0, none⟩ (.int .i64 phys)).setCell ⟨N + 1, 1, none⟩ (.int .i64 0)).setCell ⟨N + 1, 2, none⟩ (.int .i64 who)).setCell ⟨N + 1 + 1, 0, none⟩ (.int .i64 who)).setCell ⟨N + 1 + 1, 1, none⟩ (.int .i64 phys)).setCell ⟨N + 1 + 1, 2, none⟩ (.int .i64 phys)).setCell ⟨N + 1 + 1, 3, none⟩ (.int .i64 0)).setCell ⟨N + 1 + 1, 4, none⟩ (.int .i64 who)).drew) := ((((((((HB.out.2.2.setCell (by dsimp only; omega) _).setCell (by dsimp only; omega) _).setCell (by dsimp only; omega) _).setCell (by dsimp only; omega) _).setCell (by dsimp only; omega) _).setCell (by dsimp only; omega) _).setCell (by dsimp only; omega) _).setCell (by dsimp only; omega) _).drew
  generalize ((((((((W5.setCell ⟨N + 1, 0, none⟩ (.int .i64 phys)).setCell ⟨N + 1, 1, none⟩ (.int .i64 0)).setCell ⟨N + 1, 2, none⟩ (.int .i64 who)).setCell ⟨N + 1 + 1, 0, none⟩ (.int .i64 who)).setCell ⟨N + 1 + 1, 1, none⟩ (.int .i64 phys)).setCell ⟨N + 1 + 1, 2, none⟩ (.int .i64 phys)).setCell ⟨N + 1 + 1, 3, none⟩ (.int .i64 0)).setCell ⟨N + 1 + 1, 4, none⟩ (.int .i64 who)).drew = WF at *
  obtain ⟨q0, q1, q2⟩ := RR.reads3
  obtain ⟨p0, p1, p2, p3, p4⟩ := Bx.reads5 TT
  go_wp2_with fail
  exact bodyPost_ret (v := .tuple #[.agg #[.int .i64 phys, .int .i64 0, .int .i64 who], .agg #[.int .i64 who, .int .i64 phys, .int .i64 phys, .int .i64 0, .int .i64 who], .bool true]) (by simp [results, Try.results39, go_sem, q0, q1, q2, p0, p1, p2, p3, p4]) rfl ⟨rfl, by rw [HN.out]; exact GG⟩
set_option maxHeartbeats 4000000 in
theorem refnow_tf (k : Ck) (hk : k.Ok) (w : World) (hlt : k.last.x < k.phys) (hr : rightB k.next = false) :
    Calls Try.prog 39 #[.agg k.cells] w fun e w' => e = .returned (.tuple #[.agg k.told.cells, .agg k.now.cells, .bool (rightB k.next)]) ∧ Below w.heap.size w w' := by
  have CR := Hid.mk' (refright_any k.next)
  obtain ⟨⟨hw1, hw2⟩, ⟨hp1, hp2⟩, ⟨hx1, hx2⟩, ⟨hy1, hy2⟩, ⟨hz1, hz2⟩⟩ := hk
  unfold Ck.told Ck.now
  have hnx : k.next = ⟨k.phys, 0, k.who⟩ := by unfold Ck.next; rw [if_pos hlt]
  rw [hr] at CR ⊢
  rw [hnx] at CR
  try rw [hnx]
  simp only [Bool.false_eq_true, if_false]
  clear hr hnx
  obtain ⟨who, phys, ⟨lx, ly, lz⟩⟩ := k
  unfold Ck.cells
  unfold St.cells at *
  unfold zeroS at *
  dsimp only at *
  have bC : Bx ((((w.alloc (.cells #[.int .i64 who, .int .i64 phys, .int .i64 lx, .int .i64 ly, .int .i64 lz] 56)).alloc (.cells #[.int .i64 0, .int .i64 0, .int .i64 0] 46)).alloc (.cells #[.int .i64 0, .int .i64 0, .int .i64 0, .int .i64 0, .int .i64 0] 56)).alloc (.cells #[.int .i64 phys, .int .i64 0, .int .i64 who] 46)) w.heap.size 56 #[.int .i64 who, .int .i64 phys, .int .i64 lx, .int .i64 ly, .int .i64 lz] := ((((Bx.fresh w _ _).past _).past _).past _)
  have bR : Bx ((((w.alloc (.cells #[.int .i64 who, .int .i64 phys, .int .i64 lx, .int .i64 ly, .int .i64 lz] 56)).alloc (.cells #[.int .i64 0, .int .i64 0, .int .i64 0] 46)).alloc (.cells #[.int .i64 0, .int .i64 0, .int .i64 0, .int .i64 0, .int .i64 0] 56)).alloc (.cells #[.int .i64 phys, .int .i64 0, .int .i64 who] 46)) (w.heap.size + 1) 46 #[.int .i64 0, .int .i64 0, .int .i64 0] := ((Bx.fresh' (w.alloc _) (by simp) _ _).past _).past _
  have bT : Bx ((((w.alloc (.cells #[.int .i64 who, .int .i64 phys, .int .i64 lx, .int .i64 ly, .int .i64 lz] 56)).alloc (.cells #[.int .i64 0, .int .i64 0, .int .i64 0] 46)).alloc (.cells #[.int .i64 0, .int .i64 0, .int .i64 0, .int .i64 0, .int .i64 0] 56)).alloc (.cells #[.int .i64 phys, .int .i64 0, .int .i64 who] 46)) (w.heap.size + 1 + 1) 56 #[.int .i64 0, .int .i64 0, .int .i64 0, .int .i64 0, .int .i64 0] := (Bx.fresh' ((w.alloc _).alloc _) (by simp) _ _).past _
  have bS : Bx ((((w.alloc (.cells #[.int .i64 who, .int .i64 phys, .int .i64 lx, .int .i64 ly, .int .i64 lz] 56)).alloc (.cells #[.int .i64 0, .int .i64 0, .int .i64 0] 46)).alloc (.cells #[.int .i64 0, .int .i64 0, .int .i64 0, .int .i64 0, .int .i64 0] 56)).alloc (.cells #[.int .i64 phys, .int .i64 0, .int .i64 who] 46)) (w.heap.size + 1 + 1 + 1) 46 #[.int .i64 phys, .int .i64 0, .int .i64 who] := (Bx.fresh' (((w.alloc _).alloc _).alloc _) (by simp) _ _)
  have gW : Below w.heap.size w ((((w.alloc (.cells #[.int .i64 who, .int .i64 phys, .int .i64 lx, .int .i64 ly, .int .i64 lz] 56)).alloc (.cells #[.int .i64 0, .int .i64 0, .int .i64 0] 46)).alloc (.cells #[.int .i64 0, .int .i64 0, .int .i64 0, .int .i64 0, .int .i64 0] 56)).alloc (.cells #[.int .i64 phys, .int .i64 0, .int .i64 who] 46)) := ((((Below.refl _ _).alloc (Nat.le_refl _) _).alloc (by simp) _).alloc (by simp; omega) _).alloc (by simp; omega) _
  have HI := Hid.mk' (And.intro bC (And.intro bR (And.intro bT (And.intro bS gW))))
  clear bC bR bT bS gW
  go_enter Try.func39, Try.ntmps39
  go_wp2_with fail
  obtain ⟨bC, bR, bT, bS, gW⟩ := HI.out
  clear HI
  generalize ((((w.alloc (.cells #[.int .i64 who, .int .i64 phys, .int .i64 lx, .int .i64 ly, .int .i64 lz] 56)).alloc (.cells #[.int .i64 0, .int .i64 0, .int .i64 0] 46)).alloc (.cells #[.int .i64 0, .int .i64 0, .int .i64 0, .int .i64 0, .int .i64 0] 56)).alloc (.cells #[.int .i64 phys, .int .i64 0, .int .i64 who] 46)) = W1 at *
  generalize hN : w.heap.size = N at *
  have HN := Hid.mk' hN
  clear hN
  refine (CR.out _).mono ?_; rintro e W4 ⟨rfl, hb4⟩
  replace bC := bC.next hb4
  replace bR := bR.next hb4
  replace bT := bT.next hb4
  replace bS := bS.next hb4
  replace gW := gW.trans (hb4.mono (by have := gW.size; rw [HN.out] at this; exact this))
  clear hb4
  have HH := Hid.mk' (show N + 1 ≠ N ∧ N + 1 + 1 ≠ N ∧ N + 1 + 1 ≠ N + 1 ∧ N + 1 + 1 + 1 ≠ N ∧ N + 1 + 1 + 1 ≠ N + 1 + 1 by omega)
  obtain ⟨s0, s1, s2⟩ := Bx.reads3 bS
  obtain ⟨c0, c1, c2, c3, c4⟩ := Bx.reads5 bC
  obtain ⟨f0, f1, f2, f3, f4⟩ := Bx.opens5 bC
  clear s0 s1 s2 c0 c1 c2 c3 c4 f0 f1 f2 f3 f4
  have bC3 := bC; have bS3 := bS; have bR3 := bR; have bT3 := bT; have gW3 := gW
  clear bC bR bT bS gW
  generalize W4 = W5 at *
  obtain ⟨s0, s1, s2⟩ := Bx.reads3 bS3
  obtain ⟨c0, c1, c2, c3, c4⟩ := Bx.reads5 bC3
  obtain ⟨r0, r1, r2⟩ := Bx.reads3 bR3
  obtain ⟨o0, o1, o2⟩ := Bx.opens3 bR3
  obtain ⟨t0, t1, t2, t3, t4⟩ := Bx.reads5 bT3
  obtain ⟨u0, u1, u2, u3, u4⟩ := Bx.opens5 bT3
  have HB := Hid.mk' (And.intro bR3 (And.intro bT3 gW3))
  clear bR3 bT3 gW3 bC3 bS3
  go_wp2_with fail
  go_region
  clear s0 s1 s2 c0 c1 c2 c3 c4 r0 r1 r2 o0 o1 o2 t0 t1 t2 t3 t4 u0 u1 u2 u3 u4
  have RR : Bx (((((((((W5.setCell ⟨N + 1, 0, none⟩ (.int .i64 0)).setCell ⟨N + 1, 1, none⟩ (.int .i64 0)).setCell ⟨N + 1, 2, none⟩ (.int .i64 0)).setCell ⟨N + 1 + 1, 0, none⟩ (.int .i64 who)).setCell ⟨N + 1 + 1, 1, none⟩ (.int .i64 phys)).setCell ⟨N + 1 + 1, 2, none⟩ (.int .i64 lx)).setCell ⟨N + 1 + 1, 3, none⟩ (.int .i64 ly)).setCell ⟨N + 1 + 1, 4, none⟩ (.int .i64 lz)).drew) (N + 1) 46 #[.int .i64 0, .int .i64 0, .int .i64 0] := ((((((HB.out.1.put3 (x := (.int .i64 0)) (y := (.int .i64 0)) (z := (.int .i64 0))).beside HH.out.2.2.1 _).beside HH.out.2.2.1 _).beside HH.out.2.2.1 _).beside HH.out.2.2.1 _).beside HH.out.2.2.1 _).drawn 1
  have TT : Bx (((((((((W5.setCell ⟨N + 1, 0, none⟩ (.int .i64 0)).setCell ⟨N + 1, 1, none⟩ (.int .i64 0)).setCell ⟨N + 1, 2, none⟩ (.int .i64 0)).setCell ⟨N + 1 + 1, 0, none⟩ (.int .i64 who)).setCell ⟨N + 1 + 1, 1, none⟩ (.int .i64 phys)).setCell ⟨N + 1 + 1, 2, none⟩ (.int .i64 lx)).setCell ⟨N + 1 + 1, 3, none⟩ (.int .i64 ly)).setCell ⟨N + 1 + 1, 4, none⟩ (.int .i64 lz)).drew) (N + 1 + 1) 56 #[.int .i64 who, .int .i64 phys, .int .i64 lx, .int .i64 ly, .int .i64 lz] := (Bx.put5 (((HB.out.2.1.beside HH.out.2.2.1.symm _).beside HH.out.2.2.1.symm _).beside HH.out.2.2.1.symm _)).drawn 1
  have GG : Below N w (((((((((W5.setCell ⟨N + 1, 0, none⟩ (.int .i64 0)).setCell ⟨N + 1, 1, none⟩ (.int .i64 0)).setCell ⟨N + 1, 2, none⟩ (.int .i64 0)).setCell ⟨N + 1 + 1, 0, none⟩ (.int .i64 who)).setCell ⟨N + 1 + 1, 1, none⟩ (.int .i64 phys)).setCell ⟨N + 1 + 1, 2, none⟩ (.int .i64 lx)).setCell ⟨N + 1 + 1, 3, none⟩ (.int .i64 ly)).setCell ⟨N + 1 + 1, 4, none⟩ (.int .i64 lz)).drew) := ((((((((HB.out.2.2.setCell (by dsimp only; omega) _).setCell (by dsimp only; omega) _).setCell (by dsimp only; omega) _).setCell (by dsimp only; omega) _).setCell (by dsimp only; omega) _).setCell (by dsimp only; omega) _).setCell (by dsimp only; omega) _).setCell (by dsimp only; omega) _).drew
  generalize ((((((((W5.setCell ⟨N + 1, 0, none⟩ (.int .i64 0)).setCell ⟨N + 1, 1, none⟩ (.int .i64 0)).setCell ⟨N + 1, 2, none⟩ (.int .i64 0)).setCell ⟨N + 1 + 1, 0, none⟩ (.int .i64 who)).setCell ⟨N + 1 + 1, 1, none⟩ (.int .i64 phys)).setCell ⟨N + 1 + 1, 2, none⟩ (.int .i64 lx)).setCell ⟨N + 1 + 1, 3, none⟩ (.int .i64 ly)).setCell ⟨N + 1 + 1, 4, none⟩ (.int .i64 lz)).drew = WF at *
  obtain ⟨q0, q1, q2⟩ := RR.reads3
  obtain ⟨p0, p1, p2, p3, p4⟩ := Bx.reads5 TT
  go_wp2_with fail
  exact bodyPost_ret (v := .tuple #[.agg #[.int .i64 0, .int .i64 0, .int .i64 0], .agg #[.int .i64 who, .int .i64 phys, .int .i64 lx, .int .i64 ly, .int .i64 lz], .bool false]) (by simp [results, Try.results39, go_sem, q0, q1, q2, p0, p1, p2, p3, p4]) rfl ⟨rfl, by rw [HN.out]; exact GG⟩
set_option maxHeartbeats 4000000 in
theorem refnow_ft (k : Ck) (hk : k.Ok) (w : World) (hlt : ¬ k.last.x < k.phys) (hr : rightB k.next = true) :
    Calls Try.prog 39 #[.agg k.cells] w fun e w' => e = .returned (.tuple #[.agg k.told.cells, .agg k.now.cells, .bool (rightB k.next)]) ∧ Below w.heap.size w w' := by
  have CR := Hid.mk' (refright_any k.next)
  obtain ⟨⟨hw1, hw2⟩, ⟨hp1, hp2⟩, ⟨hx1, hx2⟩, ⟨hy1, hy2⟩, ⟨hz1, hz2⟩⟩ := hk
  unfold Ck.told Ck.now
  have hnx : k.next = ⟨k.last.x, k.last.y + 1, k.who⟩ := by unfold Ck.next; rw [if_neg hlt]
  rw [hr] at CR ⊢
  rw [hnx] at CR
  try rw [hnx]
  simp only [if_true]
  clear hr hnx
  obtain ⟨who, phys, ⟨lx, ly, lz⟩⟩ := k
  unfold Ck.cells
  unfold St.cells at *
  dsimp only at *
  have bC : Bx ((((w.alloc (.cells #[.int .i64 who, .int .i64 phys, .int .i64 lx, .int .i64 ly, .int .i64 lz] 56)).alloc (.cells #[.int .i64 0, .int .i64 0, .int .i64 0] 46)).alloc (.cells #[.int .i64 0, .int .i64 0, .int .i64 0, .int .i64 0, .int .i64 0] 56)).alloc (.cells #[.int .i64 lx, .int .i64 (ly + 1), .int .i64 who] 46)) w.heap.size 56 #[.int .i64 who, .int .i64 phys, .int .i64 lx, .int .i64 ly, .int .i64 lz] := ((((Bx.fresh w _ _).past _).past _).past _)
  have bR : Bx ((((w.alloc (.cells #[.int .i64 who, .int .i64 phys, .int .i64 lx, .int .i64 ly, .int .i64 lz] 56)).alloc (.cells #[.int .i64 0, .int .i64 0, .int .i64 0] 46)).alloc (.cells #[.int .i64 0, .int .i64 0, .int .i64 0, .int .i64 0, .int .i64 0] 56)).alloc (.cells #[.int .i64 lx, .int .i64 (ly + 1), .int .i64 who] 46)) (w.heap.size + 1) 46 #[.int .i64 0, .int .i64 0, .int .i64 0] := ((Bx.fresh' (w.alloc _) (by simp) _ _).past _).past _
  have bT : Bx ((((w.alloc (.cells #[.int .i64 who, .int .i64 phys, .int .i64 lx, .int .i64 ly, .int .i64 lz] 56)).alloc (.cells #[.int .i64 0, .int .i64 0, .int .i64 0] 46)).alloc (.cells #[.int .i64 0, .int .i64 0, .int .i64 0, .int .i64 0, .int .i64 0] 56)).alloc (.cells #[.int .i64 lx, .int .i64 (ly + 1), .int .i64 who] 46)) (w.heap.size + 1 + 1) 56 #[.int .i64 0, .int .i64 0, .int .i64 0, .int .i64 0, .int .i64 0] := (Bx.fresh' ((w.alloc _).alloc _) (by simp) _ _).past _
  have bS : Bx ((((w.alloc (.cells #[.int .i64 who, .int .i64 phys, .int .i64 lx, .int .i64 ly, .int .i64 lz] 56)).alloc (.cells #[.int .i64 0, .int .i64 0, .int .i64 0] 46)).alloc (.cells #[.int .i64 0, .int .i64 0, .int .i64 0, .int .i64 0, .int .i64 0] 56)).alloc (.cells #[.int .i64 lx, .int .i64 (ly + 1), .int .i64 who] 46)) (w.heap.size + 1 + 1 + 1) 46 #[.int .i64 lx, .int .i64 (ly + 1), .int .i64 who] := (Bx.fresh' (((w.alloc _).alloc _).alloc _) (by simp) _ _)
  have gW : Below w.heap.size w ((((w.alloc (.cells #[.int .i64 who, .int .i64 phys, .int .i64 lx, .int .i64 ly, .int .i64 lz] 56)).alloc (.cells #[.int .i64 0, .int .i64 0, .int .i64 0] 46)).alloc (.cells #[.int .i64 0, .int .i64 0, .int .i64 0, .int .i64 0, .int .i64 0] 56)).alloc (.cells #[.int .i64 lx, .int .i64 (ly + 1), .int .i64 who] 46)) := ((((Below.refl _ _).alloc (Nat.le_refl _) _).alloc (by simp) _).alloc (by simp; omega) _).alloc (by simp; omega) _
  have HI := Hid.mk' (And.intro bC (And.intro bR (And.intro bT (And.intro bS gW))))
  clear bC bR bT bS gW
  go_enter Try.func39, Try.ntmps39
  go_wp2_with fail
  obtain ⟨bC, bR, bT, bS, gW⟩ := HI.out
  clear HI
  generalize ((((w.alloc (.cells #[.int .i64 who, .int .i64 phys, .int .i64 lx, .int .i64 ly, .int .i64 lz] 56)).alloc (.cells #[.int .i64 0, .int .i64 0, .int .i64 0] 46)).alloc (.cells #[.int .i64 0, .int .i64 0, .int .i64 0, .int .i64 0, .int .i64 0] 56)).alloc (.cells #[.int .i64 lx, .int .i64 (ly + 1), .int .i64 who] 46)) = W1 at *
  generalize hN : w.heap.size = N at *
  have HN := Hid.mk' hN
  clear hN
  refine (CR.out _).mono ?_; rintro e W4 ⟨rfl, hb4⟩
  replace bC := bC.next hb4
  replace bR := bR.next hb4
  replace bT := bT.next hb4
  replace bS := bS.next hb4
  replace gW := gW.trans (hb4.mono (by have := gW.size; rw [HN.out] at this; exact this))
  clear hb4
  have HH := Hid.mk' (show N + 1 ≠ N ∧ N + 1 + 1 ≠ N ∧ N + 1 + 1 ≠ N + 1 ∧ N + 1 + 1 + 1 ≠ N ∧ N + 1 + 1 + 1 ≠ N + 1 + 1 by omega)
  obtain ⟨s0, s1, s2⟩ := Bx.reads3 bS
  obtain ⟨c0, c1, c2, c3, c4⟩ := Bx.reads5 bC
  obtain ⟨f0, f1, f2, f3, f4⟩ := Bx.opens5 bC
  go_wp2_with fail
  clear s0 s1 s2 c0 c1 c2 c3 c4 f0 f1 f2 f3 f4
  have bC3 : Bx (((W4.setCell ⟨N, 2, none⟩ (.int .i64 lx)).setCell ⟨N, 3, none⟩ (.int .i64 (ly + 1))).setCell ⟨N, 4, none⟩ (.int .i64 who)) N 56 #[.int .i64 who, .int .i64 phys, .int .i64 lx, .int .i64 (ly + 1), .int .i64 who] := ((bC.put 2 (.int .i64 lx)).put 3 (.int .i64 (ly + 1))).put 4 (.int .i64 who)
  have bS3 : Bx (((W4.setCell ⟨N, 2, none⟩ (.int .i64 lx)).setCell ⟨N, 3, none⟩ (.int .i64 (ly + 1))).setCell ⟨N, 4, none⟩ (.int .i64 who)) (N + 1 + 1 + 1) _ _ := ((bS.beside HH.out.2.2.2.1.symm _).beside HH.out.2.2.2.1.symm _).beside HH.out.2.2.2.1.symm _
  have bR3 : Bx (((W4.setCell ⟨N, 2, none⟩ (.int .i64 lx)).setCell ⟨N, 3, none⟩ (.int .i64 (ly + 1))).setCell ⟨N, 4, none⟩ (.int .i64 who)) (N + 1) _ _ := ((bR.beside HH.out.1.symm _).beside HH.out.1.symm _).beside HH.out.1.symm _
  have bT3 : Bx (((W4.setCell ⟨N, 2, none⟩ (.int .i64 lx)).setCell ⟨N, 3, none⟩ (.int .i64 (ly + 1))).setCell ⟨N, 4, none⟩ (.int .i64 who)) (N + 1 + 1) _ _ := ((bT.beside HH.out.2.1.symm _).beside HH.out.2.1.symm _).beside HH.out.2.1.symm _
  have gW3 : Below N w (((W4.setCell ⟨N, 2, none⟩ (.int .i64 lx)).setCell ⟨N, 3, none⟩ (.int .i64 (ly + 1))).setCell ⟨N, 4, none⟩ (.int .i64 who)) := ((gW.setCell (Nat.le_refl _) _).setCell (Nat.le_refl _) _).setCell (Nat.le_refl _) _
  generalize ((W4.setCell ⟨N, 2, none⟩ (.int .i64 lx)).setCell ⟨N, 3, none⟩ (.int .i64 (ly + 1))).setCell ⟨N, 4, none⟩ (.int .i64 who) = W5 at *
  clear bC bR bT bS gW
  obtain ⟨s0, s1, s2⟩ := Bx.reads3 bS3
  obtain ⟨c0, c1, c2, c3, c4⟩ := Bx.reads5 bC3
  obtain ⟨r0, r1, r2⟩ := Bx.reads3 bR3
  obtain ⟨o0, o1, o2⟩ := Bx.opens3 bR3
  obtain ⟨t0, t1, t2, t3, t4⟩ := Bx.reads5 bT3
  obtain ⟨u0, u1, u2, u3, u4⟩ := Bx.opens5 bT3
  have HB := Hid.mk' (And.intro bR3 (And.intro bT3 gW3))
  clear bR3 bT3 gW3 bC3 bS3
  go_wp2_with fail
  go_region
  clear s0 s1 s2 c0 c1 c2 c3 c4 r0 r1 r2 o0 o1 o2 t0 t1 t2 t3 t4 u0 u1 u2 u3 u4
  have RR : Bx (((((((((W5.setCell ⟨N + 1, 0, none⟩ (.int .i64 lx)).setCell ⟨N + 1, 1, none⟩ (.int .i64 (ly + 1))).setCell ⟨N + 1, 2, none⟩ (.int .i64 who)).setCell ⟨N + 1 + 1, 0, none⟩ (.int .i64 who)).setCell ⟨N + 1 + 1, 1, none⟩ (.int .i64 phys)).setCell ⟨N + 1 + 1, 2, none⟩ (.int .i64 lx)).setCell ⟨N + 1 + 1, 3, none⟩ (.int .i64 (ly + 1))).setCell ⟨N + 1 + 1, 4, none⟩ (.int .i64 who)).drew) (N + 1) 46 #[.int .i64 lx, .int .i64 (ly + 1), .int .i64 who] := ((((((HB.out.1.put3 (x := (.int .i64 lx)) (y := (.int .i64 (ly + 1))) (z := (.int .i64 who))).beside HH.out.2.2.1 _).beside HH.out.2.2.1 _).beside HH.out.2.2.1 _).beside HH.out.2.2.1 _).beside HH.out.2.2.1 _).drawn 1
  have TT : Bx (((((((((W5.setCell ⟨N + 1, 0, none⟩ (.int .i64 lx)).setCell ⟨N + 1, 1, none⟩ (.int .i64 (ly + 1))).setCell ⟨N + 1, 2, none⟩ (.int .i64 who)).setCell ⟨N + 1 + 1, 0, none⟩ (.int .i64 who)).setCell ⟨N + 1 + 1, 1, none⟩ (.int .i64 phys)).setCell ⟨N + 1 + 1, 2, none⟩ (.int .i64 lx)).setCell ⟨N + 1 + 1, 3, none⟩ (.int .i64 (ly + 1))).setCell ⟨N + 1 + 1, 4, none⟩ (.int .i64 who)).drew) (N + 1 + 1) 56 #[.int .i64 who, .int .i64 phys, .int .i64 lx, .int .i64 (ly + 1), .int .i64 who] := (Bx.put5 (((HB.out.2.1.beside HH.out.2.2.1.symm _).beside HH.out.2.2.1.symm _).beside HH.out.2.2.1.symm _)).drawn 1
  have GG : Below N w (((((((((W5.setCell ⟨N + 1, 0, none⟩ (.int .i64 lx)).setCell ⟨N + 1, 1, none⟩ (.int .i64 (ly + 1))).setCell ⟨N + 1, 2, none⟩ (.int .i64 who)).setCell ⟨N + 1 + 1, 0, none⟩ (.int .i64 who)).setCell ⟨N + 1 + 1, 1, none⟩ (.int .i64 phys)).setCell ⟨N + 1 + 1, 2, none⟩ (.int .i64 lx)).setCell ⟨N + 1 + 1, 3, none⟩ (.int .i64 (ly + 1))).setCell ⟨N + 1 + 1, 4, none⟩ (.int .i64 who)).drew) := ((((((((HB.out.2.2.setCell (by dsimp only; omega) _).setCell (by dsimp only; omega) _).setCell (by dsimp only; omega) _).setCell (by dsimp only; omega) _).setCell (by dsimp only; omega) _).setCell (by dsimp only; omega) _).setCell (by dsimp only; omega) _).setCell (by dsimp only; omega) _).drew
  generalize ((((((((W5.setCell ⟨N + 1, 0, none⟩ (.int .i64 lx)).setCell ⟨N + 1, 1, none⟩ (.int .i64 (ly + 1))).setCell ⟨N + 1, 2, none⟩ (.int .i64 who)).setCell ⟨N + 1 + 1, 0, none⟩ (.int .i64 who)).setCell ⟨N + 1 + 1, 1, none⟩ (.int .i64 phys)).setCell ⟨N + 1 + 1, 2, none⟩ (.int .i64 lx)).setCell ⟨N + 1 + 1, 3, none⟩ (.int .i64 (ly + 1))).setCell ⟨N + 1 + 1, 4, none⟩ (.int .i64 who)).drew = WF at *
  obtain ⟨q0, q1, q2⟩ := RR.reads3
  obtain ⟨p0, p1, p2, p3, p4⟩ := Bx.reads5 TT
  go_wp2_with fail
  exact bodyPost_ret (v := .tuple #[.agg #[.int .i64 lx, .int .i64 (ly + 1), .int .i64 who], .agg #[.int .i64 who, .int .i64 phys, .int .i64 lx, .int .i64 (ly + 1), .int .i64 who], .bool true]) (by simp [results, Try.results39, go_sem, q0, q1, q2, p0, p1, p2, p3, p4]) rfl ⟨rfl, by rw [HN.out]; exact GG⟩
set_option maxHeartbeats 4000000 in
theorem refnow_ff (k : Ck) (hk : k.Ok) (w : World) (hlt : ¬ k.last.x < k.phys) (hr : rightB k.next = false) :
    Calls Try.prog 39 #[.agg k.cells] w fun e w' => e = .returned (.tuple #[.agg k.told.cells, .agg k.now.cells, .bool (rightB k.next)]) ∧ Below w.heap.size w w' := by
  have CR := Hid.mk' (refright_any k.next)
  obtain ⟨⟨hw1, hw2⟩, ⟨hp1, hp2⟩, ⟨hx1, hx2⟩, ⟨hy1, hy2⟩, ⟨hz1, hz2⟩⟩ := hk
  unfold Ck.told Ck.now
  have hnx : k.next = ⟨k.last.x, k.last.y + 1, k.who⟩ := by unfold Ck.next; rw [if_neg hlt]
  rw [hr] at CR ⊢
  rw [hnx] at CR
  try rw [hnx]
  simp only [Bool.false_eq_true, if_false]
  clear hr hnx
  obtain ⟨who, phys, ⟨lx, ly, lz⟩⟩ := k
  unfold Ck.cells
  unfold St.cells at *
  unfold zeroS at *
  dsimp only at *
  have bC : Bx ((((w.alloc (.cells #[.int .i64 who, .int .i64 phys, .int .i64 lx, .int .i64 ly, .int .i64 lz] 56)).alloc (.cells #[.int .i64 0, .int .i64 0, .int .i64 0] 46)).alloc (.cells #[.int .i64 0, .int .i64 0, .int .i64 0, .int .i64 0, .int .i64 0] 56)).alloc (.cells #[.int .i64 lx, .int .i64 (ly + 1), .int .i64 who] 46)) w.heap.size 56 #[.int .i64 who, .int .i64 phys, .int .i64 lx, .int .i64 ly, .int .i64 lz] := ((((Bx.fresh w _ _).past _).past _).past _)
  have bR : Bx ((((w.alloc (.cells #[.int .i64 who, .int .i64 phys, .int .i64 lx, .int .i64 ly, .int .i64 lz] 56)).alloc (.cells #[.int .i64 0, .int .i64 0, .int .i64 0] 46)).alloc (.cells #[.int .i64 0, .int .i64 0, .int .i64 0, .int .i64 0, .int .i64 0] 56)).alloc (.cells #[.int .i64 lx, .int .i64 (ly + 1), .int .i64 who] 46)) (w.heap.size + 1) 46 #[.int .i64 0, .int .i64 0, .int .i64 0] := ((Bx.fresh' (w.alloc _) (by simp) _ _).past _).past _
  have bT : Bx ((((w.alloc (.cells #[.int .i64 who, .int .i64 phys, .int .i64 lx, .int .i64 ly, .int .i64 lz] 56)).alloc (.cells #[.int .i64 0, .int .i64 0, .int .i64 0] 46)).alloc (.cells #[.int .i64 0, .int .i64 0, .int .i64 0, .int .i64 0, .int .i64 0] 56)).alloc (.cells #[.int .i64 lx, .int .i64 (ly + 1), .int .i64 who] 46)) (w.heap.size + 1 + 1) 56 #[.int .i64 0, .int .i64 0, .int .i64 0, .int .i64 0, .int .i64 0] := (Bx.fresh' ((w.alloc _).alloc _) (by simp) _ _).past _
  have bS : Bx ((((w.alloc (.cells #[.int .i64 who, .int .i64 phys, .int .i64 lx, .int .i64 ly, .int .i64 lz] 56)).alloc (.cells #[.int .i64 0, .int .i64 0, .int .i64 0] 46)).alloc (.cells #[.int .i64 0, .int .i64 0, .int .i64 0, .int .i64 0, .int .i64 0] 56)).alloc (.cells #[.int .i64 lx, .int .i64 (ly + 1), .int .i64 who] 46)) (w.heap.size + 1 + 1 + 1) 46 #[.int .i64 lx, .int .i64 (ly + 1), .int .i64 who] := (Bx.fresh' (((w.alloc _).alloc _).alloc _) (by simp) _ _)
  have gW : Below w.heap.size w ((((w.alloc (.cells #[.int .i64 who, .int .i64 phys, .int .i64 lx, .int .i64 ly, .int .i64 lz] 56)).alloc (.cells #[.int .i64 0, .int .i64 0, .int .i64 0] 46)).alloc (.cells #[.int .i64 0, .int .i64 0, .int .i64 0, .int .i64 0, .int .i64 0] 56)).alloc (.cells #[.int .i64 lx, .int .i64 (ly + 1), .int .i64 who] 46)) := ((((Below.refl _ _).alloc (Nat.le_refl _) _).alloc (by simp) _).alloc (by simp; omega) _).alloc (by simp; omega) _
  have HI := Hid.mk' (And.intro bC (And.intro bR (And.intro bT (And.intro bS gW))))
  clear bC bR bT bS gW
  go_enter Try.func39, Try.ntmps39
  go_wp2_with fail
  obtain ⟨bC, bR, bT, bS, gW⟩ := HI.out
  clear HI
  generalize ((((w.alloc (.cells #[.int .i64 who, .int .i64 phys, .int .i64 lx, .int .i64 ly, .int .i64 lz] 56)).alloc (.cells #[.int .i64 0, .int .i64 0, .int .i64 0] 46)).alloc (.cells #[.int .i64 0, .int .i64 0, .int .i64 0, .int .i64 0, .int .i64 0] 56)).alloc (.cells #[.int .i64 lx, .int .i64 (ly + 1), .int .i64 who] 46)) = W1 at *
  generalize hN : w.heap.size = N at *
  have HN := Hid.mk' hN
  clear hN
  refine (CR.out _).mono ?_; rintro e W4 ⟨rfl, hb4⟩
  replace bC := bC.next hb4
  replace bR := bR.next hb4
  replace bT := bT.next hb4
  replace bS := bS.next hb4
  replace gW := gW.trans (hb4.mono (by have := gW.size; rw [HN.out] at this; exact this))
  clear hb4
  have HH := Hid.mk' (show N + 1 ≠ N ∧ N + 1 + 1 ≠ N ∧ N + 1 + 1 ≠ N + 1 ∧ N + 1 + 1 + 1 ≠ N ∧ N + 1 + 1 + 1 ≠ N + 1 + 1 by omega)
  obtain ⟨s0, s1, s2⟩ := Bx.reads3 bS
  obtain ⟨c0, c1, c2, c3, c4⟩ := Bx.reads5 bC
  obtain ⟨f0, f1, f2, f3, f4⟩ := Bx.opens5 bC
  clear s0 s1 s2 c0 c1 c2 c3 c4 f0 f1 f2 f3 f4
  have bC3 := bC; have bS3 := bS; have bR3 := bR; have bT3 := bT; have gW3 := gW
  clear bC bR bT bS gW
  generalize W4 = W5 at *
  obtain ⟨s0, s1, s2⟩ := Bx.reads3 bS3
  obtain ⟨c0, c1, c2, c3, c4⟩ := Bx.reads5 bC3
  obtain ⟨r0, r1, r2⟩ := Bx.reads3 bR3
  obtain ⟨o0, o1, o2⟩ := Bx.opens3 bR3
  obtain ⟨t0, t1, t2, t3, t4⟩ := Bx.reads5 bT3
  obtain ⟨u0, u1, u2, u3, u4⟩ := Bx.opens5 bT3
  have HB := Hid.mk' (And.intro bR3 (And.intro bT3 gW3))
  clear bR3 bT3 gW3 bC3 bS3
  go_wp2_with fail
  go_region
  clear s0 s1 s2 c0 c1 c2 c3 c4 r0 r1 r2 o0 o1 o2 t0 t1 t2 t3 t4 u0 u1 u2 u3 u4
  have RR : Bx (((((((((W5.setCell ⟨N + 1, 0, none⟩ (.int .i64 0)).setCell ⟨N + 1, 1, none⟩ (.int .i64 0)).setCell ⟨N + 1, 2, none⟩ (.int .i64 0)).setCell ⟨N + 1 + 1, 0, none⟩ (.int .i64 who)).setCell ⟨N + 1 + 1, 1, none⟩ (.int .i64 phys)).setCell ⟨N + 1 + 1, 2, none⟩ (.int .i64 lx)).setCell ⟨N + 1 + 1, 3, none⟩ (.int .i64 ly)).setCell ⟨N + 1 + 1, 4, none⟩ (.int .i64 lz)).drew) (N + 1) 46 #[.int .i64 0, .int .i64 0, .int .i64 0] := ((((((HB.out.1.put3 (x := (.int .i64 0)) (y := (.int .i64 0)) (z := (.int .i64 0))).beside HH.out.2.2.1 _).beside HH.out.2.2.1 _).beside HH.out.2.2.1 _).beside HH.out.2.2.1 _).beside HH.out.2.2.1 _).drawn 1
  have TT : Bx (((((((((W5.setCell ⟨N + 1, 0, none⟩ (.int .i64 0)).setCell ⟨N + 1, 1, none⟩ (.int .i64 0)).setCell ⟨N + 1, 2, none⟩ (.int .i64 0)).setCell ⟨N + 1 + 1, 0, none⟩ (.int .i64 who)).setCell ⟨N + 1 + 1, 1, none⟩ (.int .i64 phys)).setCell ⟨N + 1 + 1, 2, none⟩ (.int .i64 lx)).setCell ⟨N + 1 + 1, 3, none⟩ (.int .i64 ly)).setCell ⟨N + 1 + 1, 4, none⟩ (.int .i64 lz)).drew) (N + 1 + 1) 56 #[.int .i64 who, .int .i64 phys, .int .i64 lx, .int .i64 ly, .int .i64 lz] := (Bx.put5 (((HB.out.2.1.beside HH.out.2.2.1.symm _).beside HH.out.2.2.1.symm _).beside HH.out.2.2.1.symm _)).drawn 1
  have GG : Below N w (((((((((W5.setCell ⟨N + 1, 0, none⟩ (.int .i64 0)).setCell ⟨N + 1, 1, none⟩ (.int .i64 0)).setCell ⟨N + 1, 2, none⟩ (.int .i64 0)).setCell ⟨N + 1 + 1, 0, none⟩ (.int .i64 who)).setCell ⟨N + 1 + 1, 1, none⟩ (.int .i64 phys)).setCell ⟨N + 1 + 1, 2, none⟩ (.int .i64 lx)).setCell ⟨N + 1 + 1, 3, none⟩ (.int .i64 ly)).setCell ⟨N + 1 + 1, 4, none⟩ (.int .i64 lz)).drew) := ((((((((HB.out.2.2.setCell (by dsimp only; omega) _).setCell (by dsimp only; omega) _).setCell (by dsimp only; omega) _).setCell (by dsimp only; omega) _).setCell (by dsimp only; omega) _).setCell (by dsimp only; omega) _).setCell (by dsimp only; omega) _).setCell (by dsimp only; omega) _).drew
  generalize ((((((((W5.setCell ⟨N + 1, 0, none⟩ (.int .i64 0)).setCell ⟨N + 1, 1, none⟩ (.int .i64 0)).setCell ⟨N + 1, 2, none⟩ (.int .i64 0)).setCell ⟨N + 1 + 1, 0, none⟩ (.int .i64 who)).setCell ⟨N + 1 + 1, 1, none⟩ (.int .i64 phys)).setCell ⟨N + 1 + 1, 2, none⟩ (.int .i64 lx)).setCell ⟨N + 1 + 1, 3, none⟩ (.int .i64 ly)).setCell ⟨N + 1 + 1, 4, none⟩ (.int .i64 lz)).drew = WF at *
  obtain ⟨q0, q1, q2⟩ := RR.reads3
  obtain ⟨p0, p1, p2, p3, p4⟩ := Bx.reads5 TT
  go_wp2_with fail
  exact bodyPost_ret (v := .tuple #[.agg #[.int .i64 0, .int .i64 0, .int .i64 0], .agg #[.int .i64 who, .int .i64 phys, .int .i64 lx, .int .i64 ly, .int .i64 lz], .bool false]) (by simp [results, Try.results39, go_sem, q0, q1, q2, p0, p1, p2, p3, p4]) rfl ⟨rfl, by rw [HN.out]; exact GG⟩
theorem refnow_any (k : Ck) (hk : k.Ok) (w : World) :
    Calls Try.prog 39 #[.agg k.cells] w fun e w' => e = .returned (.tuple #[.agg k.told.cells, .agg k.now.cells, .bool (rightB k.next)]) ∧ Below w.heap.size w w' := by
  by_cases hlt : k.last.x < k.phys
  · cases hr : rightB k.next with
    | true => rw [← hr]; exact refnow_tt k hk w hlt hr
    | false => rw [← hr]; exact refnow_tf k hk w hlt hr
  · cases hr : rightB k.next with
    | true => rw [← hr]; exact refnow_ft k hk w hlt hr
    | false => rw [← hr]; exact refnow_ff k hk w hlt hr
end Go.Proofs.Ytnkgicjclngnpaa
