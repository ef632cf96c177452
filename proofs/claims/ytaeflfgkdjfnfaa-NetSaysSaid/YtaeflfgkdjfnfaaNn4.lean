/- Layer 22 (net): place, At, by the code. -/
import Derived.Test.YtaeflfgkdjfnfaaNn3
namespace Go.Proofs.Ytaeflfgkdjfnfaa
open Go.RowKit

set_option maxHeartbeats 4000000 in
theorem place_neg (N c : Nat) (a : Option Addr) (w : World) (h : w.cell? ⟨N, 0, none⟩ = some (.slice a 2 c)) : Calls Try.prog 144 #[.pointer (some ⟨N, 0, none⟩), .int .i64 (-1)] w fun e w' => e = .returned (.tuple #[.int .i64 1, .bool true]) ∧ Below w.heap.size w w' := by
  go_enter Try.func144, Try.ntmps144
  go_wp2_with fail
  all_goals
    go_ret2
    first
      | exact ⟨rfl, Below.refl _ _⟩
      | exact ⟨rfl, (Below.refl _ _).drew⟩
      | exact ⟨rfl, (Below.refl _ _).drew.drew⟩
set_option maxHeartbeats 4000000 in
theorem place_zero (N c : Nat) (a : Option Addr) (w : World) (h : w.cell? ⟨N, 0, none⟩ = some (.slice a 2 c)) : Calls Try.prog 144 #[.pointer (some ⟨N, 0, none⟩), .int .i64 (0)] w fun e w' => e = .returned (.tuple #[.int .i64 0, .bool true]) ∧ Below w.heap.size w w' := by
  go_enter Try.func144, Try.ntmps144
  go_wp2_with fail
  all_goals
    go_ret2
    first
      | exact ⟨rfl, Below.refl _ _⟩
      | exact ⟨rfl, (Below.refl _ _).drew⟩
      | exact ⟨rfl, (Below.refl _ _).drew.drew⟩

set_option maxRecDepth 100000 in
set_option maxHeartbeats 2000000 in
theorem res17At {W : World} {g : Nat} {a0 a1 a2 a3 a4 a5 a6 a7 a8 a9 a10 a11 a12 a13 a14 a15 a16 b : Value} {tmps : Array Value} (h : Bx W g 43 #[a0, a1, a2, a3, a4, a5, a6, a7, a8, a9, a10, a11, a12, a13, a14, a15, a16]) (ht : tmps[4]? = some (.pointer (some ⟨g, 0, none⟩))) (h5 : tmps[5]? = some b) : (results Try.f86 tmps).run Try.prog W = .ok (.tuple #[.agg #[a0, a1, a2, a3, a4, a5, a6, a7, a8, a9, a10, a11, a12, a13, a14, a15, a16], b]) W := by
  obtain ⟨x0, x1, x2, x3, x4, x5, x6, x7, x8, x9, x10, x11, x12, x13, x14, x15, x16⟩ := h.reads17
  clear h
  simp [results, Try.results86, ht, h5, go_sem, x0, x1, x2, x3, x4, x5, x6, x7, x8, x9, x10, x11, x12, x13, x14, x15, x16]
set_option maxRecDepth 100000 in
set_option maxHeartbeats 8000000 in
theorem at_neg (w0 : World) (N : Nat) (v : Value) (w : World) (h : NW w0 w N v [1, 2]) : Calls Try.prog 86 #[.pointer (some ⟨N, 0, none⟩), .int .i64 (-1)] w fun e w' => e = .returned (.tuple #[.agg #[.int .i64 2, .int .i64 0, .int .i64 0, .bool false, .bool false, .bool false, .bool false, .bool false, .int .i64 0, .int .i64 0, .int .i64 0, .int .i64 0, .int .i64 0, .int .i64 0, .int .i64 0, .int .i64 0, .iface 145 (.agg #[])], .bool true]) ∧ Below w.heap.size w w' := by
  obtain ⟨g, c, rfl, _, _⟩ := World.ownsRow.form h.2.1 (by decide)
  have y0 := h.1.read (i := 0) (v := .slice (some ⟨g, 0, none⟩) 2 c) rfl
  have HH := Lib.hid h
  have P := Lib.hid (fun W H => place_neg N c (some ⟨g, 0, none⟩) W H)
  have OW := Lib.hid (fun W => ownMsg 2 W)
  clear h
  go_enter Try.func86, Try.ntmps86
  go_wp2_with fail
  refine (P.out _ (HH.out.1.past _ |>.read (i := 0) rfl)).mono ?_
  rintro _ w1 ⟨rfl, hb1⟩
  have hbA : Below w.heap.size w w1 := bnext ((Below.refl _ _).alloc (Nat.le_refl _) _) hb1
  have hN1 := HH.out.next hbA
  have q1 := hN1.1.read (i := 0) (v := .slice (some ⟨g, 0, none⟩) 2 c) rfl
  have hy1 : Bx w1 w.heap.size 43 #[.int .i64 0, .int .i64 0, .int .i64 0, .bool false, .bool false, .bool false, .bool false, .bool false, .int .i64 0, .int .i64 0, .int .i64 0, .int .i64 0, .int .i64 0, .int .i64 0, .int .i64 0, .int .i64 0, .nilIface] := (Bx.fresh w _ _).next hb1
  have HB := Lib.hid (And.intro hbA hy1)
  obtain ⟨x0, x1, x2, x3, x4, x5, x6, x7, x8, x9, x10, x11, x12, x13, x14, x15, x16⟩ : w1.cell? ⟨g, 17, none⟩ = some (.int .i64 2) ∧ w1.cell? ⟨g, 18, none⟩ = some (.int .i64 0) ∧ w1.cell? ⟨g, 19, none⟩ = some (.int .i64 0) ∧ w1.cell? ⟨g, 20, none⟩ = some (.bool false) ∧ w1.cell? ⟨g, 21, none⟩ = some (.bool false) ∧ w1.cell? ⟨g, 22, none⟩ = some (.bool false) ∧ w1.cell? ⟨g, 23, none⟩ = some (.bool false) ∧ w1.cell? ⟨g, 24, none⟩ = some (.bool false) ∧ w1.cell? ⟨g, 25, none⟩ = some (.int .i64 0) ∧ w1.cell? ⟨g, 26, none⟩ = some (.int .i64 0) ∧ w1.cell? ⟨g, 27, none⟩ = some (.int .i64 0) ∧ w1.cell? ⟨g, 28, none⟩ = some (.int .i64 0) ∧ w1.cell? ⟨g, 29, none⟩ = some (.int .i64 0) ∧ w1.cell? ⟨g, 30, none⟩ = some (.int .i64 0) ∧ w1.cell? ⟨g, 31, none⟩ = some (.int .i64 0) ∧ w1.cell? ⟨g, 32, none⟩ = some (.int .i64 0) ∧ w1.cell? ⟨g, 33, none⟩ = some (.iface 145 (.agg #[])) := ⟨(World.ownsRow.cellAt hN1.2.1 17 (by decide)).trans rfl, (World.ownsRow.cellAt hN1.2.1 18 (by decide)).trans rfl, (World.ownsRow.cellAt hN1.2.1 19 (by decide)).trans rfl, (World.ownsRow.cellAt hN1.2.1 20 (by decide)).trans rfl, (World.ownsRow.cellAt hN1.2.1 21 (by decide)).trans rfl, (World.ownsRow.cellAt hN1.2.1 22 (by decide)).trans rfl, (World.ownsRow.cellAt hN1.2.1 23 (by decide)).trans rfl, (World.ownsRow.cellAt hN1.2.1 24 (by decide)).trans rfl, (World.ownsRow.cellAt hN1.2.1 25 (by decide)).trans rfl, (World.ownsRow.cellAt hN1.2.1 26 (by decide)).trans rfl, (World.ownsRow.cellAt hN1.2.1 27 (by decide)).trans rfl, (World.ownsRow.cellAt hN1.2.1 28 (by decide)).trans rfl, (World.ownsRow.cellAt hN1.2.1 29 (by decide)).trans rfl, (World.ownsRow.cellAt hN1.2.1 30 (by decide)).trans rfl, (World.ownsRow.cellAt hN1.2.1 31 (by decide)).trans rfl, (World.ownsRow.cellAt hN1.2.1 32 (by decide)).trans rfl, (World.ownsRow.cellAt hN1.2.1 33 (by decide)).trans rfl⟩
  clear hbA hN1 hy1 hb1 P y0 HH
  go_wp2_with fail
  refine (OW.out _).mono ?_
  rintro _ w2 ⟨rfl, hb2⟩
  have hy2 := HB.out.2.next hb2
  have H2 := Lib.hid (And.intro (bnext HB.out.1 hb2) hy2)
  obtain ⟨f0, f1, f2, f3, f4, f5, f6, f7, f8, f9, f10, f11, f12, f13, f14, f15, f16⟩ := hy2.opens17
  obtain ⟨y0, y1, y2, y3, y4, y5, y6, y7, y8, y9, y10, y11, y12, y13, y14, y15, y16⟩ := hy2.reads17
  clear hb2 hy2 x0 x1 x2 x3 x4 x5 x6 x7 x8 x9 x10 x11 x12 x13 x14 x15 x16 q1 HB OW
  go_wp2_with fail
  (try simp only [Exit.inBlock, Exit.then])
  refine bodyPost_ret (res17At (g := w.heap.size) (put17 H2.out.2) (by simp) (by simp)) rfl ⟨rfl, ?_⟩
  have hB1 := H2.out.1
  iterate 16 (refine Below.setCell ?_ (by exact Nat.le_refl _) _)
  exact hB1.setCell (by exact Nat.le_refl _) _
set_option maxRecDepth 100000 in
set_option maxHeartbeats 8000000 in
theorem at_zero (w0 : World) (N : Nat) (v : Value) (w : World) (h : NW w0 w N v [1, 2]) : Calls Try.prog 86 #[.pointer (some ⟨N, 0, none⟩), .int .i64 (0)] w fun e w' => e = .returned (.tuple #[.agg #[.int .i64 1, .int .i64 0, .int .i64 0, .bool false, .bool false, .bool false, .bool false, .bool false, .int .i64 0, .int .i64 0, .int .i64 0, .int .i64 0, .int .i64 0, .int .i64 0, .int .i64 0, .int .i64 0, .iface 145 (.agg #[])], .bool true]) ∧ Below w.heap.size w w' := by
  obtain ⟨g, c, rfl, _, _⟩ := World.ownsRow.form h.2.1 (by decide)
  have y0 := h.1.read (i := 0) (v := .slice (some ⟨g, 0, none⟩) 2 c) rfl
  have HH := Lib.hid h
  have P := Lib.hid (fun W H => place_zero N c (some ⟨g, 0, none⟩) W H)
  have OW := Lib.hid (fun W => ownMsg 1 W)
  clear h
  go_enter Try.func86, Try.ntmps86
  go_wp2_with fail
  refine (P.out _ (HH.out.1.past _ |>.read (i := 0) rfl)).mono ?_
  rintro _ w1 ⟨rfl, hb1⟩
  have hbA : Below w.heap.size w w1 := bnext ((Below.refl _ _).alloc (Nat.le_refl _) _) hb1
  have hN1 := HH.out.next hbA
  have q1 := hN1.1.read (i := 0) (v := .slice (some ⟨g, 0, none⟩) 2 c) rfl
  have hy1 : Bx w1 w.heap.size 43 #[.int .i64 0, .int .i64 0, .int .i64 0, .bool false, .bool false, .bool false, .bool false, .bool false, .int .i64 0, .int .i64 0, .int .i64 0, .int .i64 0, .int .i64 0, .int .i64 0, .int .i64 0, .int .i64 0, .nilIface] := (Bx.fresh w _ _).next hb1
  have HB := Lib.hid (And.intro hbA hy1)
  obtain ⟨x0, x1, x2, x3, x4, x5, x6, x7, x8, x9, x10, x11, x12, x13, x14, x15, x16⟩ : w1.cell? ⟨g, 0, none⟩ = some (.int .i64 1) ∧ w1.cell? ⟨g, 1, none⟩ = some (.int .i64 0) ∧ w1.cell? ⟨g, 2, none⟩ = some (.int .i64 0) ∧ w1.cell? ⟨g, 3, none⟩ = some (.bool false) ∧ w1.cell? ⟨g, 4, none⟩ = some (.bool false) ∧ w1.cell? ⟨g, 5, none⟩ = some (.bool false) ∧ w1.cell? ⟨g, 6, none⟩ = some (.bool false) ∧ w1.cell? ⟨g, 7, none⟩ = some (.bool false) ∧ w1.cell? ⟨g, 8, none⟩ = some (.int .i64 0) ∧ w1.cell? ⟨g, 9, none⟩ = some (.int .i64 0) ∧ w1.cell? ⟨g, 10, none⟩ = some (.int .i64 0) ∧ w1.cell? ⟨g, 11, none⟩ = some (.int .i64 0) ∧ w1.cell? ⟨g, 12, none⟩ = some (.int .i64 0) ∧ w1.cell? ⟨g, 13, none⟩ = some (.int .i64 0) ∧ w1.cell? ⟨g, 14, none⟩ = some (.int .i64 0) ∧ w1.cell? ⟨g, 15, none⟩ = some (.int .i64 0) ∧ w1.cell? ⟨g, 16, none⟩ = some (.iface 145 (.agg #[])) := ⟨(World.ownsRow.cellAt hN1.2.1 0 (by decide)).trans rfl, (World.ownsRow.cellAt hN1.2.1 1 (by decide)).trans rfl, (World.ownsRow.cellAt hN1.2.1 2 (by decide)).trans rfl, (World.ownsRow.cellAt hN1.2.1 3 (by decide)).trans rfl, (World.ownsRow.cellAt hN1.2.1 4 (by decide)).trans rfl, (World.ownsRow.cellAt hN1.2.1 5 (by decide)).trans rfl, (World.ownsRow.cellAt hN1.2.1 6 (by decide)).trans rfl, (World.ownsRow.cellAt hN1.2.1 7 (by decide)).trans rfl, (World.ownsRow.cellAt hN1.2.1 8 (by decide)).trans rfl, (World.ownsRow.cellAt hN1.2.1 9 (by decide)).trans rfl, (World.ownsRow.cellAt hN1.2.1 10 (by decide)).trans rfl, (World.ownsRow.cellAt hN1.2.1 11 (by decide)).trans rfl, (World.ownsRow.cellAt hN1.2.1 12 (by decide)).trans rfl, (World.ownsRow.cellAt hN1.2.1 13 (by decide)).trans rfl, (World.ownsRow.cellAt hN1.2.1 14 (by decide)).trans rfl, (World.ownsRow.cellAt hN1.2.1 15 (by decide)).trans rfl, (World.ownsRow.cellAt hN1.2.1 16 (by decide)).trans rfl⟩
  clear hbA hN1 hy1 hb1 P y0 HH
  go_wp2_with fail
  refine (OW.out _).mono ?_
  rintro _ w2 ⟨rfl, hb2⟩
  have hy2 := HB.out.2.next hb2
  have H2 := Lib.hid (And.intro (bnext HB.out.1 hb2) hy2)
  obtain ⟨f0, f1, f2, f3, f4, f5, f6, f7, f8, f9, f10, f11, f12, f13, f14, f15, f16⟩ := hy2.opens17
  obtain ⟨y0, y1, y2, y3, y4, y5, y6, y7, y8, y9, y10, y11, y12, y13, y14, y15, y16⟩ := hy2.reads17
  clear hb2 hy2 x0 x1 x2 x3 x4 x5 x6 x7 x8 x9 x10 x11 x12 x13 x14 x15 x16 q1 HB OW
  go_wp2_with fail
  (try simp only [Exit.inBlock, Exit.then])
  refine bodyPost_ret (res17At (g := w.heap.size) (put17 H2.out.2) (by simp) (by simp)) rfl ⟨rfl, ?_⟩
  have hB1 := H2.out.1
  iterate 16 (refine Below.setCell ?_ (by exact Nat.le_refl _) _)
  exact hB1.setCell (by exact Nat.le_refl _) _

end Go.Proofs.Ytaeflfgkdjfnfaa
