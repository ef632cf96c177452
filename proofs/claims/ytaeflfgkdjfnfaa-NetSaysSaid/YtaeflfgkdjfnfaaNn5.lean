/- Layer 22 (net): Len, Double, and the law's alive, by the code. -/
import Derived.Test.YtaeflfgkdjfnfaaNn4
namespace Go.Proofs.Ytaeflfgkdjfnfaa
open Go.RowKit

theorem len_net (N n c : Nat) (a : Option Addr) (w : World) (h : w.cell? ⟨N, 0, none⟩ = some (.slice a n c)) : Calls Try.prog 88 #[.pointer (some ⟨N, 0, none⟩)] w fun e w' => e = .returned (.int .i64 n) ∧ Below w.heap.size w w' := by
  go_enter Try.func88, Try.ntmps88
  go_wp2_with fail
  all_goals
    go_ret
    first
      | exact ⟨rfl, Below.refl _ _⟩
      | exact ⟨rfl, (Below.refl _ _).drew⟩
set_option maxRecDepth 100000 in
set_option maxHeartbeats 8000000 in
theorem double_zero (w0 : World) (N : Nat) (v : Value) (hN : w0.heap.size ≤ N) (w : World) (h : NW w0 w N v [1, 2]) : Calls Try.prog 87 #[.pointer (some ⟨N, 0, none⟩), .int .i64 0] w fun e w' => e = .returned (.bool true) ∧ ∃ v', NW w0 w' N v' [1, 2, 1] ∧ Kp w w' N v := by
  have HH := Lib.hid h
  have CA := Lib.hid (fun W H => at_zero w0 N v W H)
  have CS := Lib.hid (fun W H => send_beat w0 N v [1, 2] 1 (by decide) hN W H)
  clear h
  go_enter Try.func87, Try.ntmps87
  go_wp2_with fail
  refine (CA.out _ HH.out).mono ?_
  rintro _ w1 ⟨rfl, hb1⟩
  have H1 := Lib.hid (HH.out.next hb1)
  have K1 := Lib.hid (show ∀ B T cs, Bx w B T cs → Bx w1 B T cs from fun B T cs hx => hx.next hb1)
  clear hb1 HH CA
  go_wp2_with fail
  refine (CS.out _ (H1.out.next ((Below.refl _ _).alloc (Nat.le_refl _) _))).mono ?_
  rintro _ w2 ⟨rfl, v2, h2, k2⟩
  have H2 := Lib.hid h2
  have K2 := Lib.hid (show Kp w w2 N v from fun B T cs hx hn hv => k2 B T cs ((K1.out B T cs hx).past _) hn hv)
  clear h2 k2 H1 K1 CS
  go_wp2_with fail
  all_goals
    go_ret
    exact ⟨rfl, v2, H2.out, K2.out⟩
set_option maxRecDepth 100000 in
set_option maxHeartbeats 8000000 in
theorem alive_net (w : World) : Calls Try.prog 20 #[] w fun e w' => e = .returned (.bool true) ∧ Below w.heap.size w w' := by
  have H0 := Lib.hid (show NW w (w.alloc (.cells #[.slice none 0 0, .int .i64 0] 142)) w.heap.size (.slice none 0 0) [] from ⟨Bx.fresh w _ _, ⟨rfl, .inl ⟨rfl, rfl⟩⟩, (Below.refl _ _).alloc (Nat.le_refl _) _⟩)
  have C1 := Lib.hid (fun W H => send_beat w w.heap.size (.slice none 0 0) [] 1 (by decide) (Nat.le_refl _) W H)
  have C2 := Lib.hid (fun v W H => send_beat w w.heap.size v [1] 2 (by decide) (Nat.le_refl _) W H)
  have C3 := Lib.hid (fun v W H => at_neg w w.heap.size v W H)
  have C4 := Lib.hid (fun v W H => double_zero w w.heap.size v (Nat.le_refl _) W H)
  have C6 := Lib.hid (fun W => msgBeat 2 (.agg #[]) W)
  go_enter Try.func20, Try.ntmps20
  go_wp2_with fail
  refine (C1.out _ H0.out).mono ?_
  rintro _ w1 ⟨rfl, v1, h1, _⟩
  have H1 := Lib.hid h1
  clear h1 H0 C1
  go_wp2_with fail
  refine (C2.out _ _ H1.out).mono ?_
  rintro _ w2 ⟨rfl, v2, h2, _⟩
  have H2 := Lib.hid h2
  clear h2 H1 C2
  go_wp2_with fail
  refine (C3.out _ _ H2.out).mono ?_
  rintro _ w3 ⟨rfl, hb3⟩
  have H3 := Lib.hid (H2.out.next hb3)
  clear hb3 H2 C3
  go_wp2_with fail
  refine (C4.out _ _ (H3.out.next ((Below.refl _ _).alloc (Nat.le_refl _) _))).mono ?_
  rintro _ w4 ⟨rfl, v4, h4, k4⟩
  have hx4 : Bx w4 w3.heap.size 43 #[.int .i64 2, .int .i64 0, .int .i64 0, .bool false, .bool false, .bool false, .bool false, .bool false, .int .i64 0, .int .i64 0, .int .i64 0, .int .i64 0, .int .i64 0, .int .i64 0, .int .i64 0, .int .i64 0, .iface 145 (.agg #[])] := k4 _ _ _ (Bx.fresh w3 _ _) (by have := H3.out.1.inside; omega) (fun e => by have := (World.ownsRow.lt H3.out.2.1 _ e).2; omega)
  have X4 := Lib.hid hx4
  clear k4 hx4
  have H4 := Lib.hid h4
  obtain ⟨g4, c4, rfl, _, _⟩ := World.ownsRow.form h4.2.1 (by decide)
  clear h4 H3 C4
  go_wp2_with fail
  refine (len_net _ 3 c4 (some ⟨g4, 0, none⟩) _ (H4.out.1.read (i := 0) rfl)).mono ?_
  rintro _ w5 ⟨rfl, hb5⟩
  have H5 := Lib.hid (H4.out.next hb5)
  obtain ⟨x0, x1, x2, x3, x4, x5, x6, x7, x8, x9, x10, x11, x12, x13, x14, x15, x16⟩ := (X4.out.next hb5).reads17
  clear hb5 H4 X4
  go_wp2_with fail
  refine (C6.out _).mono ?_
  rintro _ w6 ⟨rfl, hb6⟩
  have H6 := Lib.hid (H5.out.next hb6)
  clear hb6 H5 C6
  go_wp2_with fail
  all_goals
    go_ret
    exact ⟨rfl, H6.out.2.2⟩
end Go.Proofs.Ytaeflfgkdjfnfaa
