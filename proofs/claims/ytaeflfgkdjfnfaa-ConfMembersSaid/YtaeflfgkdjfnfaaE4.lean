/- Layer 21 (conf): a configuration stored whole; the chapter's example. -/
import Derived.Test.YtaeflfgkdjfnfaaE3
namespace Go.Proofs.Ytaeflfgkdjfnfaa
open Go.RowKit

/-- What held ahead of a call holds behind it, if it is of old memory. -/
theorem Calls.kept {P : Program} {f : FuncId} {args : Array Value} {W : World} {v : Value} {S : World → Prop} (h : Calls P f args W fun e w' => e = .returned v ∧ Below W.heap.size W w') (hS : S W) (hk : ∀ w', Below W.heap.size W w' → S W → S w') : Calls P f args W fun e w' => e = .returned v ∧ S w' :=
  h.mono fun _ _ ⟨he, hb⟩ => ⟨he, hk _ hb hS⟩
set_option maxRecDepth 100000 in
set_option maxHeartbeats 4000000 in
theorem alive21_any (w : World) : Calls Try.prog 27 #[] w fun e w' => e = .returned (.bool true) ∧ Below w.heap.size w w' := by
  have CX : Hid (∀ W, Calls Try.prog 25 #[.agg #[.int .i64 0, .bool false, .bool false, .bool false, .bool false, .bool false, .int .i64 0, .int .i64 0, .int .i64 0, .int .i64 0, .int .i64 0], .int .i64 1] W fun e w' => e = .returned (.tuple #[.agg #[.int .i64 1, .bool false, .bool true, .bool false, .bool false, .bool false, .int .i64 0, .int .i64 0, .int .i64 0, .int .i64 0, .int .i64 0], .bool true]) ∧ Below W.heap.size W w') := Lib.hid (fun W => cf_excl ⟨0, false, false, false, false, false, 0, 0, 0, 0, 0⟩ 1 (by decide) W)
  have CI : Hid (∀ W, Calls Try.prog 26 #[.agg #[.int .i64 1, .bool false, .bool true, .bool false, .bool false, .bool false, .int .i64 0, .int .i64 0, .int .i64 0, .int .i64 0, .int .i64 0], .int .i64 1] W fun e w' => e = .returned (.tuple #[.agg #[.int .i64 2, .bool false, .bool false, .bool false, .bool false, .bool false, .int .i64 0, .int .i64 2, .int .i64 0, .int .i64 0, .int .i64 0], .bool true]) ∧ Below W.heap.size W w') := Lib.hid (fun W => cf_incl ⟨1, false, true, false, false, false, 0, 0, 0, 0, 0⟩ 1 (by decide) W)
  go_enter Try.func27, Try.ntmps27
  go_wp2_with fail
  refine (CX.out _).mono ?_; rintro _ w1 ⟨rfl, hb1⟩
  have H1 := Lib.hid hb1
  clear hb1
  go_wp2_with fail
  refine (Calls.kept (S := fun W => Below w.heap.size w W ∧ Bx W w1.heap.size 39 #[.int .i64 1, .bool false, .bool true, .bool false, .bool false, .bool false, .int .i64 0, .int .i64 0, .int .i64 0, .int .i64 0, .int .i64 0]) (CI.out _) ⟨(H1.out).alloc (by have := H1.out.size; omega) _, Bx.fresh w1 _ _⟩ (fun w' hb hS => ⟨hS.1.trans (hb.mono hS.1.size), hS.2.next hb⟩)).mono ?_; rintro _ w2 ⟨rfl, hb2, hx2⟩
  have H2 := Lib.hid hb2
  obtain ⟨x0, x1, x2, x3, x4, x5, x6, x7, x8, x9, x10⟩ := hx2.reads11
  have hlt := hx2.inside
  have hne : ¬ (w1.heap.size = w2.heap.size) := by omega
  have hne2 : ¬ (w2.heap.size = w1.heap.size) := by omega
  clear hb2 hx2 H1 CX CI
  go_wp2_with fail
  go_ret
  exact ⟨rfl, (H2.out).alloc H2.out.size _⟩
end Go.Proofs.Ytaeflfgkdjfnfaa
