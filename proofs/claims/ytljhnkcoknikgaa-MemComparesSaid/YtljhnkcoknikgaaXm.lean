/- Layer 13 (mem): with, at trees of up to two nodes. -/
import Derived.Test.YtljhnkcoknikgaaXl
namespace Go.Proofs.Ytljhnkcoknikgaa
open Go.RowKit

set_option maxRecDepth 100000 in
set_option maxHeartbeats 4000000 in
theorem with_nil (t kd ex x y z : Int) (mk en val : ByteArray) (w : World) : Calls Try.prog 119 #[.pointer none, .agg #[.int .i64 t, .int .i64 kd, .string mk, .string en, .string val, .int .i64 ex, .int .i64 x, .int .i64 y, .int .i64 z, .slice none 0 0]] w fun e w' => ∃ g, e = .returned (.tuple #[.pointer (some ⟨g, 0, none⟩), .bool true]) ∧ Bx w' g 166 #[.int .i64 t, .int .i64 kd, .string mk, .string en, .string val, .int .i64 ex, .int .i64 x, .int .i64 y, .int .i64 z, .slice none 0 0, .pointer none, .pointer none, .int .i64 1] ∧ w.heap.size ≤ g ∧ Below w.heap.size w w' := by
  have hb0 : Below w.heap.size w (w.alloc (.cells #[.int .i64 t, .int .i64 kd, .string mk, .string en, .string val, .int .i64 ex, .int .i64 x, .int .i64 y, .int .i64 z, .slice none 0 0] 40)) := (Below.refl _ _).alloc (Nat.le_refl _) _
  have HB := Lib.hid hb0
  have CY := Lib.hid (fun W => copy0_any t kd ex x y z mk en val W)
  have CJ := Lib.hid (fun W => join_nn t kd ex x y z mk en val W)
  clear hb0
  go_enter Try.func119, Try.ntmps119
  go_wp2_with fail
  refine (CY.out _).mono ?_; rintro e w1 ⟨rfl, hb1⟩
  have H1 := Lib.hid (bnext HB.out hb1)
  clear hb1
  go_wp2_with fail
  refine (CJ.out _).mono ?_; rintro e w2 ⟨g, rfl, hx, hg, hb⟩
  have HF := Lib.hid (And.intro hx (And.intro (Nat.le_trans H1.out.size hg) (bnext H1.out hb)))
  clear hx hg hb
  go_wp2_with fail
  go_ret2
  exact ⟨_, rfl, HF.out⟩
def muA : Mu := ⟨1, 1, ⟨#[97]⟩, ⟨#[]⟩, ⟨#[]⟩, 0, ⟨2, 0, 0⟩, []⟩
def muB : Mu := ⟨1, 1, ⟨#[98]⟩, ⟨#[]⟩, ⟨#[]⟩, 0, ⟨1, 0, 0⟩, []⟩
theorem si_nil (w : World) : SI w (.slice none 0 0) [] := ⟨none, 0, rfl, Nat.le_refl _, fun _ => rfl, fun h => absurd rfl h⟩
theorem comp_ab (w : World) : Calls Try.prog 29 #[.agg #[.int .i64 1, .int .i64 1, .string ⟨#[97]⟩, .string ⟨#[]⟩, .string ⟨#[]⟩, .int .i64 0, .int .i64 2, .int .i64 0, .int .i64 0, .slice none 0 0], .agg #[.int .i64 1, .int .i64 1, .string ⟨#[98]⟩, .string ⟨#[]⟩, .string ⟨#[]⟩, .int .i64 0, .int .i64 1, .int .i64 0, .int .i64 0, .slice none 0 0]] w fun e w' => e = .returned (.int .i64 (-1)) ∧ Below w.heap.size w w' :=
  (kcompare_any muA muB (.slice none 0 0) (.slice none 0 0) (by decide) (by decide) w (si_nil w) (si_nil w)).mono fun e w' ⟨h1, h2⟩ => ⟨by rw [h1, show cmpK muA muB = -1 from by decide +kernel], h2⟩
end Go.Proofs.Ytljhnkcoknikgaa
