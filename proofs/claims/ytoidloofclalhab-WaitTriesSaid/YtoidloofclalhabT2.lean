/- Layer 48 (wait): within, cut, what is drawn. -/
import Derived.Test.YtoidloofclalhabT1
import Derived.Test.YtoidloofclalhabKg
import Derived.Test.YtoidloofclalhabProg
import Derived.Test.YtoidloofclalhabChecked
import Derived.WalkKit
import Derived.WalkSmall
import Derived.WalkSpells
import Derived.Outline
import Derived.Lib.Hide
import Derived.LoopTactic
import Derived.RegionTactic
import Derived.BigRegion
import Derived.Deep.QuietTactic
import Derived.BigQuiet
import Derived.ChangeAlike
import Derived.IntWalk
namespace Go.Proofs.Ytoidloofclalhab
open Go.RowKit

theorem bcell {W w1 : World} (hb : Below W.heap.size W w1) : (∀ b o, b < W.heap.size → w1.cell? ⟨b, o, none⟩ = W.cell? ⟨b, o, none⟩) ∧ (∀ b o, b < W.heap.size → w1.frozen? ⟨b, o, none⟩ = W.frozen? ⟨b, o, none⟩) :=
  ⟨fun b o h => hb.cell (p := ⟨b, o, none⟩) h, fun b o h => hb.frozen (p := ⟨b, o, none⟩) h⟩
theorem within_any (a b c : Int) (w : World) :
    Calls Try.prog 54 #[.int .i64 a, .int .i64 b, .int .i64 c] w fun e w' => e = .returned (.int .i64 (clampI a b c)) ∧ w = w' := by
  unfold clampI
  go_enter Try.func54, Try.ntmps54
  go_wp2_with fail
  go_ret
  exact ⟨ret_int (by omega), rfl⟩
theorem cut_any (a b c : Int) (w : World) :
    Calls Try.prog 42 #[.int .i64 a, .int .i64 b, .int .i64 c] w fun e w' => e = .returned (.int .i64 (clampI a b c)) ∧ w = w' := by
  unfold clampI
  go_enter Try.func42, Try.ntmps42
  go_wp2_with fail
  go_ret
  exact ⟨ret_int (by omega), rfl⟩
theorem within_same (a b c : Int) (w : World) :
    Calls Try.prog 54 #[.int .i64 a, .int .i64 b, .int .i64 c] w fun e w' => e = .returned (.int .i64 (clampI a b c)) ∧ w' = w := (within_any a b c w).mono fun _ _ ⟨h, h2⟩ => ⟨h, h2.symm⟩
theorem cut_same (a b c : Int) (w : World) :
    Calls Try.prog 42 #[.int .i64 a, .int .i64 b, .int .i64 c] w fun e w' => e = .returned (.int .i64 (clampI a b c)) ∧ w' = w := (cut_any a b c w).mono fun _ _ ⟨h, h2⟩ => ⟨h, h2.symm⟩
def mixA (x : Int) : Int := bits .xor .u32 x (x / 65536) * 569420461 % 4294967296
def mixB (x : Int) : Int := bits .xor .u32 x (x / 32768) * 1935289751 % 4294967296
def mixC (x : Int) : Int := bits .xor .u32 x (x / 32768)
/-- What is drawn for a try. -/
def drI (s t : Int) : Int := mixC (mixB (mixA ((s + (t + 1) * 2654435769) % 4294967296)))
theorem wrap32_bd (n : Int) : 0 ≤ IntKind.u32.wrap n ∧ IntKind.u32.wrap n < 4294967296 := by
  unfold IntKind.wrap IntKind.signed IntKind.bits
  simp
  omega
theorem drI_bd (s t : Int) : 0 ≤ drI s t ∧ drI s t < 4294967296 := by
  unfold drI mixC bits
  exact wrap32_bd _
theorem drawn_any (s t : Int) (hs : 0 ≤ s ∧ s < 4294967296) (ht : 0 ≤ t ∧ t ≤ 1073741824) (w : World) :
    Calls Try.prog 56 #[.int .u32 s, .int .i64 t] w fun e w' => e = .returned (.int .u32 (drI s t)) ∧ w = w' := by
  obtain ⟨hs1, hs2⟩ := hs
  obtain ⟨ht1, ht2⟩ := ht
  unfold drI mixC mixB mixA
  go_enter Try.func56, Try.ntmps56
  go_wp2_with fail
  go_ret
  exact ⟨rfl, rfl⟩
/-- A wait as a value. -/
def wv (F M s : Int) : Value := .agg #[.int .i64 F, .int .i64 M, .int .u32 s]
set_option maxHeartbeats 1000000 in
theorem draw_any (F M s t : Int) (hs : 0 ≤ s ∧ s < 4294967296) (w : World) :
    Calls Try.prog 55 #[wv F M s, .int .i64 t] w fun e w' => e = .returned (.int .u32 (drI s (clampI t 0 1073741824))) ∧ Below w.heap.size w w' := by
  have hb := clamp_bd t 0 1073741824 (by omega)
  have HC := Lib.hid (fun W => within_same t 0 1073741824 W)
  generalize clampI t 0 1073741824 = k at *
  obtain ⟨hs1, hs2⟩ := hs
  obtain ⟨ht1, ht2⟩ := hb
  have hw1 : IntKind.i64.wrap (k + 1) = k + 1 := IntWalk.i64_in _ (by omega)
  unfold wv drI mixC mixB mixA
  go_enter Try.func55, Try.ntmps55
  go_wp2_with fail
  go_quiet ((go_at_call 54; exact Calls.quiet_of_same (HC.out _)))
  go_wp2_with fail
  go_ret
  exact ⟨rfl, below_drewN ((Below.refl _ _).alloc (Nat.le_refl _) _) _⟩
end Go.Proofs.Ytoidloofclalhab
