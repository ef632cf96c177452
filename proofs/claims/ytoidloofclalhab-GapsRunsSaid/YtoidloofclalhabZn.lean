/- Layer 47 (gaps): the statement GapsRuns' walk. -/
import Derived.Test.YtoidloofclalhabZj
namespace Go.Proofs.Ytoidloofclalhab
open Go.RowKit

set_option maxRecDepth 100000 in
set_option maxHeartbeats 2000000 in
theorem lfollows_any (b off n cap : Nat) (i : Nat) (a x : Int) (h0 : 0 < i) (hi : i < n) (hn : n ≤ 10000) (ha : IZ a) (hx : IZ x) (w : World) (c0 : w.cell? ⟨b, off + (i - 1), none⟩ = some (.int .i64 a)) (c1 : w.cell? ⟨b, off + i, none⟩ = some (.int .i64 x)) :
    Calls Try.prog 35 #[.slice (some ⟨b, off, none⟩) n cap, .int .i64 i] w fun e w' => e = .returned (.bool (fol a x)) ∧ ∃ m, w' = w.drewN m := by
  obtain ⟨ha0, ha1⟩ := ha
  obtain ⟨hx0, hx1⟩ := hx
  have hf : fol a x = decide (a < x ∧ a + 1 = x) := rfl
  generalize fol a x = r at *
  have i1 : (1 : Int) ≤ (i : Int) := by omega
  have i2 : (i : Int) < (n : Int) := by omega
  by_cases h1 : a < x
  · have hr : r = (x - 1 == a) := by
      rw [hf, Bool.eq_iff_iff]
      simp [h1]
      omega
    have HR := Lib.hid hr
    have d1 : decide (a < x) = true := by simpa using h1
    have s1 : IntKind.i64.wrap (x - 1) = x - 1 := IntWalk.i64_in _ (by omega)
    have s2 : IntKind.i64.wrap ((i : Int) - 1) = (i : Int) - 1 := IntWalk.i64_in _ (by omega)
    clear hf hr
    go_enter Try.func35, Try.ntmps35
    go_wp2_with fail
    go_quiet (fail)
    go_wp2_with fail
    go_ret
    exact ⟨by rw [HR.out]; rfl, _, rfl⟩
  · have hr : r = false := by rw [hf]; simp; omega
    have HR := Lib.hid hr
    have d1 : decide (a < x) = false := by simpa using h1
    have s2 : IntKind.i64.wrap ((i : Int) - 1) = (i : Int) - 1 := IntWalk.i64_in _ (by omega)
    clear hf hr
    go_enter Try.func35, Try.ntmps35
    go_wp2_with fail
    go_quiet (fail)
    go_wp2_with fail
    go_ret
    exact ⟨by rw [HR.out]; rfl, _, rfl⟩
end Go.Proofs.Ytoidloofclalhab
