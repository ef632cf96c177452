/- Layer 38 (glob): Right, by definition. -/
import Derived.Test.YtfnjmboflegaaaaDoorGq
namespace Go.Proofs.YtfnjmboflegaaaaDoor
open Go.RowKit

set_option maxHeartbeats 1000000 in
theorem rright_any (s : ByteArray) (hs : s.size ≤ maxLen) (w : World) (hT : Tb w) : Calls Tryd.prog 7 #[.string s] w fun e w' => e = .returned (.bool (patS s).isSome) ∧ Below w.heap.size w w' := by
  have C := Hid.mk' (rparts_any s hs w hT)
  generalize patS s = r at *
  clear hs hT
  go_enter Tryd.func7, Tryd.ntmps7
  go_wp2_with fail
  refine C.out.mono ?_; rintro e w1 ⟨pv, b, rfl, hb1, hres⟩
  have hr : b = r.isSome := by
    rcases hres with ⟨rfl, rfl⟩ | ⟨q, rfl, rfl, _⟩ <;> rfl
  have HR := Hid.mk' (And.intro hr hb1)
  clear hr hres hb1
  go_wp2_with fail
  go_ret
  exact ⟨by rw [← HR.out.1]; rfl, HR.out.2⟩
end Go.Proofs.YtfnjmboflegaaaaDoor
