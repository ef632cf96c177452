/- Layer 21 (conf): the statement ConfTurns' walk, whole. -/
import Derived.Test.YtaeflfgkdjfnfaaE5
import Derived.Test.YtaeflfgkdjfnfaaEa
import Derived.Test.YtaeflfgkdjfnfaaEb
import Derived.Test.YtaeflfgkdjfnfaaEc
import Derived.Test.YtaeflfgkdjfnfaaEd
import Derived.Test.YtaeflfgkdjfnfaaEe
import Derived.Test.YtaeflfgkdjfnfaaE7
namespace Go.Proofs.Ytaeflfgkdjfnfaa
open Go.RowKit

theorem turnslaw (e : Int) (o0 o1 o2 o3 o4 : Bool) (j0 j1 j2 j3 j4 n : Int) (h0 : -9223372036854775808 ≤ e) (w : World) : Calls Try.prog 5 #[.agg #[.int .i64 e, .bool o0, .bool o1, .bool o2, .bool o3, .bool o4, .int .i64 j0, .int .i64 j1, .int .i64 j2, .int .i64 j3, .int .i64 j4], .int .i64 n] w fun e w' => e = .returned (.bool true) ∧ Below w.heap.size w w' := by
  rcases places n with h | h | rfl | rfl | rfl | rfl | rfl
  · exact turns_no e o0 o1 o2 o3 o4 j0 j1 j2 j3 j4 n (.inl h) h0 w
  · exact turns_no e o0 o1 o2 o3 o4 j0 j1 j2 j3 j4 n (.inr h) h0 w
  · by_cases hm : e < 1099511627776
    · cases o0 with
      | true => exact turns_0om e o1 o2 o3 o4 j0 j1 j2 j3 j4 h0 hm w
      | false => exact turns_0im e o1 o2 o3 o4 j0 j1 j2 j3 j4 h0 hm w
    · cases o0 with
      | true => exact turns_0of e o1 o2 o3 o4 j0 j1 j2 j3 j4 h0 hm w
      | false => exact turns_0if e o1 o2 o3 o4 j0 j1 j2 j3 j4 h0 hm w
  · by_cases hm : e < 1099511627776
    · cases o1 with
      | true => exact turns_1om e o0 o2 o3 o4 j0 j1 j2 j3 j4 h0 hm w
      | false => exact turns_1im e o0 o2 o3 o4 j0 j1 j2 j3 j4 h0 hm w
    · cases o1 with
      | true => exact turns_1of e o0 o2 o3 o4 j0 j1 j2 j3 j4 h0 hm w
      | false => exact turns_1if e o0 o2 o3 o4 j0 j1 j2 j3 j4 h0 hm w
  · by_cases hm : e < 1099511627776
    · cases o2 with
      | true => exact turns_2om e o0 o1 o3 o4 j0 j1 j2 j3 j4 h0 hm w
      | false => exact turns_2im e o0 o1 o3 o4 j0 j1 j2 j3 j4 h0 hm w
    · cases o2 with
      | true => exact turns_2of e o0 o1 o3 o4 j0 j1 j2 j3 j4 h0 hm w
      | false => exact turns_2if e o0 o1 o3 o4 j0 j1 j2 j3 j4 h0 hm w
  · by_cases hm : e < 1099511627776
    · cases o3 with
      | true => exact turns_3om e o0 o1 o2 o4 j0 j1 j2 j3 j4 h0 hm w
      | false => exact turns_3im e o0 o1 o2 o4 j0 j1 j2 j3 j4 h0 hm w
    · cases o3 with
      | true => exact turns_3of e o0 o1 o2 o4 j0 j1 j2 j3 j4 h0 hm w
      | false => exact turns_3if e o0 o1 o2 o4 j0 j1 j2 j3 j4 h0 hm w
  · by_cases hm : e < 1099511627776
    · cases o4 with
      | true => exact turns_4om e o0 o1 o2 o3 j0 j1 j2 j3 j4 h0 hm w
      | false => exact turns_4im e o0 o1 o2 o3 j0 j1 j2 j3 j4 h0 hm w
    · cases o4 with
      | true => exact turns_4of e o0 o1 o2 o3 j0 j1 j2 j3 j4 h0 hm w
      | false => exact turns_4if e o0 o1 o2 o3 j0 j1 j2 j3 j4 h0 hm w
theorem turnslaw' (v : Value) (n : Int) (w : World) (h : ConfV v) : Calls Try.prog 5 #[v, .int .i64 n] w fun e w' => e = .returned (.bool true) ∧ Below w.heap.size w w' := by
  obtain ⟨e, o0, o1, o2, o3, o4, j0, j1, j2, j3, j4, rfl, hw⟩ := h
  exact turnslaw e o0 o1 o2 o3 o4 j0 j1 j2 j3 j4 n (wf_low hw) w
end Go.Proofs.Ytaeflfgkdjfnfaa
