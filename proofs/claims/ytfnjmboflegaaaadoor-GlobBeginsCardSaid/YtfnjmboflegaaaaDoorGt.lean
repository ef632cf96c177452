/- Layer 38 (glob): a class, by definition. -/
import Derived.Test.YtfnjmboflegaaaaDoorGr
import Derived.Test.YtfnjmboflegaaaaDoorGs
namespace Go.Proofs.YtfnjmboflegaaaaDoor
open Go.RowKit

theorem rclass_any (v : Value) (l : List Int) (hl : l.length ≤ 200) (w : World) (h : RS w v l) : Calls Tryd.prog 27 #[v] w (RClsPost w l) := by
  cases l with
  | nil => exact rclass_nil v hl w h
  | cons a t =>
    by_cases ha : a = 94
    · subst ha; exact rclass_hat v t hl w h
    · exact rclass_plain v a t ha hl w h
end Go.Proofs.YtfnjmboflegaaaaDoor
