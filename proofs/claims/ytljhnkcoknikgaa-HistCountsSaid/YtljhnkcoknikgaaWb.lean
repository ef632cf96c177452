/- The walks of layer 2 (nums): reading numbers. -/
import Derived.Test.YtljhnkcoknikgaaWa
import Derived.Laws.RangeAny
import Derived.Lib.RabinKarpLaws
namespace Go.Proofs.Ytljhnkcoknikgaa
open Go.RowKit

theorem isDig_iff (c : UInt8) : isDig c = true ↔ 48 ≤ c.toNat ∧ c.toNat ≤ 57 := by simp [isDig]

def readVal (s : ByteArray) : Int := if okNum s.data.toList then num s.data.toList else 0
def readErr (s : ByteArray) : Int := if okNum s.data.toList then 0 else 20
theorem read_no (s : ByteArray) (h : okNum s.data.toList = false) : readVal s = 0 ∧ readErr s = 20 := by simp [readVal, readErr, h]
theorem read_yes (s : ByteArray) (h : okNum s.data.toList = true) : readVal s = num s.data.toList ∧ readErr s = 0 := by simp [readVal, readErr, h]

end Go.Proofs.Ytljhnkcoknikgaa
