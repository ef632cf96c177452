/- Layer 4 (stamp): how two stamps stand; what may be: plain words, and the calls that read alone. -/
import Derived.Test.YtljhnkcoknikgaaKs
import Derived.Test.YtljhnkcoknikgaaProg
import Derived.Deep.QuietTactic
import Derived.BigQuiet
import Derived.WalkSmall
import Derived.Lib.QuietBelow
import Derived.WalkLawsBesides
import Derived.WalkSpells
namespace Go.Proofs.Ytljhnkcoknikgaa
open Go.RowKit

def cmpI (x y : Int) : Int := if x < y then -1 else if y < x then 1 else 0
/-- A stamp. -/
structure St where
  x : Int
  y : Int
  z : Int
def St.cells (s : St) : Array Value := #[.int .i64 s.x, .int .i64 s.y, .int .i64 s.z]
def cmpS (a b : St) : Int := if cmpI a.x b.x ≠ 0 then cmpI a.x b.x else if cmpI a.y b.y ≠ 0 then cmpI a.y b.y else cmpI a.z b.z
def cut (n : Int) : Int := min (max n 0) 1099511627776

theorem cmpint_any (x y : Int) (w : World) :
    Calls Try.prog 69 #[.int .i64 x, .int .i64 y] w fun e w' => e = .returned (.int .i64 (cmpI x y)) ∧ w = w' := by
  by_cases h1 : x < y
  · go_enter Try.func69, Try.ntmps69
    go_wp2
    go_ret
    exact ⟨ret_int (by simp [cmpI, h1]), rfl⟩
  · by_cases h2 : y < x
    · go_enter Try.func69, Try.ntmps69
      go_wp2
      go_ret
      exact ⟨ret_int (by simp [cmpI, h1, h2]), rfl⟩
    · go_enter Try.func69, Try.ntmps69
      go_wp2
      go_ret
      exact ⟨ret_int (by unfold cmpI; rw [if_neg (by omega), if_neg (by omega)]), rfl⟩
theorem cmpint_same (x y : Int) (w : World) :
    Calls Try.prog 69 #[.int .i64 x, .int .i64 y] w fun e w' => e = .returned (.int .i64 (cmpI x y)) ∧ w' = w := (cmpint_any x y w).mono fun _ _ ⟨a, b⟩ => ⟨a, b.symm⟩

end Go.Proofs.Ytljhnkcoknikgaa
