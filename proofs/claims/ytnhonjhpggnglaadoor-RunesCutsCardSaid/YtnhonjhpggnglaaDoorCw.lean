/- Layer 1 (runes): the statement on how many runes, and the first so many. -/
import Derived.Test.YtnhonjhpggnglaaDoorCu
import Derived.Test.YtnhonjhpggnglaaDoorAl
import Derived.Deep.QuietTactic
import Derived.BigQuiet
import Derived.WalkSmall
import Derived.Lib.QuietBelow
namespace Go.Proofs.YtnhonjhpggnglaaDoor
open Go.RowKit

set_option maxHeartbeats 1000000 in
theorem cutslaw (s : ByteArray) (n : Int) (hs : s.size ≤ maxLen) (hn : -9223372036854775808 ≤ n ∧ n ≤ 9223372036854775807) (w : World) (hT : Tb w) :
    Calls Tryd.prog 4 #[.string s, .int .i64 n] w fun e w' => e = .returned (.bool true) ∧ Below w.heap.size w w' := by
  unfold maxLen at hs
  by_cases hl : 2000 < s.size
  · go_enter Tryd.func4, Tryd.ntmps4
    go_wp2_with fail
    go_ret
    exact ⟨rfl, Below.refl _ _⟩
  · have hle := cutP_le s n
    have hparts := cnt_parts s n
    have hrun := runes_cnt s
    have hcl := cntF_le s s.size 0
    rw [show cntF s s.size 0 = cnt s from rfl] at hcl
    have hc1 : cnt (s.extract 0 (cutP s n)) ≤ 2000 := by omega
    have hc2 : cnt (s.extract (cutP s n) s.size) ≤ 2000 := by omega
    have hsz1 : (s.extract 0 (cutP s n)).size = cutP s n := by rw [ByteArray.size_extract]; omega
    have hsz2 : (s.extract (cutP s n) s.size).size = s.size - cutP s n := by rw [ByteArray.size_extract]; omega
    have CK := Hid.mk' (cut_any s n (by omega) hn)
    have CR := Hid.mk' (refcut_any s n (by omega) hn)
    have CN := Hid.mk' (count_any s (by omega))
    have CN1 := Hid.mk' (count_any (s.extract 0 (cutP s n)) (by omega))
    have CN2 := Hid.mk' (count_any (s.extract (cutP s n) s.size) (by omega))
    have hcv : ∀ w, (convert 9 26 (.string s)).run Tryd.prog w = _ := fun w => run_runes_of_string (P := Tryd.prog) w 9 26 21 s Tryd.underlying9 Tryd.underlying26 Tryd.underlying21 (by rw [hrun]; omega)
    rw [hrun] at hcv
    generalize s.extract 0 (cutP s n) = c at *
    rw [← hsz1] at CN2 hle hparts hc2
    go_enter Tryd.func4, Tryd.ntmps4
    go_wp2_with fail
    refine (CK.out _).mono ?_; rintro e w1 ⟨rfl, hb1⟩
    have hT1 := hT.next hb1
    go_wp2_with fail
    refine (CR.out _ hT1).mono ?_; rintro e w2 ⟨rfl, hb2⟩
    have below2 := bnext hb1 hb2
    clear hb1 hb2 hT1 hT
    go_wp2_with fail
    refine (CN.out _).mono ?_; rintro e w3 ⟨rfl, hb3⟩
    have below3 := bnext below2 hb3
    clear below2 hb3
    go_wp2_with fail
    generalize hW : (w3.alloc (.cells (Conv.runesFrom s s.size 0 #[] ++ Array.replicate (grownCap w3 (cnt s) 0 21 - cnt s) (Value.int IntKind.i32 0)) 21)).drew = W
    have below4 : Below w.heap.size w W := by rw [← hW]; exact (below3.alloc below3.size _).drew
    clear hW below3 hcv CK CR hrun
    have c1 : ∀ d os, Calls Tryd.prog 13 #[.string c] (Go.Sort.grow (Go.redrawn W d) os) fun e w'' => e = .returned (.int .i64 (cnt c)) ∧ ∃ p : Go.Regrown, w'' = Go.Sort.grow (Go.redrawn W p.d) p.os := fun d os => Calls.regrown_of (CN1.out _)
    have c2 : ∀ d os, Calls Tryd.prog 13 #[.string (s.extract c.size s.size)] (Go.Sort.grow (Go.redrawn W d) os) fun e w'' => e = .returned (.int .i64 (cnt (s.extract c.size s.size))) ∧ ∃ p : Go.Regrown, w'' = Go.Sort.grow (Go.redrawn W p.d) p.os := fun d os => Calls.regrown_of (CN2.out _)
    have c3 : ∀ d os, Calls Tryd.prog 13 #[.string s] (Go.Sort.grow (Go.redrawn W d) os) fun e w'' => e = .returned (.int .i64 (cnt s)) ∧ ∃ p : Go.Regrown, w'' = Go.Sort.grow (Go.redrawn W p.d) p.os := fun d os => Calls.regrown_of (CN.out _)
    have cA : ∀ d os, Calls Tryd.prog 10 #[] (Go.Sort.grow (Go.redrawn W d) os) fun e w'' => e = .returned (.bool true) ∧ ∃ p : Go.Regrown, w'' = Go.Sort.grow (Go.redrawn W p.d) p.os := fun d os => Calls.regrown_of (alive1_any _)
    clear hsz1
    have C1 := Hid.mk' c1
    have C2 := Hid.mk' c2
    have C3 := Hid.mk' c3
    have CA := Hid.mk' cA
    have hw1 : IntKind.i64.wrap ((cnt c : Int) + (cnt (s.extract c.size s.size) : Int)) = (cnt s : Int) := by rw [← hparts]; simp only [IntKind.wrap, IntKind.bits, IntKind.signed]; push_cast; first | omega | (simp; omega) | trace_state
    have heq : (((cnt s : Nat) : Int) == (cnt s : Int)) = true := by simp
    clear c1 c2 c3 cA CN CN1 CN2
    refine Go.wp_region_quiet_below (by kernel_rfl) (by kernel_rfl) ?_
    repeat (quiet_step (first | with_reducible exact C1.out _ _ | with_reducible exact C2.out _ _ | with_reducible exact C3.out _ _ | with_reducible exact CA.out _ _))
    refine wpQuiet_nil ?_
    intro _ hw'
    obtain ⟨⟨dq, osq⟩, hw''⟩ := hw'
    subst hw''
    go_wp2
    go_ret
    exact ⟨rfl, below4.trans ((Go.below_regrown W dq osq).mono below4.size)⟩
end Go.Proofs.YtnhonjhpggnglaaDoor
