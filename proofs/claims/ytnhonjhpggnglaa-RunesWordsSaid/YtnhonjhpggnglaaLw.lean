/- Layer 1 (runes): the statement on words and lines. -/
import Derived.Test.YtnhonjhpggnglaaAl
namespace Go.Proofs.Ytnhonjhpggnglaa
open Go.RowKit

theorem wd_len : ∀ (l : List UInt8) (D : List (List UInt8)) (cur : List UInt8) (m : Nat), (wdRun l D cur m).length ≤ D.length + l.length + 1
  | [], D, cur, m => by rw [wdRun]; split <;> simp
  | c :: r, D, cur, m => by
    have h := fun D' cur' m' => wd_len r D' cur' m'
    rw [wdRun]
    simp only [List.length_cons]
    repeat' split
    all_goals (refine Nat.le_trans (h _ _ _) ?_; (try simp only [List.length_append, List.length_cons, List.length_nil]); omega)
theorem words_len (s : ByteArray) : (wordsL s.data.toList).length ≤ s.size + 1 := by
  have := wd_len s.data.toList [] [] 0
  rw [len_data] at this
  unfold wordsL; simpa using this
theorem lines_len (s : ByteArray) : (linesL s.data.toList).length ≤ s.size + 1 := by
  have := lns_len s.data.toList
  rw [len_data] at this
  unfold linesL; split <;> (try simp only [List.length_append, List.length_cons, List.length_nil]) <;> omega

set_option maxHeartbeats 1000000 in
theorem wordslaw (s : ByteArray) (hs : s.size ≤ maxLen) (w : World) :
    Calls Try.prog 4 #[.string s] w fun e w' => e = .returned (.bool true) ∧ Below w.heap.size w w' := by
  unfold maxLen at hs
  by_cases hl : 2000 < s.size
  · go_enter Try.func4, Try.ntmps4
    go_wp2_with fail
    go_ret
    exact ⟨rfl, Below.refl _ _⟩
  · have hwl := words_len s
    have hll := lines_len s
    have C1 := Hid.mk' (words_any s (by omega))
    have C2 := Hid.mk' (refwords_any s (by omega))
    have C3 := Hid.mk' (lines_any s (by omega))
    have C4 := Hid.mk' (reflines_any s (by omega))
    generalize wordsL s.data.toList = W at *
    generalize linesL s.data.toList = L at *
    go_enter Try.func4, Try.ntmps4
    go_wp2_with fail
    refine (C1.out _).mono ?_; rintro e w1 ⟨v1, rfl, hown1, hb1⟩
    have r1 := Rd.of_own hown1
    clear hown1
    go_wp2_with fail
    refine (C2.out _).mono ?_; rintro e w2 ⟨v2, rfl, hown2, hb2⟩
    have r2 := Rd.of_own hown2
    have r1' := r1.next hb2
    have below2 := bnext hb1 hb2
    clear hown2 hb1 hb2 r1
    go_wp2_with fail
    refine (same_yes _ _ _ (by omega) _ r1' r2).mono ?_; rintro e w3 ⟨rfl, hb3⟩
    have below3 := bnext below2 hb3
    clear below2 hb3 r1' r2
    go_wp2_with fail
    refine (C3.out _).mono ?_; rintro e w4 ⟨v4, rfl, hown4, hb4⟩
    have r4 := Rd.of_own hown4
    have below4 := bnext below3 hb4
    clear hown4 below3 hb4
    go_wp2_with fail
    refine (C4.out _).mono ?_; rintro e w5 ⟨v5, rfl, hown5, hb5⟩
    have r5 := Rd.of_own hown5
    have r4' := r4.next hb5
    have below5 := bnext below4 hb5
    clear hown5 below4 hb5 r4
    go_wp2_with fail
    refine (same_yes _ _ _ (by omega) _ r4' r5).mono ?_; rintro e w6 ⟨rfl, hb6⟩
    have below6 := bnext below5 hb6
    clear below5 hb6 r4' r5
    go_wp2_with fail
    refine (alive1_any _).mono ?_; rintro e w7 ⟨rfl, hb7⟩
    go_wp2_with fail
    go_ret
    exact ⟨rfl, bnext below6 hb7⟩
end Go.Proofs.Ytnhonjhpggnglaa
