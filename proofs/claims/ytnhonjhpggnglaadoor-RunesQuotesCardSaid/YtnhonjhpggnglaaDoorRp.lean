/- Layer 1 (runes): the statement on quotes. -/
import Derived.Test.YtnhonjhpggnglaaDoorRo
namespace Go.Proofs.YtnhonjhpggnglaaDoor
open Go.RowKit

theorem un_yes (q : ByteArray) (h : isQ q) : unS q = ofB q ∧ unOk q = true := by
  have h1 := un_some q _ (un_isQ q h)
  rw [mkN_of] at h1
  refine ⟨h1.1, ?_⟩
  rw [h1.2, h.2]; simp
theorem un_no (q : ByteArray) (h : ¬ isQ q) : unOk q = false := by
  unfold unOk
  split
  · rw [beq_eq_false_iff_ne]
    intro e
    exact h (isQ_of _ q (bytes_inj' (by rw [← ByteArray.toList_eq, ← ByteArray.toList_eq]; exact e))).1
  · rfl

set_option maxHeartbeats 1000000 in
theorem quoteslaw (s q : ByteArray) (hs : s.size ≤ maxLen) (hq : q.size ≤ maxLen) (w : World) (hT : Tb w) :
    Calls Tryd.prog 5 #[.string s, .string q] w fun e w' => e = .returned (.bool true) ∧ Below w.heap.size w w' := by
  unfold maxLen at hs hq
  by_cases hl : 2000 < s.size
  · go_enter Tryd.func5, Tryd.ntmps5
    go_wp2_with fail
    go_ret
    exact ⟨rfl, Below.refl _ _⟩
  · by_cases hl2 : 2000 < q.size
    · go_enter Tryd.func5, Tryd.ntmps5
      go_wp2_with fail
      go_ret
      exact ⟨rfl, Below.refl _ _⟩
    · have CS := Hid.mk' (quote_any s (by omega))
      have CR := Hid.mk' (refquote_any s (by omega))
      have C2 := refun_any q (by omega)
      by_cases h : isQ q
      · have C1 := Hid.mk' (unq_yes q (by omega) h)
        rw [(un_yes q h).1, (un_yes q h).2] at C2
        have C3 := Hid.mk' C2
        clear C2 h
        generalize ofB q = t at *
        generalize quoteB s = k at *
        go_enter Tryd.func5, Tryd.ntmps5
        go_wp2_with fail
        refine (C1.out _).mono ?_; rintro e w1 ⟨rfl, hb1⟩
        go_wp2_with fail
        refine (C3.out _ (hT.next hb1)).mono ?_; rintro e w2 ⟨rfl, hb2⟩
        have below2 := bnext hb1 hb2
        clear hb1 hb2
        go_wp2_with fail
        refine (CS.out _).mono ?_; rintro e w3 ⟨rfl, hb3⟩
        have below3 := bnext below2 hb3
        clear below2 hb3
        go_wp2_with fail
        refine (CR.out _ (hT.next below3)).mono ?_; rintro e w4 ⟨rfl, hb4⟩
        have below4 := bnext below3 hb4
        clear below3 hb4
        go_wp2_with fail
        refine (alive1_any _).mono ?_; rintro e w7 ⟨rfl, hb7⟩
        go_wp2_with fail
        go_ret
        exact ⟨rfl, bnext below4 hb7⟩
      · have C1 := Hid.mk' (unq_no q (by omega) h)
        rw [un_no q h] at C2
        have C3 := Hid.mk' C2
        clear C2 h
        generalize unS q = t at *
        generalize quoteB s = k at *
        go_enter Tryd.func5, Tryd.ntmps5
        go_wp2_with fail
        refine (C1.out _).mono ?_; rintro e w1 ⟨rfl, hb1⟩
        go_wp2_with fail
        refine (C3.out _ (hT.next hb1)).mono ?_; rintro e w2 ⟨rfl, hb2⟩
        have below2 := bnext hb1 hb2
        clear hb1 hb2
        go_wp2_with fail
        refine (CS.out _).mono ?_; rintro e w3 ⟨rfl, hb3⟩
        have below3 := bnext below2 hb3
        clear below2 hb3
        go_wp2_with fail
        refine (CR.out _ (hT.next below3)).mono ?_; rintro e w4 ⟨rfl, hb4⟩
        have below4 := bnext below3 hb4
        clear below3 hb4
        go_wp2_with fail
        refine (alive1_any _).mono ?_; rintro e w7 ⟨rfl, hb7⟩
        go_wp2_with fail
        go_ret
        exact ⟨rfl, bnext below4 hb7⟩
end Go.Proofs.YtnhonjhpggnglaaDoor
