/- Layer 1 (runes): what a text in quotes is of; the statement on quotes. -/
import Derived.Test.YtnhonjhpggnglaaBk
import Derived.Test.YtnhonjhpggnglaaAl
namespace Go.Proofs.Ytnhonjhpggnglaa
open Go.RowKit

set_option maxHeartbeats 1000000 in
theorem unquote_any (s : ByteArray) (hs : s.size ≤ 2000) (w : World) : Calls Try.prog 9 #[.string (quoteB s)] w fun e w' => e = .returned (.tuple #[.string s, .int .i64 0]) ∧ Below w.heap.size w w' := by
  have hq := quoteB_size s
  have hb := body_len s
  have hp := plain_quote s
  have hi : ((quoteB s).extract 1 ((quoteB s).size - 1)).size ≤ 20000 := by rw [ByteArray.size_extract]; omega
  have CP := Hid.mk' (plain_any _ hi)
  have CQ := Hid.mk' (quote_any s (by omega))
  rw [hp] at CP
  generalize quoteB s = q at *
  go_enter Try.func9, Try.ntmps9
  go_wp2_with fail
  rw [show q.size - 1 = (bodyB s).length + 1 from by omega] at CP
  refine (CP.out _).mono ?_; rintro e w1 ⟨rfl, hb1⟩
  go_wp2_with fail
  refine (CQ.out _).mono ?_; rintro e w2 ⟨rfl, hb2⟩
  have below2 := bnext hb1 hb2
  go_wp2_with fail
  go_ret2
  exact ⟨rfl, below2⟩

set_option maxHeartbeats 1000000 in
theorem backlaw (s : ByteArray) (hs : s.size ≤ maxLen) (w : World) :
    Calls Try.prog 3 #[.string s] w fun e w' => e = .returned (.bool true) ∧ Below w.heap.size w w' := by
  unfold maxLen at hs
  by_cases hl : 2000 < s.size
  · go_enter Try.func3, Try.ntmps3
    go_wp2_with fail
    go_ret
    exact ⟨rfl, Below.refl _ _⟩
  · have hq := quoteB_size s
    have hb := body_len s
    have hline := words_line s
    have CQ := Hid.mk' (quote_any s (by omega))
    have CU := Hid.mk' (unquote_any s (by omega))
    generalize quoteB s = q at *
    have CW := Hid.mk' (words_any ((⟨#[32, 32]⟩ : ByteArray) ++ q ++ ⟨#[32]⟩ ++ q ++ ⟨#[32, 120]⟩) (by
      have e1 : (⟨#[32, 32]⟩ : ByteArray).size = 2 := rfl
      have e2 : (⟨#[32]⟩ : ByteArray).size = 1 := rfl
      have e3 : (⟨#[32, 120]⟩ : ByteArray).size = 2 := rfl
      simp only [ByteArray.size_append]; omega))
    rw [hline] at CW
    clear hline
    go_enter Try.func3, Try.ntmps3
    go_wp2_with fail
    refine (CQ.out _).mono ?_; rintro e w1 ⟨rfl, hb1⟩
    go_wp2_with fail
    refine (CU.out _).mono ?_; rintro e w2 ⟨rfl, hb2⟩
    have below2 := bnext hb1 hb2
    clear hb1 hb2
    go_wp2_with fail
    refine (CW.out _).mono ?_; rintro e w3 ⟨v, rfl, hown, hb3⟩
    obtain ⟨A, c, rfl, hr⟩ := Rd.of_own hown
    obtain ⟨b, rfl, hc⟩ := hr (by simp)
    have below3 := bnext below2 hb3
    have e0 := hc 0 _ rfl
    have e1 := hc 1 _ rfl
    have e2 := hc 2 _ rfl
    rw [mkB_of] at e0 e1
    rw [show mkB [120] = (⟨#[120]⟩ : ByteArray) from rfl] at e2
    clear hown hb3 hr hc below2 hq hb
    simp only [List.length_cons, List.length_nil]
    go_wp2_with fail
    refine (alive1_any _).mono ?_; rintro e w7 ⟨rfl, hb7⟩
    go_wp2_with fail
    go_ret
    exact ⟨rfl, bnext below3 hb7⟩
end Go.Proofs.Ytnhonjhpggnglaa
