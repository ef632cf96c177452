/- Layer 1 (runes): the text that quotes are of, by the code, whatever stands there; a figure, by definition. -/
import Derived.Test.YtnhonjhpggnglaaDoorRm
namespace Go.Proofs.YtnhonjhpggnglaaDoor
open Go.RowKit

set_option maxHeartbeats 1000000 in
theorem unq_yes (q : ByteArray) (hs : q.size ≤ 2000) (h : isQ q) (w : World) : Calls Tryd.prog 14 #[.string q] w fun e w' => e = .returned (.tuple #[.string (ofB q), .int .i64 0]) ∧ Below w.heap.size w w' := by
  have hi : (q.extract 1 (q.size - 1)).size ≤ 20000 := by rw [ByteArray.size_extract]; omega
  have hsz : (ofB q).size ≤ 20000 := by unfold ofB; have := plainB_size (q.extract 1 (q.size - 1)); rw [ByteArray.size_extract] at this; omega
  have CP := Hid.mk' (plain_any _ hi)
  have CQ := Hid.mk' (quote_any (ofB q) hsz)
  rw [show plainB (q.extract 1 (q.size - 1)) = ofB q from rfl] at CP
  have h2 := h.1
  have hne : ((quoteB (ofB q)).toList == q.toList) = true := by rw [h.2]; simp
  generalize ofB q = t at *
  generalize quoteB t = qq at *
  obtain ⟨m, hm⟩ : ∃ m, q.size = m + 2 := ⟨q.size - 2, by omega⟩
  rw [show q.size - 1 = m + 1 from by omega] at CP
  clear h hsz hi
  go_enter Tryd.func14, Tryd.ntmps14
  go_wp2_with fail
  refine (CP.out _).mono ?_; rintro e w1 ⟨rfl, hb1⟩
  go_wp2_with fail
  refine (CQ.out _).mono ?_; rintro e w2 ⟨rfl, hb2⟩
  have below2 := bnext hb1 hb2
  go_wp2_with fail
  go_ret2
  exact ⟨rfl, below2⟩
set_option maxHeartbeats 1000000 in
theorem unq_no (q : ByteArray) (hs : q.size ≤ 2000) (h : ¬ isQ q) (w : World) : Calls Tryd.prog 14 #[.string q] w fun e w' => e = .returned (.tuple #[.string ⟨#[]⟩, .int .i64 10]) ∧ Below w.heap.size w w' := by
  by_cases h2 : q.size < 2
  · go_enter Tryd.func14, Tryd.ntmps14
    go_wp2_with fail
    go_ret2
    exact ⟨rfl, Below.refl _ _⟩
  · have hi : (q.extract 1 (q.size - 1)).size ≤ 20000 := by rw [ByteArray.size_extract]; omega
    have hsz : (ofB q).size ≤ 20000 := by unfold ofB; have := plainB_size (q.extract 1 (q.size - 1)); rw [ByteArray.size_extract] at this; omega
    have CP := Hid.mk' (plain_any _ hi)
    have CQ := Hid.mk' (quote_any (ofB q) hsz)
    rw [show plainB (q.extract 1 (q.size - 1)) = ofB q from rfl] at CP
    have hne : ((quoteB (ofB q)).toList == q.toList) = false := by
      rw [beq_eq_false_iff_ne]; intro e; exact h ⟨by omega, bytes_inj' (by rw [← ByteArray.toList_eq, ← ByteArray.toList_eq]; exact e)⟩
    generalize ofB q = t at *
    generalize quoteB t = qq at *
    obtain ⟨m, hm⟩ : ∃ m, q.size = m + 2 := ⟨q.size - 2, by omega⟩
    rw [show q.size - 1 = m + 1 from by omega] at CP
    clear h hsz hi h2
    go_enter Tryd.func14, Tryd.ntmps14
    go_wp2_with fail
    refine (CP.out _).mono ?_; rintro e w1 ⟨rfl, hb1⟩
    go_wp2_with fail
    refine (CQ.out _).mono ?_; rintro e w2 ⟨rfl, hb2⟩
    have below2 := bnext hb1 hb2
    go_wp2_with fail
    go_ret2
    exact ⟨rfl, below2⟩

theorem ret_i {a b : Int} (h : a = b) : Ending.returned (.int .i64 a) = .returned (.int .i64 b) := by rw [h]
/-- A figure's number; -1 of what is none. -/
def figI (c : Nat) : Int := if isHx c = true then (figV c : Int) else -1
theorem figI_neg (c : Nat) (h : isHx c = false) : figI c = -1 := by unfold figI; rw [if_neg (by rw [h]; simp)]
theorem figI_ok (c : Nat) (h : isHx c = true) : figI c = (figV c : Int) := by unfold figI; rw [if_pos h]
set_option maxHeartbeats 1000000 in
theorem reffig_any (c : Nat) (hc : c < 256) (w : World) : Calls Tryd.prog 27 #[.int .u8 c] w fun e w' => e = .returned (.int .i64 (figI c)) ∧ w' = w := by
  have hcase : c < 48 ∨ (48 ≤ c ∧ c ≤ 57) ∨ (57 < c ∧ c < 97) ∨ (97 ≤ c ∧ c ≤ 102) ∨ 102 < c := by omega
  have HF : figI c = if 48 ≤ c ∧ c ≤ 57 then (c : Int) - 48 else if 97 ≤ c ∧ c ≤ 102 then (c : Int) - 87 else -1 := by
    unfold figI isHx figV
    rcases hcase with h | h | h | h | h
    · rw [if_neg (by simp; omega), if_neg (by omega), if_neg (by omega)]
    · rw [if_pos (by simp; omega), if_pos h, if_pos h]; omega
    · rw [if_neg (by simp; omega), if_neg (by omega), if_neg (by omega)]
    · rw [if_pos (by simp; omega), if_neg (by omega), if_pos h, if_neg (by omega), if_pos h]; omega
    · rw [if_neg (by simp; omega), if_neg (by omega), if_neg (by omega)]
  rw [HF]
  obtain ⟨z, hz⟩ : ∃ z : Int, (c : Int) = z := ⟨_, rfl⟩
  rw [hz]
  rcases hcase with h | h | h | h | h
  all_goals
    first
      | rw [if_neg (show ¬ (48 ≤ c ∧ c ≤ 57) by omega), if_neg (show ¬ (97 ≤ c ∧ c ≤ 102) by omega)]
      | rw [if_pos (show 48 ≤ c ∧ c ≤ 57 by omega)]
      | rw [if_neg (show ¬ (48 ≤ c ∧ c ≤ 57) by omega), if_pos (show 97 ≤ c ∧ c ≤ 102 by omega)]
  · have h' : z < 48 := by omega
    clear HF hz h hc
    go_enter Tryd.func27, Tryd.ntmps27
    go_wp2_with fail
    go_ret
    exact ⟨rfl, rfl⟩
  · have h' : 48 ≤ z ∧ z ≤ 57 := by omega
    obtain ⟨y, hy⟩ : ∃ y : Int, z = y + 48 := ⟨z - 48, by omega⟩
    clear HF hz h hc
    go_enter Tryd.func27, Tryd.ntmps27
    go_wp2_with fail
    go_ret
    exact ⟨ret_i (by omega), rfl⟩
  · have h' : 57 < z ∧ z < 97 := by omega
    clear HF hz h hc
    go_enter Tryd.func27, Tryd.ntmps27
    go_wp2_with fail
    go_ret
    exact ⟨rfl, rfl⟩
  · have h' : 97 ≤ z ∧ z ≤ 102 := by omega
    clear HF hz h hc
    go_enter Tryd.func27, Tryd.ntmps27
    go_wp2_with fail
    go_ret
    exact ⟨ret_i (by omega), rfl⟩
  · have h' : 102 < z := by omega
    clear HF hz h hc
    go_enter Tryd.func27, Tryd.ntmps27
    go_wp2_with fail
    go_ret
    exact ⟨rfl, rfl⟩
end Go.Proofs.YtnhonjhpggnglaaDoor
