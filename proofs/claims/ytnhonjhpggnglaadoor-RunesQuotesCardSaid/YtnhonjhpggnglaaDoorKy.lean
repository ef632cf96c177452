/- Layer 1 (runes): keys, by the code. -/
import Derived.Test.YtnhonjhpggnglaaDoorWd
import Derived.Lib.RuneCount
namespace Go.Proofs.YtnhonjhpggnglaaDoor
open Go.RowKit

def letterB (r : Nat) : Bool := decide (97 ≤ r ∧ r ≤ 122 ∨ 65 ≤ r ∧ r ≤ 90 ∨ 128 ≤ r)
def behindB (r : Nat) : Bool := decide (48 ≤ r ∧ r ≤ 57 ∨ r = 45 ∨ r = 95)
theorem ret_bool {a b : Bool} (h : a = b) : Ending.returned (.bool a) = .returned (.bool b) := by rw [h]
def Says (b : Bool) (w : World) (e : Ending) (w' : World) : Prop := e = .returned (.bool b) ∧ w = w'

set_option maxHeartbeats 1000000 in
theorem letter_any (r : Nat) (w : World) : Calls Tryd.prog 19 #[.int .i32 r] w (Says (letterB r) w) := by
  have h : r < 65 ∨ (65 ≤ r ∧ r ≤ 90) ∨ (90 < r ∧ r < 97) ∨ (97 ≤ r ∧ r ≤ 122) ∨ (122 < r ∧ r < 128) ∨ 128 ≤ r := by omega
  rcases h with h | h | h | h | h | h
  all_goals
    go_enter Tryd.func19, Tryd.ntmps19
    go_wp2_with fail
    go_ret
    exact ⟨ret_bool (by unfold letterB; rw [Bool.eq_iff_iff]; simp; omega), rfl⟩
set_option maxHeartbeats 1000000 in
theorem behind_any (r : Nat) (w : World) : Calls Tryd.prog 20 #[.int .i32 r] w (Says (behindB r) w) := by
  have h : r < 45 ∨ r = 45 ∨ (45 < r ∧ r < 48) ∨ (48 ≤ r ∧ r ≤ 57) ∨ (57 < r ∧ r < 95) ∨ r = 95 ∨ 95 < r := by omega
  rcases h with h | rfl | h | h | h | rfl | h
  all_goals
    go_enter Tryd.func20, Tryd.ntmps20
    go_wp2_with fail
    go_ret
    first
      | exact ⟨ret_bool (by unfold behindB; rw [Bool.eq_iff_iff]; simp; omega), rfl⟩
      | exact ⟨ret_bool (by decide), rfl⟩

/-- Does a text begin with U+FFFD? -/
def pfx (t : ByteArray) : Bool := decide (3 ≤ t.size) && ((t.extract 0 3).toList == [239, 191, 189])
set_option maxHeartbeats 1000000 in
theorem prefix_any (t : ByteArray) (hs : t.size ≤ maxLen) (w : World) : Calls Tryd.prog 34 #[.string t, .string ⟨#[239, 191, 189]⟩] w (Says (pfx t) w) := by
  unfold maxLen at hs
  by_cases h : 3 ≤ t.size
  · have e : pfx t = ((t.extract 0 3).toList == [239, 191, 189]) := by unfold pfx; simp [h]
    have E := Hid.mk' e
    clear e
    go_enter Tryd.func34, Tryd.ntmps34
    go_wp2_with fail
    go_ret
    exact ⟨ret_bool (by rw [E.out]), rfl⟩
  · have e : pfx t = false := by unfold pfx; simp [h]
    have E := Hid.mk' e
    clear e
    go_enter Tryd.func34, Tryd.ntmps34
    go_wp2_with fail
    go_ret
    exact ⟨ret_bool (by rw [E.out]), rfl⟩
set_option maxHeartbeats 1000000 in
theorem strprefix_any (t : ByteArray) (hs : t.size ≤ maxLen) (w : World) : Calls Tryd.prog 29 #[.string t, .string ⟨#[239, 191, 189]⟩] w (Says (pfx t) w) := by
  go_enter Tryd.func29, Tryd.ntmps29
  go_wp2_with fail
  refine (prefix_any t hs _).mono ?_; rintro e w' ⟨rfl, rfl⟩
  go_wp2_with fail
  go_ret
  exact ⟨rfl, rfl⟩

/-- A rune that reads as U+FFFD is one byte that begins none, or that rune itself, of three bytes. -/
def bad (s : ByteArray) (pos : Nat) : Bool := decide (Utf8.decode s pos = (65533, 1))
theorem pfx_at (s : ByteArray) (pos : Nat) : pfx (s.extract pos s.size) = (decide (3 ≤ s.size - pos) && (mid s pos (pos + 3) == [239, 191, 189])) := by
  unfold pfx
  have h1 : (s.extract pos s.size).size = s.size - pos := by simp [ByteArray.size_extract]
  have h2 : ((s.extract pos s.size).extract 0 3).toList = (mid s pos s.size).take 3 := by
    rw [ByteArray.toList_eq, Lib.extract_data, ← mid_extract, mkB_data]; simp
  rw [h1, h2]
  by_cases h : 3 ≤ s.size - pos
  · have : (mid s pos s.size).take 3 = mid s pos (pos + 3) := by
      unfold mid; rw [List.take_take, Nat.min_eq_left (by omega), show pos + 3 - pos = 3 from by omega]
    rw [this]
  · simp [h]
theorem mid3 (s : ByteArray) (pos : Nat) (h : pos + 3 ≤ s.size) : mid s pos (pos + 3) = [s[pos], s[pos + 1], s[pos + 2]] := by
  rw [mid_snoc s pos (pos + 2) (by omega) (by omega), mid_snoc s pos (pos + 1) (by omega) (by omega), mid_snoc s pos pos (by omega) (by omega), mid_self]; rfl
theorem bad_pfx (s : ByteArray) (pos : Nat) (hp : pos < s.size) (hR : (Utf8.decode s pos).1 = 65533) : (!pfx (s.extract pos s.size)) = bad s pos := by
  rw [pfx_at]
  have hd := Lib.decode_at s pos
  have hp3 := decN_parts (s.size - pos) (bt s pos) (bt s (pos + 1)) (bt s (pos + 2)) (bt s (pos + 3))
  rw [show Lib.decodeN (s.size - pos) (bt s pos) (bt s (pos + 1)) (bt s (pos + 2)) (bt s (pos + 3)) = Utf8.decode s pos from hd.symm] at hp3
  have l0 := bt_lt s pos
  have l1 := bt_lt s (pos + 1)
  have l2 := bt_lt s (pos + 2)
  have l3 := bt_lt s (pos + 3)
  unfold bad
  rcases hp3 with ⟨h1, e⟩ | ⟨h1, e⟩ | ⟨hn, h1, h2, hv, e⟩ | ⟨hn, h1, h2, h3, hv, hv2, e⟩ | ⟨hn, h1, h2, h3, h4, hv, _, e⟩
  · rw [e] at hR; simp at hR; omega
  · rw [e]
    by_cases h3 : 3 ≤ s.size - pos
    · have hne : (mid s pos (pos + 3) == [239, 191, 189]) = false := by
        rw [beq_eq_false_iff_ne, mid3 s pos (by omega)]
        intro he
        simp only [List.cons.injEq, and_true] at he
        have e0 := (bt_is s pos hp 239).1 he.1
        have e1 := (bt_is s (pos + 1) (by omega) 191).1 he.2.1
        have e2 := (bt_is s (pos + 2) (by omega) 189).1 he.2.2
        have hdd : Utf8.decode s pos = (65533, 3) := by
          rw [Lib.decode_at]
          show Lib.decodeN (s.size - pos) (bt s pos) (bt s (pos + 1)) (bt s (pos + 2)) (bt s (pos + 3)) = _
          rw [e0, e1, e2]
          simp [Lib.decodeN]
          omega
        rw [hdd] at e; cases e
      simp [hne]
    · simp [h3]
  · rw [e] at hR; simp at hR; omega
  · rw [e] at hR ⊢
    simp only at hR
    have b0 : bt s pos = 239 := by omega
    have b1 : bt s (pos + 1) = 191 := by omega
    have b2 : bt s (pos + 2) = 189 := by omega
    have he : mid s pos (pos + 3) = [239, 191, 189] := by
      rw [mid3 s pos (by omega), (bt_is s pos hp 239).2 b0, (bt_is s (pos + 1) (by omega) 191).2 b1, (bt_is s (pos + 2) (by omega) 189).2 b2]
    simp [he]; omega
  · rw [e] at hR; simp at hR; omega

set_option maxHeartbeats 1000000 in
theorem broken_any (s : ByteArray) (hs : s.size ≤ maxLen) (pos R : Nat) (hp : pos < s.size) (hR : (Utf8.decode s pos).1 = R) (w : World) :
    Calls Tryd.prog 18 #[.string s, .int .i64 pos, .int .i32 R] w (Says (bad s pos) w) := by
  have HS := Hid.mk' hs
  unfold maxLen at hs
  by_cases h : R = 65533
  · subst h
    have HB := Hid.mk' (bad_pfx s pos hp hR)
    have hsz : (s.extract pos s.size).size ≤ maxLen := by have := HS.out; simp [ByteArray.size_extract]; omega
    have C := Hid.mk' (strprefix_any (s.extract pos s.size) hsz)
    clear hR hsz
    go_enter Tryd.func18, Tryd.ntmps18
    go_wp2_with fail
    refine (C.out _).mono ?_; rintro e w' ⟨rfl, rfl⟩
    go_wp2_with fail
    go_ret
    exact ⟨ret_bool HB.out, rfl⟩
  · have hr : ((R : Int) == 65533) = false := by rw [beq_eq_false_iff_ne]; omega
    have hb : bad s pos = false := by unfold bad; rw [decide_eq_false_iff_not]; intro e; rw [e] at hR; exact h hR.symm
    have HB := Hid.mk' hb
    clear hR hb h
    go_enter Tryd.func18, Tryd.ntmps18
    go_wp2_with fail
    go_ret
    exact ⟨ret_bool HB.out.symm, rfl⟩
end Go.Proofs.YtnhonjhpggnglaaDoor
