/- Layer 1 (runes): keys, by the code (XKy and XKz without the words beneath them: never import both). -/
import Derived.Test.YtdckdhbnfakleaaRow
import Derived.Test.YtdckdhbnfakleaaUt
import Derived.Test.YtdckdhbnfakleaaProg
import Derived.Test.YtdckdhbnfakleaaChecked
import Derived.Outline
import Derived.WalkSpells
import Derived.WalkLawsBesides
import Derived.Lib.RuneCount
namespace Go.Proofs.Ytdckdhbnfakleaa
open Go.RowKit

theorem bt_is (s : ByteArray) (k : Nat) (h : k < s.size) (n : UInt8) : s[k] = n ↔ bt s k = n.toNat := by
  rw [← bt_at s k h]; exact UInt8.toNat_inj.symm
/-- Bytes that are nothing special go on within a word. -/
def letterB (r : Nat) : Bool := decide (97 ≤ r ∧ r ≤ 122 ∨ 65 ≤ r ∧ r ≤ 90 ∨ 128 ≤ r)
def behindB (r : Nat) : Bool := decide (48 ≤ r ∧ r ≤ 57 ∨ r = 45 ∨ r = 95)
theorem ret_bool {a b : Bool} (h : a = b) : Ending.returned (.bool a) = .returned (.bool b) := by rw [h]
def Says (b : Bool) (w : World) (e : Ending) (w' : World) : Prop := e = .returned (.bool b) ∧ w = w'

set_option maxHeartbeats 1000000 in
theorem letter_any (r : Nat) (w : World) : Calls Try.prog 82 #[.int .i32 r] w (Says (letterB r) w) := by
  have h : r < 65 ∨ (65 ≤ r ∧ r ≤ 90) ∨ (90 < r ∧ r < 97) ∨ (97 ≤ r ∧ r ≤ 122) ∨ (122 < r ∧ r < 128) ∨ 128 ≤ r := by omega
  rcases h with h | h | h | h | h | h
  all_goals
    go_enter Try.func82, Try.ntmps82
    go_wp2_with fail
    go_ret
    exact ⟨ret_bool (by unfold letterB; rw [Bool.eq_iff_iff]; simp; omega), rfl⟩
set_option maxHeartbeats 1000000 in
theorem behind_any (r : Nat) (w : World) : Calls Try.prog 83 #[.int .i32 r] w (Says (behindB r) w) := by
  have h : r < 45 ∨ r = 45 ∨ (45 < r ∧ r < 48) ∨ (48 ≤ r ∧ r ≤ 57) ∨ (57 < r ∧ r < 95) ∨ r = 95 ∨ 95 < r := by omega
  rcases h with h | rfl | h | h | h | rfl | h
  all_goals
    go_enter Try.func83, Try.ntmps83
    go_wp2_with fail
    go_ret
    first
      | exact ⟨ret_bool (by unfold behindB; rw [Bool.eq_iff_iff]; simp; omega), rfl⟩
      | exact ⟨ret_bool (by decide), rfl⟩

/-- Does a text begin with U+FFFD? -/
def pfx (t : ByteArray) : Bool := decide (3 ≤ t.size) && ((t.extract 0 3).toList == [239, 191, 189])
set_option maxHeartbeats 1000000 in
theorem prefix_any (t : ByteArray) (hs : t.size ≤ maxLen) (w : World) : Calls Try.prog 99 #[.string t, .string ⟨#[239, 191, 189]⟩] w (Says (pfx t) w) := by
  unfold maxLen at hs
  by_cases h : 3 ≤ t.size
  · have e : pfx t = ((t.extract 0 3).toList == [239, 191, 189]) := by unfold pfx; simp [h]
    have E := Hid.mk' e
    clear e
    go_enter Try.func99, Try.ntmps99
    go_wp2_with fail
    go_ret
    exact ⟨ret_bool (by rw [E.out]), rfl⟩
  · have e : pfx t = false := by unfold pfx; simp [h]
    have E := Hid.mk' e
    clear e
    go_enter Try.func99, Try.ntmps99
    go_wp2_with fail
    go_ret
    exact ⟨ret_bool (by rw [E.out]), rfl⟩
set_option maxHeartbeats 1000000 in
theorem strprefix_any (t : ByteArray) (hs : t.size ≤ maxLen) (w : World) : Calls Try.prog 88 #[.string t, .string ⟨#[239, 191, 189]⟩] w (Says (pfx t) w) := by
  go_enter Try.func88, Try.ntmps88
  go_wp2_with fail
  refine (prefix_any t hs _).mono ?_; rintro e w' ⟨rfl, rfl⟩
  go_wp2_with fail
  go_ret
  exact ⟨rfl, rfl⟩

/-- A rune that reads as U+FFFD is one byte that begins none, or that rune itself, of three bytes. -/
def bad (s : ByteArray) (pos : Nat) : Bool := decide (Utf8.decode s pos = (65533, 1))
theorem pfx_at (s : ByteArray) (pos : Nat) : pfx (s.extract pos s.size) = (decide (3 ≤ s.size - pos) && (mid s pos (pos + 3) == [239, 191, 189])) := by
  unfold pfx
  have h1 : (s.extract pos s.size).size = s.size - pos := by simp [ByteArray.size_extract]
  have h2 : ((s.extract pos s.size).extract 0 3).toList = (mid s pos s.size).take 3 := by
    rw [ByteArray.toList_eq, Lib.extract_data, ← mid_extract, mkB_data]; simp
  rw [h1, h2]
  by_cases h : 3 ≤ s.size - pos
  · have : (mid s pos s.size).take 3 = mid s pos (pos + 3) := by
      unfold mid; rw [List.take_take, Nat.min_eq_left (by omega), show pos + 3 - pos = 3 from by omega]
    rw [this]
  · simp [h]
theorem mid3 (s : ByteArray) (pos : Nat) (h : pos + 3 ≤ s.size) : mid s pos (pos + 3) = [s[pos], s[pos + 1], s[pos + 2]] := by
  rw [mid_snoc s pos (pos + 2) (by omega) (by omega), mid_snoc s pos (pos + 1) (by omega) (by omega), mid_snoc s pos pos (by omega) (by omega), mid_self]; rfl
theorem bad_pfx (s : ByteArray) (pos : Nat) (hp : pos < s.size) (hR : (Utf8.decode s pos).1 = 65533) : (!pfx (s.extract pos s.size)) = bad s pos := by
  rw [pfx_at]
  have hd := Lib.decode_at s pos
  have hp3 := decN_parts (s.size - pos) (bt s pos) (bt s (pos + 1)) (bt s (pos + 2)) (bt s (pos + 3))
  rw [show Lib.decodeN (s.size - pos) (bt s pos) (bt s (pos + 1)) (bt s (pos + 2)) (bt s (pos + 3)) = Utf8.decode s pos from hd.symm] at hp3
  have l0 := bt_lt s pos
  have l1 := bt_lt s (pos + 1)
  have l2 := bt_lt s (pos + 2)
  have l3 := bt_lt s (pos + 3)
  unfold bad
  rcases hp3 with ⟨h1, e⟩ | ⟨h1, e⟩ | ⟨hn, h1, h2, hv, e⟩ | ⟨hn, h1, h2, h3, hv, hv2, e⟩ | ⟨hn, h1, h2, h3, h4, hv, _, e⟩
  · rw [e] at hR; simp at hR; omega
  · rw [e]
    by_cases h3 : 3 ≤ s.size - pos
    · have hne : (mid s pos (pos + 3) == [239, 191, 189]) = false := by
        rw [beq_eq_false_iff_ne, mid3 s pos (by omega)]
        intro he
        simp only [List.cons.injEq, and_true] at he
        have e0 := (bt_is s pos hp 239).1 he.1
        have e1 := (bt_is s (pos + 1) (by omega) 191).1 he.2.1
        have e2 := (bt_is s (pos + 2) (by omega) 189).1 he.2.2
        have hdd : Utf8.decode s pos = (65533, 3) := by
          rw [Lib.decode_at]
          show Lib.decodeN (s.size - pos) (bt s pos) (bt s (pos + 1)) (bt s (pos + 2)) (bt s (pos + 3)) = _
          rw [e0, e1, e2]
          simp [Lib.decodeN]
          omega
        rw [hdd] at e; cases e
      simp [hne]
    · simp [h3]
  · rw [e] at hR; simp at hR; omega
  · rw [e] at hR ⊢
    simp only at hR
    have b0 : bt s pos = 239 := by omega
    have b1 : bt s (pos + 1) = 191 := by omega
    have b2 : bt s (pos + 2) = 189 := by omega
    have he : mid s pos (pos + 3) = [239, 191, 189] := by
      rw [mid3 s pos (by omega), (bt_is s pos hp 239).2 b0, (bt_is s (pos + 1) (by omega) 191).2 b1, (bt_is s (pos + 2) (by omega) 189).2 b2]
    simp [he]; omega
  · rw [e] at hR; simp at hR; omega

set_option maxHeartbeats 1000000 in
theorem broken_any (s : ByteArray) (hs : s.size ≤ maxLen) (pos R : Nat) (hp : pos < s.size) (hR : (Utf8.decode s pos).1 = R) (w : World) :
    Calls Try.prog 81 #[.string s, .int .i64 pos, .int .i32 R] w (Says (bad s pos) w) := by
  have HS := Hid.mk' hs
  unfold maxLen at hs
  by_cases h : R = 65533
  · subst h
    have HB := Hid.mk' (bad_pfx s pos hp hR)
    have hsz : (s.extract pos s.size).size ≤ maxLen := by have := HS.out; simp [ByteArray.size_extract]; omega
    have C := Hid.mk' (strprefix_any (s.extract pos s.size) hsz)
    clear hR hsz
    go_enter Try.func81, Try.ntmps81
    go_wp2_with fail
    refine (C.out _).mono ?_; rintro e w' ⟨rfl, rfl⟩
    go_wp2_with fail
    go_ret
    exact ⟨ret_bool HB.out, rfl⟩
  · have hr : ((R : Int) == 65533) = false := by rw [beq_eq_false_iff_ne]; omega
    have hb : bad s pos = false := by unfold bad; rw [decide_eq_false_iff_not]; intro e; rw [e] at hR; exact h hR.symm
    have HB := Hid.mk' hb
    clear hR hb h
    go_enter Try.func81, Try.ntmps81
    go_wp2_with fail
    go_ret
    exact ⟨ret_bool HB.out.symm, rfl⟩
/-- May the rune at a place stand in a key? -/
def keyAt (s : ByteArray) (pos : Nat) : Bool := !bad s pos && (letterB (Utf8.decode s pos).1 || (decide (pos ≠ 0) && behindB (Utf8.decode s pos).1))
/-- All runes from a place on. -/
def keyFrom (s : ByteArray) : Nat → Nat → Bool
  | 0, _ => true
  | f + 1, pos => if pos < s.size then keyAt s pos && keyFrom s f (pos + (Utf8.decode s pos).2) else true
def keyB (s : ByteArray) : Bool := decide (1 ≤ s.size ∧ s.size ≤ 24) && keyFrom s s.size 0

set_option maxHeartbeats 2000000 in
theorem key_any (s : ByteArray) (hs : s.size ≤ maxLen) (w : World) : Calls Try.prog 67 #[.string s] w fun e w' => e = .returned (.bool (keyB s)) ∧ Below w.heap.size w w' := by
  have HS := Hid.mk' hs
  unfold maxLen at hs
  have hemp : s.toList.isEmpty = decide (s.size = 0) := by
    rw [ByteArray.toList_eq, Bool.eq_iff_iff, List.isEmpty_iff, decide_eq_true_eq, ← len_data]
    exact ⟨fun h => by rw [h]; rfl, List.eq_nil_of_length_eq_zero⟩
  by_cases h0 : s.size = 0
  · have e1 : s.toList.isEmpty = true := by rw [hemp]; simp [h0]
    have HK := Hid.mk' (show keyB s = false by unfold keyB; simp [h0])
    clear hemp h0
    go_enter Try.func67, Try.ntmps67
    go_wp2_with fail
    go_ret
    exact ⟨ret_bool HK.out.symm, Below.refl _ _⟩
  · have e1 : s.toList.isEmpty = false := by rw [hemp]; simp [h0]
    clear hemp
    by_cases h24 : 24 < s.size
    · have HK := Hid.mk' (show keyB s = false by
        unfold keyB
        rw [show decide (1 ≤ s.size ∧ s.size ≤ 24) = false from by rw [decide_eq_false_iff_not]; omega]; rfl)
      go_enter Try.func67, Try.ntmps67
      go_wp2_with fail
      go_ret
      exact ⟨ret_bool HK.out.symm, Below.refl _ _⟩
    · have HK := Hid.mk' (show keyB s = keyFrom s s.size 0 by unfold keyB; simp; intro _; omega)
      go_enter Try.func67, Try.ntmps67
      go_wp2_with fail
      go_loopw [] (fun wr => ∃ pos f : Nat, wr = w.iter s pos ∧ s.size ≤ pos + f ∧ Hid (keyFrom s f pos = keyFrom s s.size 0)) (fun wr => s.size - wr.iterPos w.heap.size)
      case atStart => exact ⟨0, s.size, rfl, by omega, rfl⟩
      case round =>
        obtain ⟨pos, f, rfl, hf, hk⟩ := hrel
        by_cases hp : pos < s.size
        · obtain ⟨R, hR⟩ : ∃ R, (Utf8.decode s pos).1 = R := ⟨_, rfl⟩
          obtain ⟨wd, hwd⟩ : ∃ wd, (Utf8.decode s pos).2 = wd := ⟨_, rfl⟩
          have hw1 : 1 ≤ wd := by rw [← hwd]; exact Lib.decode_width_pos s pos hp
          have hnx : ∀ ty, (Instr.next (.pointer (some ⟨w.heap.size, 0, none⟩)) true ty).run Try.prog (w.iter s pos) = .ok (.tuple #[.bool true, .int .i64 pos, .int .i32 R]) (w.iter s (pos + wd)) := fun ty => by
            have := run_next_any (P := Try.prog) w s pos ty hp
            rw [hR, hwd] at this; exact this
          obtain ⟨g, rfl⟩ : ∃ g, f = g + 1 := ⟨f - 1, by omega⟩
          have hk2 := hk.out
          rw [keyFrom, if_pos hp, hwd] at hk2
          have hat : keyAt s pos = (!bad s pos && (letterB R || (decide (pos ≠ 0) && behindB R))) := by unfold keyAt; rw [hR]
          have CB := Hid.mk' (broken_any s HS.out pos R hp hR)
          have CL := Hid.mk' (letter_any R)
          have CH := Hid.mk' (behind_any R)
          clear hR hwd hk
          generalize hb1 : bad s pos = b1 at *
          generalize hb2 : letterB R = b2 at *
          generalize hb3 : behindB R = b3 at *
          clear hb1 hb2 hb3
          have hz : ((pos : Int) == 0) = decide (pos = 0) := by rw [Bool.eq_iff_iff]; simp
          cases b1 with
          | true =>
            rw [hat] at hk2
            have HR := Hid.mk' (HK.out.trans hk2.symm)
            clear hat hk2 hz
            go_wp2_with (go_at_call 81; refine (CB.out _).mono ?_; rintro e w' ⟨rfl, rfl⟩)
            go_ret
            exact ⟨ret_bool (by rw [HR.out]; rfl), (Below.refl _ _).alloc (Nat.le_refl _) _⟩
          | false =>
            cases b2 with
            | true =>
              rw [hat] at hk2
              have HR := Hid.mk' (show keyFrom s g (pos + wd) = keyFrom s s.size 0 by simpa using hk2)
              clear hat hk2 hz
              go_wp2_with fail
              refine (CB.out _).mono ?_; rintro e w' ⟨rfl, rfl⟩
              go_wp2_with fail
              refine (CL.out _).mono ?_; rintro e w' ⟨rfl, rfl⟩
              go_wp2_with fail
              go_roundw
              case rel => exact ⟨pos + wd, g, rfl, by omega, HR⟩
              case measure => simp; omega
            | false =>
              by_cases h0 : pos = 0
              · have hz2 : ((pos : Int) == 0) = true := by rw [hz]; simp [h0]
                rw [hat] at hk2
                have HR := Hid.mk' (HK.out.trans hk2.symm)
                have HP := Hid.mk' h0
                clear hat hk2 hz h0
                go_wp2_with fail
                refine (CB.out _).mono ?_; rintro e w' ⟨rfl, rfl⟩
                go_wp2_with fail
                refine (CL.out _).mono ?_; rintro e w' ⟨rfl, rfl⟩
                go_wp2_with fail
                go_ret
                exact ⟨ret_bool (by rw [HR.out, HP.out]; rfl), (Below.refl _ _).alloc (Nat.le_refl _) _⟩
              · have hz2 : ((pos : Int) == 0) = false := by rw [hz]; simp [h0]
                rw [hat] at hk2
                cases b3 with
                | true =>
                  have HR := Hid.mk' (show keyFrom s g (pos + wd) = keyFrom s s.size 0 by simpa [h0] using hk2)
                  clear hat hk2 hz h0
                  go_wp2_with fail
                  refine (CB.out _).mono ?_; rintro e w' ⟨rfl, rfl⟩
                  go_wp2_with fail
                  refine (CL.out _).mono ?_; rintro e w' ⟨rfl, rfl⟩
                  go_wp2_with fail
                  refine (CH.out _).mono ?_; rintro e w' ⟨rfl, rfl⟩
                  go_wp2_with fail
                  go_roundw
                  case rel => exact ⟨pos + wd, g, rfl, by omega, HR⟩
                  case measure => simp; omega
                | false =>
                  have HR := Hid.mk' (HK.out.trans (show keyFrom s s.size 0 = false by simpa [h0] using hk2.symm))
                  clear hat hk2 hz h0
                  go_wp2_with fail
                  refine (CB.out _).mono ?_; rintro e w' ⟨rfl, rfl⟩
                  go_wp2_with fail
                  refine (CL.out _).mono ?_; rintro e w' ⟨rfl, rfl⟩
                  go_wp2_with fail
                  refine (CH.out _).mono ?_; rintro e w' ⟨rfl, rfl⟩
                  go_wp2_with fail
                  go_ret
                  exact ⟨ret_bool HR.out.symm, (Below.refl _ _).alloc (Nat.le_refl _) _⟩
        · have hnx : ∀ ty, (Instr.next (.pointer (some ⟨w.heap.size, 0, none⟩)) true ty).run Try.prog (w.iter s pos) = _ := fun ty => run_next_end w s pos ty hp
          have hk2 : keyFrom s f pos = true := by cases f <;> simp [keyFrom, hp]
          have HR := Hid.mk' (HK.out.trans (hk.out.symm.trans hk2))
          clear hk2
          go_wp2_with fail
          go_ret
          exact ⟨ret_bool HR.out.symm, (Below.refl _ _).alloc (Nat.le_refl _) _⟩
end Go.Proofs.Ytdckdhbnfakleaa
