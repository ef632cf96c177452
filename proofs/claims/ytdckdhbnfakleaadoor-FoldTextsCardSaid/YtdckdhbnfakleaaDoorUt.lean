/- Plain facts on runes in texts: which bytes a rune takes. No program. -/
import Derived.Test.YtdckdhbnfakleaaDoorKit
import Derived.Lib.DecodeN
namespace Go.Proofs.YtdckdhbnfakleaaDoor

theorem get_bang (s : ByteArray) (k : Nat) (h : k < s.size) : s.get! k = s[k] := by
  have := get_at s k h
  simpa using this
theorem decN_parts (n b0 b1 b2 b3 : Nat) :
    (b0 < 128 ∧ Lib.decodeN n b0 b1 b2 b3 = (b0, 1)) ∨ (128 ≤ b0 ∧ Lib.decodeN n b0 b1 b2 b3 = (65533, 1)) ∨
    (1 < n ∧ b0 / 32 = 6 ∧ b1 / 64 = 2 ∧ 128 ≤ b0 % 32 * 64 + b1 % 64 ∧ Lib.decodeN n b0 b1 b2 b3 = (b0 % 32 * 64 + b1 % 64, 2)) ∨
    (2 < n ∧ b0 / 16 = 14 ∧ b1 / 64 = 2 ∧ b2 / 64 = 2 ∧ 2048 ≤ b0 % 16 * 4096 + b1 % 64 * 64 + b2 % 64 ∧
      (b0 % 16 * 4096 + b1 % 64 * 64 + b2 % 64 < 55296 ∨ 57344 ≤ b0 % 16 * 4096 + b1 % 64 * 64 + b2 % 64) ∧ Lib.decodeN n b0 b1 b2 b3 = (b0 % 16 * 4096 + b1 % 64 * 64 + b2 % 64, 3)) ∨
    (3 < n ∧ b0 / 8 = 30 ∧ b1 / 64 = 2 ∧ b2 / 64 = 2 ∧ b3 / 64 = 2 ∧ 65536 ≤ b0 % 8 * 262144 + b1 % 64 * 4096 + b2 % 64 * 64 + b3 % 64 ∧
      b0 % 8 * 262144 + b1 % 64 * 4096 + b2 % 64 * 64 + b3 % 64 ≤ 1114111 ∧ Lib.decodeN n b0 b1 b2 b3 = (b0 % 8 * 262144 + b1 % 64 * 4096 + b2 % 64 * 64 + b3 % 64, 4)) := by
  generalize hd : Lib.decodeN n b0 b1 b2 b3 = d
  unfold Lib.decodeN at hd
  by_cases h1 : b0 < 128
  · rw [if_pos h1] at hd; left; exact ⟨h1, hd.symm⟩
  · rw [if_neg h1] at hd
    right
    by_cases h2 : b0 / 32 = 6 ∧ (1 < n ∧ b1 / 64 = 2)
    · rw [if_pos h2] at hd
      split at hd
      · right; left; exact ⟨h2.2.1, h2.1, h2.2.2, by assumption, hd.symm⟩
      · left; exact ⟨by omega, hd.symm⟩
    · rw [if_neg h2] at hd
      by_cases h3 : b0 / 16 = 14 ∧ (1 < n ∧ b1 / 64 = 2) ∧ (2 < n ∧ b2 / 64 = 2)
      · rw [if_pos h3] at hd
        split at hd
        · rename_i hv
          right; right; left; exact ⟨h3.2.2.1, h3.1, h3.2.1.2, h3.2.2.2, hv.1, by omega, hd.symm⟩
        · left; exact ⟨by omega, hd.symm⟩
      · rw [if_neg h3] at hd
        split at hd
        · rename_i h4
          split at hd
          · rename_i hv
            right; right; right; exact ⟨h4.2.2.2.1, h4.1, h4.2.1.2, h4.2.2.1.2, h4.2.2.2.2, hv.1, by omega, hd.symm⟩
          · left; exact ⟨by omega, hd.symm⟩
        · left; exact ⟨by omega, hd.symm⟩

/-- The byte at a place, as a number. -/
def bt (s : ByteArray) (k : Nat) : Nat := (s.get! k).toNat
theorem bt_at (s : ByteArray) (k : Nat) (h : k < s.size) : s[k].toNat = bt s k := by unfold bt; rw [get_bang s k h]
theorem bt_lt (s : ByteArray) (k : Nat) : bt s k < 256 := (s.get! k).toNat_lt

/-- A rune from 128 on takes only bytes from 128 on, and lies within the text. -/
theorem dec_high (s : ByteArray) (pos : Nat) (h : pos < s.size) (ha : 128 ≤ bt s pos) :
    128 ≤ (Utf8.decode s pos).1 ∧ 1 ≤ (Utf8.decode s pos).2 ∧ pos + (Utf8.decode s pos).2 ≤ s.size ∧ ∀ j, j < (Utf8.decode s pos).2 → 128 ≤ bt s (pos + j) := by
  rw [Lib.decode_at]
  show 128 ≤ (Lib.decodeN (s.size - pos) (bt s pos) (bt s (pos + 1)) (bt s (pos + 2)) (bt s (pos + 3))).1 ∧ _
  have hp := decN_parts (s.size - pos) (bt s pos) (bt s (pos + 1)) (bt s (pos + 2)) (bt s (pos + 3))
  have small : ∀ j, j < 4 → j = 0 ∨ j = 1 ∨ j = 2 ∨ j = 3 := fun j _ => by omega
  rcases hp with ⟨h1, e⟩ | ⟨h1, e⟩ | ⟨hn, h1, h2, hv, e⟩ | ⟨hn, h1, h2, h3, hv, _, e⟩ | ⟨hn, h1, h2, h3, h4, hv, _, e⟩
  · omega
  · unfold bt at e h1 ⊢; rw [e]; refine ⟨by simp, by simp, by simp; omega, fun j hj => ?_⟩
    have : j = 0 := by simpa using hj
    subst this; exact h1
  · rw [show Lib.decodeN (s.size - pos) (bt s pos) (bt s (pos + 1)) (bt s (pos + 2)) (bt s (pos + 3)) = Lib.decodeN (s.size - pos) (s.get! pos).toNat (s.get! (pos + 1)).toNat (s.get! (pos + 2)).toNat (s.get! (pos + 3)).toNat from rfl] at e ⊢
    rw [e]; refine ⟨hv, by simp, by simp; omega, fun j hj => ?_⟩
    rcases small j (by omega) with rfl | rfl | rfl | rfl
    · exact ha
    · omega
    · omega
    · omega
  · rw [show Lib.decodeN (s.size - pos) (bt s pos) (bt s (pos + 1)) (bt s (pos + 2)) (bt s (pos + 3)) = Lib.decodeN (s.size - pos) (s.get! pos).toNat (s.get! (pos + 1)).toNat (s.get! (pos + 2)).toNat (s.get! (pos + 3)).toNat from rfl] at e ⊢
    rw [e]; refine ⟨by simp; omega, by simp, by simp; omega, fun j hj => ?_⟩
    rcases small j (by omega) with rfl | rfl | rfl | rfl
    · exact ha
    · omega
    · omega
    · omega
  · rw [show Lib.decodeN (s.size - pos) (bt s pos) (bt s (pos + 1)) (bt s (pos + 2)) (bt s (pos + 3)) = Lib.decodeN (s.size - pos) (s.get! pos).toNat (s.get! (pos + 1)).toNat (s.get! (pos + 2)).toNat (s.get! (pos + 3)).toNat from rfl] at e ⊢
    rw [e]; refine ⟨by simp; omega, by simp, by simp; omega, fun j hj => ?_⟩
    rcases small j (by omega) with rfl | rfl | rfl | rfl
    · exact ha
    · omega
    · omega
    · omega
end Go.Proofs.YtdckdhbnfakleaaDoor
