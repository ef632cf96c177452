/- The walks of layer 2 (nums): reading numbers. -/
import Derived.Test.YtnhonjhpggnglaaNa
import Derived.Laws.RangeAny
import Derived.Lib.RabinKarpLaws
namespace Go.Proofs.Ytnhonjhpggnglaa
open Go.RowKit

theorem isDig_iff (c : UInt8) : isDig c = true ↔ 48 ≤ c.toNat ∧ c.toNat ≤ 57 := by simp [isDig]

def readVal (s : ByteArray) : Int := if okNum s.data.toList then num s.data.toList else 0
def readErr (s : ByteArray) : Int := if okNum s.data.toList then 0 else 20
theorem read_no (s : ByteArray) (h : okNum s.data.toList = false) : readVal s = 0 ∧ readErr s = 20 := by simp [readVal, readErr, h]
theorem read_yes (s : ByteArray) (h : okNum s.data.toList = true) : readVal s = num s.data.toList ∧ readErr s = 0 := by simp [readVal, readErr, h]

set_option maxHeartbeats 1000000 in
theorem read_any (s : ByteArray) (w : World) :
    Calls Try.prog 16 #[.string s] w fun e w' => e = .returned (.tuple #[.int .i64 (readVal s), .int .i64 (readErr s)]) ∧ Below w.heap.size w w' := by
  go_enter Try.func16, Try.ntmps16
  go_wp2
  go_loopw [4] (fun n w' => ∃ (pos m : Nat), w' = w.iter s pos ∧ n = .int .i64 m ∧ m ≤ 1125899906842624 ∧ Hid (m = num (pre s pos)) ∧ Hid ((pre s pos).all isDig = true)) (fun _ w' => s.size - w'.iterPos w.heap.size)
  case atStart => exact ⟨0, 0, rfl, rfl, by omega, rfl, rfl⟩
  case round =>
    obtain ⟨pos, m, rfl, rfl, hm, hn, hd⟩ := hrel
    by_cases hp : pos < s.size
    · by_cases ha : s[pos].toNat < 128
      · have hnx : ∀ ty, (Instr.next (.pointer (some ⟨w.heap.size, 0, none⟩)) true ty).run Try.prog (w.iter s pos) = _ := fun ty => run_next_ascii w s pos ty hp ha
        by_cases h1 : s[pos].toNat < 48
        · go_wp2
          have hno := read_no s (ok_no_digit _ _ (byte_mem s pos hp) (by rw [← Bool.not_eq_true, isDig_iff]; omega))
          go_ret2
          exact ⟨ret2 hno.1.symm hno.2.symm, (Below.refl _ _).alloc (Nat.le_refl _) _⟩
        · by_cases h2 : 57 < s[pos].toNat
          · go_wp2
            have hno := read_no s (ok_no_digit _ _ (byte_mem s pos hp) (by rw [← Bool.not_eq_true, isDig_iff]; omega))
            go_ret2
            exact ⟨ret2 hno.1.symm hno.2.symm, (Below.refl _ _).alloc (Nat.le_refl _) _⟩
          · by_cases h3 : 1125899906842624 < 10 * m + (s[pos].toNat - 48)
            · go_wp2
              have hno := read_no s (ok_great _ (by
                have := num_append (pre s (pos + 1)) (s.data.toList.drop (pos + 1))
                rw [← pre_append, pre_snoc s pos hp, num_snoc, ← hn.out] at this
                unfold top; omega))
              go_ret2
              exact ⟨ret2 hno.1.symm hno.2.symm, (Below.refl _ _).alloc (Nat.le_refl _) _⟩
            · have hn' : Hid (10 * m + (s[pos].toNat - 48) = num (pre s (pos + 1))) := by rw [pre_snoc s pos hp, num_snoc, ← hn.out]; rfl
              have hd' : Hid ((pre s (pos + 1)).all isDig = true) := by
                show (pre s (pos + 1)).all isDig = true
                rw [pre_snoc s pos hp, List.all_append, hd.out]
                simp [isDig]; omega
              go_wp2
              go_roundw
              case rel => exact ⟨pos + 1, 10 * m + (s[pos].toNat - 48), rfl, by rw [show ((10 * m + (s[pos].toNat - 48) : Nat) : Int) = (m : Int) * 10 + ((s[pos].toNat : Int) - 48) from by omega], by omega, hn', hd'⟩
              case measure => simp; omega
      · have hnx : ∀ ty, (Instr.next (.pointer (some ⟨w.heap.size, 0, none⟩)) true ty).run Try.prog (w.iter s pos) = _ := fun ty => run_next_any w s pos ty hp
        have hh := (decode_high s pos hp (by omega)).1
        go_wp2
        have hno := read_no s (ok_no_digit _ _ (byte_mem s pos hp) (by rw [← Bool.not_eq_true, isDig_iff]; omega))
        go_ret2
        exact ⟨ret2 hno.1.symm hno.2.symm, (Below.refl _ _).alloc (Nat.le_refl _) _⟩
    · have hnx : ∀ ty, (Instr.next (.pointer (some ⟨w.heap.size, 0, none⟩)) true ty).run Try.prog (w.iter s pos) = _ := fun ty => run_next_end w s pos ty hp
      have hpre := pre_all s pos (by omega)
      have hcut : (cut (m : Int)).toNat = m := by unfold cut; rw [if_neg (by omega), if_neg (by omega)]; rfl
      have hok : okNum s.data.toList = (dec m == s.data.toList) := by
        have := ok_text s.data.toList (by rw [← hpre]; exact hd.out) (by rw [← hpre, ← hn.out]; exact hm)
        rw [this, ← hpre, ← hn.out, hpre]
      have hnum : m = num s.data.toList := by rw [← hpre]; exact hn.out
      have HN := Hid.mk' hnum
      have HO := Hid.mk' hok
      have HC := Hid.mk' hcut
      clear hnum hok hcut hpre
      cases hb : okNum s.data.toList with
      | false =>
        have hno := read_no s hb
        have ht : ((!(dec (cut (m : Int)).toNat == s.toList)) = true) := by rw [ByteArray.toList_eq, HC.out, ← HO.out, hb]; rfl
        have H1 := Hid.mk' hno
        clear hb hno
        go_wp2_with (go_at_call 18; refine (text_any _ _).mono ?_; rintro e w1 ⟨rfl, hb1⟩)
        go_ret2
        exact ⟨ret2 H1.out.1.symm H1.out.2.symm, ((Below.refl _ _).alloc (Nat.le_refl _) _).trans (hb1.mono (by simp [World.iter]))⟩
      | true =>
        have hyes := read_yes s hb
        have ht : ((!(dec (cut (m : Int)).toNat == s.toList)) = false) := by rw [ByteArray.toList_eq, HC.out, ← HO.out, hb]; rfl
        have H1 := Hid.mk' hyes
        clear hb hyes
        go_wp2_with (go_at_call 18; refine (text_any _ _).mono ?_; rintro e w1 ⟨rfl, hb1⟩)
        go_ret2
        exact ⟨ret2 (by rw [H1.out.1, ← HN.out]) H1.out.2.symm, ((Below.refl _ _).alloc (Nat.le_refl _) _).trans (hb1.mono (by simp [World.iter]))⟩
end Go.Proofs.Ytnhonjhpggnglaa
