/- Layer 1 (runes): how many runes; the first so many: by the code. -/
import Derived.Test.YtnhonjhpggnglaaDoorDl
import Derived.Test.YtnhonjhpggnglaaDoorKz
namespace Go.Proofs.YtnhonjhpggnglaaDoor
open Go.RowKit

theorem ret_s {a b : ByteArray} (h : a = b) : Ending.returned (.string a) = .returned (.string b) := by rw [h]
theorem ret_n {a b : Nat} (h : a = b) : Ending.returned (.int .i64 (a : Int)) = .returned (.int .i64 (b : Int)) := by rw [h]
/-- How many runes stand from a place on. -/
def cntF (s : ByteArray) : Nat → Nat → Nat
  | 0, _ => 0
  | f + 1, pos => if pos < s.size then 1 + cntF s f (pos + (Utf8.decode s pos).2) else 0
theorem cntF_le (s : ByteArray) : ∀ f pos, cntF s f pos ≤ f
  | 0, _ => by simp [cntF]
  | f + 1, pos => by rw [cntF]; have := cntF_le s f (pos + (Utf8.decode s pos).2); split <;> omega
def cnt (s : ByteArray) : Nat := cntF s s.size 0
/-- Where so many runes end. -/
def cutF (s : ByteArray) : Nat → Nat → Nat → Nat
  | 0, pos, _ => pos
  | f + 1, pos, n => if pos < s.size ∧ 0 < n then cutF s f (pos + (Utf8.decode s pos).2) (n - 1) else pos
def cutP (s : ByteArray) (n : Int) : Nat := cutF s s.size 0 n.toNat

set_option maxHeartbeats 2000000 in
theorem count_any (s : ByteArray) (hs : s.size ≤ 20000) (w : World) : Calls Tryd.prog 13 #[.string s] w fun e w' => e = .returned (.int .i64 (cnt s)) ∧ Below w.heap.size w w' := by
  have HS := Hid.mk' hs
  go_enter Tryd.func13, Tryd.ntmps13
  go_wp2_with fail
  go_loopw [3] (fun c wr => ∃ pos f k : Nat, c = .int .i64 k ∧ wr = w.iter s pos ∧ s.size ≤ pos + f ∧ k ≤ pos ∧ pos ≤ s.size ∧ Hid (k + cntF s f pos = cnt s)) (fun _ wr => s.size - wr.iterPos w.heap.size)
  case atStart => exact ⟨0, s.size, 0, rfl, rfl, by omega, by omega, by omega, Hid.mk' (by unfold cnt; omega)⟩
  case round =>
    obtain ⟨pos, f, k, rfl, rfl, hf, hk, hpz, hrun⟩ := hrel
    by_cases hp : pos < s.size
    · obtain ⟨R, hR⟩ : ∃ R, (Utf8.decode s pos).1 = R := ⟨_, rfl⟩
      obtain ⟨wd, hwd⟩ : ∃ wd, (Utf8.decode s pos).2 = wd := ⟨_, rfl⟩
      have hw1 : 1 ≤ wd := by rw [← hwd]; exact Lib.decode_width_pos s pos hp
      have hw2 : pos + wd ≤ s.size := by rw [← hwd, dl_at]; have := (dl_wide (rest s pos) (fun e => (rest_nil s pos).1 e hp)).2; rw [rest_len] at this; omega
      have hnx : ∀ ty, (Instr.next (.pointer (some ⟨w.heap.size, 0, none⟩)) true ty).run Tryd.prog (w.iter s pos) = .ok (.tuple #[.bool true, .int .i64 pos, .int .i32 R]) (w.iter s (pos + wd)) := fun ty => by
        have := run_next_any (P := Tryd.prog) w s pos ty hp
        rw [hR, hwd] at this; exact this
      obtain ⟨g, rfl⟩ : ∃ g, f = g + 1 := ⟨f - 1, by omega⟩
      have hr := hrun.out
      rw [cntF, if_pos hp, hwd] at hr
      have HR := Hid.mk' (show (k + 1) + cntF s g (pos + wd) = cnt s by omega)
      clear hr hrun hR hwd
      go_wp2_with fail
      go_roundw
      case rel => exact ⟨pos + wd, g, k + 1, by go_num, rfl, by omega, by omega, by omega, HR⟩
      case measure => simp; omega
    · have hnx : ∀ ty, (Instr.next (.pointer (some ⟨w.heap.size, 0, none⟩)) true ty).run Tryd.prog (w.iter s pos) = _ := fun ty => run_next_end w s pos ty hp
      have hk2 : cntF s f pos = 0 := by cases f <;> simp [cntF, hp]
      have hr := hrun.out
      rw [hk2] at hr
      have HR := Hid.mk' (show k = cnt s by omega)
      clear hr hrun hk2
      go_wp2_with fail
      go_ret
      exact ⟨ret_n HR.out, (Below.refl _ _).alloc (Nat.le_refl _) _⟩
set_option maxHeartbeats 2000000 in
theorem cut_any (s : ByteArray) (n : Int) (hs : s.size ≤ 20000) (hn : -9223372036854775808 ≤ n ∧ n ≤ 9223372036854775807) (w : World) : Calls Tryd.prog 11 #[.string s, .int .i64 n] w fun e w' => e = .returned (.string (s.extract 0 (cutP s n))) ∧ Below w.heap.size w w' := by
  obtain ⟨m, hm⟩ : ∃ m : Nat, n.toNat = m := ⟨_, rfl⟩
  have HM := Hid.mk' (show cutP s n = cutF s s.size 0 m by unfold cutP; rw [hm])
  have hfull : s.extract 0 s.size = s := by apply bytes_inj'; simp
  go_enter Tryd.func11, Tryd.ntmps11
  go_wp2_with fail
  go_loopw [1, 5] (fun c i wr => ∃ (pos f k : Nat) (z : Int), c = .int .i64 z ∧ wr = w.iter s pos ∧ s.size ≤ pos + f ∧ pos ≤ s.size ∧ z.toNat = k ∧ (-9223372036854775808 ≤ z ∧ z ≤ 9223372036854775807) ∧ Hid (cutF s f pos k = cutF s s.size 0 m)) (fun _ _ wr => s.size - wr.iterPos w.heap.size)
  case atStart => exact ⟨0, s.size, m, n, rfl, rfl, by omega, by omega, hm, hn, Hid.mk' rfl⟩
  case round =>
    obtain ⟨pos, f, k, z, rfl, rfl, hf, hpz, hz, hz2, hrun⟩ := hrel
    by_cases hp : pos < s.size
    · obtain ⟨R, hR⟩ : ∃ R, (Utf8.decode s pos).1 = R := ⟨_, rfl⟩
      obtain ⟨wd, hwd⟩ : ∃ wd, (Utf8.decode s pos).2 = wd := ⟨_, rfl⟩
      have hw1 : 1 ≤ wd := by rw [← hwd]; exact Lib.decode_width_pos s pos hp
      have hw2 : pos + wd ≤ s.size := by rw [← hwd, dl_at]; have := (dl_wide (rest s pos) (fun e => (rest_nil s pos).1 e hp)).2; rw [rest_len] at this; omega
      have hnx : ∀ ty, (Instr.next (.pointer (some ⟨w.heap.size, 0, none⟩)) true ty).run Tryd.prog (w.iter s pos) = .ok (.tuple #[.bool true, .int .i64 pos, .int .i32 R]) (w.iter s (pos + wd)) := fun ty => by
        have := run_next_any (P := Tryd.prog) w s pos ty hp
        rw [hR, hwd] at this; exact this
      obtain ⟨g, rfl⟩ : ∃ g, f = g + 1 := ⟨f - 1, by omega⟩
      have hr := hrun.out
      by_cases hlt : z < 1
      · rw [cutF, if_neg (by omega)] at hr
        have HR := Hid.mk' (HM.out.trans hr.symm)
        clear hr hrun hR hwd HM
        go_wp2_with fail
        go_ret
        exact ⟨ret_s (by rw [HR.out]), (Below.refl _ _).alloc (Nat.le_refl _) _⟩
      · rw [cutF, if_pos ⟨hp, by omega⟩, hwd] at hr
        have HR := Hid.mk' hr
        clear hr hrun hR hwd
        go_wp2_with fail
        go_roundw
        case rel => exact ⟨pos + wd, g, k - 1, z - 1, by go_num, rfl, by omega, by omega, by omega, by omega, HR⟩
        case measure => simp; omega
    · have hnx : ∀ ty, (Instr.next (.pointer (some ⟨w.heap.size, 0, none⟩)) true ty).run Tryd.prog (w.iter s pos) = _ := fun ty => run_next_end w s pos ty hp
      have hk2 : cutF s f pos k = pos := by cases f <;> simp [cutF, hp]
      have hr := hrun.out
      rw [hk2] at hr
      have HR := Hid.mk' (show cutP s n = s.size by rw [HM.out, ← hr]; omega)
      clear hr hrun hk2
      go_wp2_with fail
      go_ret
      exact ⟨ret_s (by rw [HR.out, hfull]), (Below.refl _ _).alloc (Nat.le_refl _) _⟩
end Go.Proofs.YtnhonjhpggnglaaDoor
