/- Layer 1 (runes): the words of a line by definition. -/
import Derived.Test.YtnhonjhpggnglaaWd
namespace Go.Proofs.Ytnhonjhpggnglaa
open Go.RowKit

section
variable (s : ByteArray) (fr p : Nat) (D : List (List UInt8)) (hp : p < s.size)
include hp
theorem wd_none (h : bt s p = 32) : wdRun (rest s p) D [] 0 = wdRun (rest s (p + 1)) D [] 0 := by
  rw [rest_cons s p hp, wdRun, if_pos rfl, if_pos ((bt_is s p hp 32).2 h)]
theorem wd_first (m : Nat) (h : bt s p ≠ 32) (hm : m = if bt s p = 34 then 2 else 1) : wdRun (rest s p) D [] 0 = wdRun (rest s (p + 1)) D (mid s p (p + 1)) m := by
  have e : mid s p (p + 1) = [s[p]] := by rw [mid_snoc s p p (Nat.le_refl _) hp, mid_self]; rfl
  rw [e, rest_cons s p hp, wdRun, if_pos rfl, if_neg (fun x => h ((bt_is s p hp 32).1 x)), hm]
  by_cases h34 : bt s p = 34
  · rw [if_pos h34, if_pos ((bt_is s p hp 34).2 h34)]
  · rw [if_neg h34, if_neg (fun x => h34 ((bt_is s p hp 34).1 x))]
theorem wd1_shut (h : bt s p = 32) : wdRun (rest s p) D (mid s fr p) 1 = wdRun (rest s p) (D ++ [mid s fr p]) [] 0 := by
  have hb := (bt_is s p hp 32).2 h
  rw [rest_cons s p hp, wdRun, if_neg (by omega), if_pos rfl, if_pos hb, wdRun, if_pos rfl, if_pos hb]
theorem wd1_more (hfr : fr ≤ p) (h : bt s p ≠ 32) : wdRun (rest s p) D (mid s fr p) 1 = wdRun (rest s (p + 1)) D (mid s fr (p + 1)) 1 := by
  rw [rest_cons s p hp, wdRun, if_neg (by omega), if_pos rfl, if_neg (fun x => h ((bt_is s p hp 32).1 x)), mid_snoc s fr p hfr hp]
theorem wd2_shut (hfr : fr ≤ p) (h : bt s p = 34) : wdRun (rest s p) D (mid s fr p) 2 = wdRun (rest s (p + 1)) (D ++ [mid s fr (p + 1)]) [] 0 := by
  rw [rest_cons s p hp, wdRun, if_neg (by omega), if_neg (by omega), if_pos rfl, if_pos ((bt_is s p hp 34).2 h), mid_snoc s fr p hfr hp]
theorem wd2_more (hfr : fr ≤ p) (h : bt s p ≠ 34) (h2 : bt s p ≠ 92) : wdRun (rest s p) D (mid s fr p) 2 = wdRun (rest s (p + 1)) D (mid s fr (p + 1)) 2 := by
  rw [rest_cons s p hp, wdRun, if_neg (by omega), if_neg (by omega), if_pos rfl, if_neg (fun x => h ((bt_is s p hp 34).1 x)), if_neg (fun x => h2 ((bt_is s p hp 92).1 x)), mid_snoc s fr p hfr hp]
theorem wd2_back (hfr : fr ≤ p) (h : bt s p = 92) : wdRun (rest s p) D (mid s fr p) 2 = wdRun (rest s (p + 1)) D (mid s fr (p + 1)) 3 := by
  have h34 : ¬ s[p] = 34 := fun x => by have := (bt_is s p hp 34).1 x; rw [h] at this; exact absurd this (by decide)
  rw [rest_cons s p hp, wdRun, if_neg (by omega), if_neg (by omega), if_pos rfl, if_neg h34, if_pos ((bt_is s p hp 92).2 h), mid_snoc s fr p hfr hp]
theorem wd2_last (hfr : fr ≤ p) (he : s.size ≤ p + 1) (h : bt s p = 92) : wdRun (rest s p) D (mid s fr p) 2 = wdRun (rest s (p + 1)) D (mid s fr (p + 1)) 2 := by
  rw [wd2_back s fr p D hp hfr h, rest_end s (p + 1) he, wdRun, wdRun, if_neg (by omega), if_neg (by omega)]
theorem wd2_esc (hp3 : p + 1 < s.size) (hfr : fr ≤ p) (h : bt s p = 92) : wdRun (rest s p) D (mid s fr p) 2 = wdRun (rest s (p + 2)) D (mid s fr (p + 2)) 2 := by
  rw [wd2_back s fr p D hp hfr h, rest_cons s (p + 1) hp3, wdRun, if_neg (by omega), if_neg (by omega), if_neg (by omega), ← mid_snoc s fr (p + 1) (by omega) hp3]
end

theorem one_oc (b : ByteArray) : ∀ u ∈ [Value.string b], u.oneCell' = true := by intro u hu; simp at hu; subst hu; rfl
set_option maxHeartbeats 4000000 in
theorem refwords_any (s : ByteArray) (hs : s.size ≤ 20000) (w : World) : Calls Try.prog 13 #[.string s] w (Row w (wordsL s.data.toList)) := by
  obtain ⟨i0, hi, hz0, hz1, hz2⟩ := info_parts str_info
  go_enter Try.func13, Try.ntmps13
  go_wp2_with fail
  go_loopw [3, 4] (fun v a wr => ∃ (pos : Nat) (D : List (List UInt8)), a = .int .i64 pos ∧ D.length ≤ pos ∧ pos ≤ s.size ∧
    Hid (wdRun (rest s pos) D [] 0 = wordsL s.data.toList) ∧ wr.ownsRow w.heap.size 9 1 v D.length (vals D) ∧ Below w.heap.size w wr) (fun _ a _ => s.size - (intOf a).toNat)
  case atStart => exact ⟨0, [], rfl, by simp, by omega, rfl, World.ownsRow_nil _ _ _ _, Below.refl _ _⟩
  case round =>
    obtain ⟨fr, D, rfl, hD, hpos, hrun, hown, hbel⟩ := hrel
    by_cases hp : fr < s.size
    · by_cases h32 : bt s fr = 32
      · have hb32 : (((s[fr].toNat : Nat) : Int) == 32) = true := by rw [bt_at s fr hp, h32]; rfl
        have HR := Hid.mk' ((wd_none s fr D hp h32).symm.trans hrun.out)
        clear h32
        go_wp2_with fail
        go_roundw
        case rel => exact ⟨fr + 1, D, by go_num, by omega, by omega, HR, hown, hbel⟩
        case measure => simp [intOf]; omega
      · have hb32 : (((s[fr].toNat : Nat) : Int) == 32) = false := by rw [bt_at s fr hp, beq_eq_false_iff_ne]; omega
        by_cases h34 : bt s fr = 34
        · have hb34 : (((s[fr].toNat : Nat) : Int) == 34) = true := by rw [bt_at s fr hp, h34]; rfl
          have HR := Hid.mk' ((wd_first s fr D hp 2 h32 (by rw [if_pos h34])).symm.trans hrun.out)
          clear h32 h34 hrun
          go_wp2_with fail
          go_loop [4] (fun a => ∃ p : Nat, a = .int .i64 p ∧ fr < p ∧ p ≤ s.size ∧ Hid (wdRun (rest s p) D (mid s fr p) 2 = wordsL s.data.toList)) (fun a => s.size - (intOf a).toNat)
          case atStart => exact ⟨fr + 1, by go_num, by omega, by omega, HR⟩
          case round =>
            obtain ⟨p, rfl, hfp, hp1, hr⟩ := hrel
            by_cases hp2 : p < s.size
            · by_cases h92 : bt s p = 92
              · have hb92 : (((s[p].toNat : Nat) : Int) == 92) = true := by rw [bt_at s p hp2, h92]; rfl
                by_cases hp3 : p + 1 < s.size
                · have HR' := Hid.mk' ((wd2_esc s fr p D hp2 hp3 (by omega) h92).symm.trans hr.out)
                  clear h92
                  go_wp2_with fail
                  go_round
                  case rel => exact ⟨p + 2, rfl, by omega, by omega, HR'⟩
                  case measure => simp [intOf]; omega
                · have hb34 : (((s[p].toNat : Nat) : Int) == 34) = false := by rw [bt_at s p hp2, h92]; rfl
                  have HR' := Hid.mk' ((wd2_last s fr p D hp2 (by omega) (by omega) h92).symm.trans hr.out)
                  clear h92
                  go_wp2_with fail
                  go_round
                  case rel => exact ⟨p + 1, by go_num, by omega, by omega, HR'⟩
                  case measure => simp [intOf]; omega
              · have hb92 : (((s[p].toNat : Nat) : Int) == 92) = false := by rw [bt_at s p hp2, beq_eq_false_iff_ne]; omega
                by_cases h34 : bt s p = 34
                · have hb34 : (((s[p].toNat : Nat) : Int) == 34) = true := by rw [bt_at s p hp2, h34]; rfl
                  have HR' := Hid.mk' ((wd2_shut s fr p D hp2 (by omega) h34).symm.trans hr.out)
                  clear h92 h34
                  go_wp2_with (at_builtin; refine wpList_append_own _ rfl (.tmp 63) (.tmp 68) 26 rfl w.heap.size 9 i0 _ 1 16 Try.underlying26 hi hz0 hz1 hz2 rfl (by decide) u3 _ _ rfl (hown.alloc _) ⟨wr.heap.size, 0, none⟩ 1 1 [.string (s.extract fr (p + 1))] rfl rfl (cell_one_new _ _ _) (one_oc _) (by simp only [maxLen]; omega) (by omega) (by have := hbel.size; simp; omega) ?_)
                  intro v1 w1 hown2 hgr1 _
                  have hbel2 : Below w.heap.size w w1 := (hbel.alloc hbel.size _).grown hgr1 (by have := hbel.size; simp; omega) (fun k hk => (hown.lt k hk).1)
                  rw [← mid_extract, vals_snoc] at hown2
                  clear hgr1 hown hbel
                  go_wp2_with fail
                  go_roundw
                  case rel => exact ⟨p + 1, D ++ [mid s fr (p + 1)], by go_num, by simp; omega, by omega, HR', by simpa using hown2, hbel2⟩
                  case measure => simp [intOf]; omega
                · have hb34 : (((s[p].toNat : Nat) : Int) == 34) = false := by rw [bt_at s p hp2, beq_eq_false_iff_ne]; omega
                  have HR' := Hid.mk' ((wd2_more s fr p D hp2 (by omega) h34 h92).symm.trans hr.out)
                  clear h92 h34
                  go_wp2_with fail
                  go_round
                  case rel => exact ⟨p + 1, by go_num, by omega, by omega, HR'⟩
                  case measure => simp [intOf]; omega
            · obtain rfl : p = s.size := by omega
              have HR' : Hid (wdRun (rest s s.size) (D ++ [mid s fr s.size]) [] 0 = wordsL s.data.toList) := by
                have h := hr.out
                rw [rest_end s s.size (Nat.le_refl _), wdRun] at h ⊢
                rw [if_neg (by omega)] at h
                exact h
              go_wp2_with (at_builtin; refine wpList_append_own _ rfl (.tmp 63) (.tmp 68) 26 rfl w.heap.size 9 i0 _ 1 16 Try.underlying26 hi hz0 hz1 hz2 rfl (by decide) u3 _ _ rfl (hown.alloc _) ⟨wr.heap.size, 0, none⟩ 1 1 [.string (s.extract fr s.size)] rfl rfl (cell_one_new _ _ _) (one_oc _) (by simp only [maxLen]; omega) (by omega) (by have := hbel.size; simp; omega) ?_)
              intro v1 w1 hown2 hgr1 _
              have hbel2 : Below w.heap.size w w1 := (hbel.alloc hbel.size _).grown hgr1 (by have := hbel.size; simp; omega) (fun k hk => (hown.lt k hk).1)
              rw [← mid_extract, vals_snoc] at hown2
              clear hgr1 hown hbel
              go_wp2_with fail
              go_roundw
              case rel => exact ⟨s.size, D ++ [mid s fr s.size], rfl, by simp; omega, by omega, HR', by simpa using hown2, hbel2⟩
              case measure => simp [intOf]; omega
        · have hb34 : (((s[fr].toNat : Nat) : Int) == 34) = false := by rw [bt_at s fr hp, beq_eq_false_iff_ne]; omega
          have HR := Hid.mk' ((wd_first s fr D hp 1 h32 (by rw [if_neg h34])).symm.trans hrun.out)
          clear h32 h34 hrun
          go_wp2_with fail
          go_loop [4] (fun a => ∃ p : Nat, a = .int .i64 p ∧ fr < p ∧ p ≤ s.size ∧ Hid (wdRun (rest s p) D (mid s fr p) 1 = wordsL s.data.toList)) (fun a => s.size - (intOf a).toNat)
          case atStart => exact ⟨fr + 1, by go_num, by omega, by omega, HR⟩
          case round =>
            obtain ⟨p, rfl, hfp, hp1, hr⟩ := hrel
            by_cases hp2 : p < s.size
            · by_cases h32 : bt s p = 32
              · have hb32 : (((s[p].toNat : Nat) : Int) == 32) = true := by rw [bt_at s p hp2, h32]; rfl
                have HR' := Hid.mk' ((wd1_shut s fr p D hp2 h32).symm.trans hr.out)
                clear h32
                go_wp2_with (at_builtin; refine wpList_append_own _ rfl (.tmp 63) (.tmp 68) 26 rfl w.heap.size 9 i0 _ 1 16 Try.underlying26 hi hz0 hz1 hz2 rfl (by decide) u3 _ _ rfl (hown.alloc _) ⟨wr.heap.size, 0, none⟩ 1 1 [.string (s.extract fr p)] rfl rfl (cell_one_new _ _ _) (one_oc _) (by simp only [maxLen]; omega) (by omega) (by have := hbel.size; simp; omega) ?_)
                intro v1 w1 hown2 hgr1 _
                have hbel2 : Below w.heap.size w w1 := (hbel.alloc hbel.size _).grown hgr1 (by have := hbel.size; simp; omega) (fun k hk => (hown.lt k hk).1)
                rw [← mid_extract, vals_snoc] at hown2
                clear hgr1 hown hbel
                go_wp2_with fail
                go_roundw
                case rel => exact ⟨p, D ++ [mid s fr p], rfl, by simp; omega, by omega, HR', by simpa using hown2, hbel2⟩
                case measure => simp [intOf]; omega
              · have hb32 : (((s[p].toNat : Nat) : Int) == 32) = false := by rw [bt_at s p hp2, beq_eq_false_iff_ne]; omega
                have HR' := Hid.mk' ((wd1_more s fr p D hp2 (by omega) h32).symm.trans hr.out)
                clear h32
                go_wp2_with fail
                go_round
                case rel => exact ⟨p + 1, by go_num, by omega, by omega, HR'⟩
                case measure => simp [intOf]; omega
            · obtain rfl : p = s.size := by omega
              have HR' : Hid (wdRun (rest s s.size) (D ++ [mid s fr s.size]) [] 0 = wordsL s.data.toList) := by
                have h := hr.out
                rw [rest_end s s.size (Nat.le_refl _), wdRun] at h ⊢
                rw [if_neg (by omega)] at h
                exact h
              go_wp2_with (at_builtin; refine wpList_append_own _ rfl (.tmp 63) (.tmp 68) 26 rfl w.heap.size 9 i0 _ 1 16 Try.underlying26 hi hz0 hz1 hz2 rfl (by decide) u3 _ _ rfl (hown.alloc _) ⟨wr.heap.size, 0, none⟩ 1 1 [.string (s.extract fr s.size)] rfl rfl (cell_one_new _ _ _) (one_oc _) (by simp only [maxLen]; omega) (by omega) (by have := hbel.size; simp; omega) ?_)
              intro v1 w1 hown2 hgr1 _
              have hbel2 : Below w.heap.size w w1 := (hbel.alloc hbel.size _).grown hgr1 (by have := hbel.size; simp; omega) (fun k hk => (hown.lt k hk).1)
              rw [← mid_extract, vals_snoc] at hown2
              clear hgr1 hown hbel
              go_wp2_with fail
              go_roundw
              case rel => exact ⟨s.size, D ++ [mid s fr s.size], rfl, by simp; omega, by omega, HR', by simpa using hown2, hbel2⟩
              case measure => simp [intOf]; omega
    · obtain rfl : fr = s.size := by omega
      have hr := hrun.out
      rw [rest_end s s.size (Nat.le_refl _), wdRun, if_pos rfl] at hr
      have HR := Hid.mk' hr
      clear hr
      go_wp2_with fail
      go_ret
      exact ⟨_, rfl, by rw [← HR.out]; exact hown, hbel⟩
end Go.Proofs.Ytnhonjhpggnglaa
