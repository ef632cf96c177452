/- Layer 3 (wire): the document's reading. -/
import Derived.Test.YtnkgicjclngnpaaVi
namespace Go.Proofs.Ytnkgicjclngnpaa
open Go.RowKit

/-- What reads as bytes, from i on. -/
theorem cut_from {w : World} {v : Value} {l : List UInt8} (h : BS w v l) (i : Nat) (hi : i ≤ l.length) :
    ∃ v', (∀ w', (Instr.slice 22 v (some (.int .i64 (i : Int))) none none).run Try.prog w' = .ok v' w') ∧ BS w v' (l.drop i) := by
  obtain ⟨v', h1, h2⟩ := cut_run h i l.length hi (Nat.le_refl _)
  refine ⟨v', fun w' => ?_, by rw [List.take_of_length_le (by simp)] at h2; exact h2⟩
  rw [← h1 w']
  obtain ⟨a, cap, rfl, hle, hn, hc⟩ := h
  have hel : Try.prog.elem 22 = 5 := by kernel_rfl
  have hu : Try.prog.underlying 22 = some (.slice (Try.prog.elem 22)) := by kernel_rfl
  have hs := Try.sizeOf5
  rw [run_slice_lh w' _ a l.length cap hu .i64 .i64 (i : Int) (l.length : Int) (by omega) (by omega) (by omega), run_slice_l w' _ a l.length cap hu .i64 (i : Int) (by omega) (by omega)]
  simp

theorem len_bs {w : World} {v : Value} {l : List UInt8} (h : BS w v l) (w' : World) : (Builtin.len_ #[22] 3 #[v]).run Try.prog w' = .ok (.int .i64 (l.length : Int)) w' := by
  obtain ⟨a, cap, rfl, _⟩ := h
  exact run_len_slice (P := Try.prog) w' 22 3 a l.length cap (by kernel_rfl)

def rdE (r : Nat × Nat × Nat) : Ending := .returned (.tuple #[.int .i64 r.1, .int .i64 r.2.1, .int .i64 r.2.2])
set_option maxHeartbeats 4000000 in
theorem refnum_any (v : Value) (l : List UInt8) (hl : l.length ≤ 100000) (w : World) (h : BS w v l) :
    Calls Try.prog 44 #[v] w fun e w' => e = rdE (rd l) ∧ w = w' := by
  obtain ⟨a, cap, rfl, hle, hn, hc⟩ := h
  have HC := Hid.mk' hc
  clear hc hn
  go_enter Try.func44, Try.ntmps44
  go_wp2_with fail
  go_loop [5, 6] (fun nv iv => ∃ m p : Nat, nv = .int .i64 m ∧ iv = .int .i64 p ∧ p ≤ l.length ∧ m < 4611686018427387904 ∧ rd l = rdF (l.drop p) m (decide (p = 0)) p) (fun _ iv => l.length - (intOf iv).toNat)
  case atStart => exact ⟨0, 0, rfl, rfl, Nat.zero_le _, by omega, by simp [rd]⟩
  case round =>
    obtain ⟨m, p, rfl, rfl, hpl, hm, hrd⟩ := hrel
    by_cases hlt : p < l.length
    · obtain ⟨b, off, rfl, hcell⟩ := HC.out (fun e => by rw [e] at hlt; simp at hlt)
      have hcp := hcell p hlt
      rw [rdF_drop l p hlt] at hrd
      have hcb := u8_lt l[p]
      obtain ⟨c, hcc⟩ : ∃ c, l[p].toNat = c := ⟨_, rfl⟩
      rw [hcc] at hrd hcp hcb
      clear hcell hcc
      have hi0 : (0 : Int) ≤ (p : Int) := by omega
      have hi1 : (p : Int) < (l.length : Int) := by omega
      obtain ⟨z, hz⟩ : ∃ z : Int, (c : Int) = z := ⟨_, rfl⟩
      obtain ⟨y, hy⟩ : ∃ y : Int, (m : Int) = y := ⟨_, rfl⟩
      rw [hz] at hcp
      rw [hy]
      have hz0 : 0 ≤ z := by omega
      have hz1 : z < 256 := by omega
      have hy0 : 0 ≤ y := by omega
      have HN := Hid.mk' (And.intro hz (And.intro hy hpl))
      have HNM := Hid.mk' hm
      by_cases hp : p = 0
      · subst hp
        have t1 : ((((0 : Nat) : Int)) == (0 : Int)) = true := rfl
        have hcp0 : w.cell? ⟨b, off, none⟩ = some (.int .u8 z) := hcp
        by_cases h128 : c = 128
        · rw [if_pos (.inl ⟨by simp, h128⟩)] at hrd
          have t2 : (z == 128) = true := by simp; omega
          clear h128
          have HR := Hid.mk' hrd
          clear hrd hm hz hy
          go_wp2_with fail
          go_ret3
          exact ⟨by unfold rdE; rw [HR.out]; rfl, rfl⟩
        · have t2 : (z == 128) = false := by simp; omega
          by_cases h55 : 36028797018963968 ≤ m
          · rw [if_pos (.inr h55)] at hrd
            have t3' : 36028797018963968 ≤ y := by omega
            clear h128 h55
            have HR := Hid.mk' hrd
            clear hrd hm hz hy
            go_wp2_with fail
            go_ret3
            exact ⟨by unfold rdE; rw [HR.out]; rfl, rfl⟩
          · rw [if_neg (fun h => by rcases h with h | h; · exact h128 h.2
                                    · exact h55 h)] at hrd
            have t3 : y < 36028797018963968 := by omega
            by_cases hc7 : c < 128
            · rw [if_pos hc7] at hrd
              have t4 : z < 128 := by omega
              clear h128 h55 hc7
              have HR := Hid.mk' hrd
              clear hrd hm hz hy
              go_wp2_with fail
              go_ret3
              exact ⟨by unfold rdE; rw [HR.out]; exact ret3i (by have := HN.out; dsimp only; omega) (by have := HN.out; dsimp only; omega) rfl, rfl⟩
            · rw [if_neg hc7] at hrd
              have t4 : 128 ≤ z := by omega
              clear h128 h55
              have HR := Hid.mk' hrd
              clear hrd hm hz hy
              go_wp2_with fail
              go_round
              case rel => exact ⟨m * 128 + (c - 128), 0 + 1, (by have := HN.out; congr 1; omega), by go_num, by omega, (by have := HN.out; omega), (by rw [HR.out, show decide (0 + 1 = 0) = false from by simp])⟩
              case measure => simp [intOf]; omega
      · have t1 : ((p : Int) == (0 : Int)) = false := by simp; omega
        by_cases h55 : 36028797018963968 ≤ m
        · rw [if_pos (.inr h55)] at hrd
          have t3' : 36028797018963968 ≤ y := by omega
          clear hp h55
          have HR := Hid.mk' hrd
          clear hrd hm hz hy
          go_wp2_with fail
          go_ret3
          exact ⟨by unfold rdE; rw [HR.out]; rfl, rfl⟩
        · rw [if_neg (fun h => by rcases h with h | h; · exact hp (of_decide_eq_true h.1)
                                  · exact h55 h)] at hrd
          have t3 : y < 36028797018963968 := by omega
          by_cases hc7 : c < 128
          · rw [if_pos hc7] at hrd
            have t4 : z < 128 := by omega
            clear hp h55 hc7
            have HR := Hid.mk' hrd
            clear hrd hm hz hy
            go_wp2_with fail
            go_ret3
            exact ⟨by unfold rdE; rw [HR.out]; exact ret3i (by have := HN.out; dsimp only; omega) (by have := HN.out; dsimp only; omega) rfl, rfl⟩
          · rw [if_neg hc7] at hrd
            have t4 : 128 ≤ z := by omega
            clear h55
            have HR := Hid.mk' hrd
            clear hrd hm hz hy
            go_wp2_with fail
            go_round
            case rel => exact ⟨m * 128 + (c - 128), p + 1, (by have := HN.out; congr 1; omega), by go_num, by omega, (by have := HN.out; omega), (by rw [HR.out, show decide (p + 1 = 0) = false from by simp])⟩
            case measure => simp [intOf]; omega
    · rw [rdF_end l p (by omega)] at hrd
      have HR := Hid.mk' hrd
      clear hrd
      go_wp2_with fail
      go_ret3
      exact ⟨by unfold rdE; rw [HR.out]; rfl, rfl⟩
def rcS (l : List UInt8) (most : Int) : Nat × Nat × Nat := if (rd l).2.2 = 0 ∧ most < ((rd l).1 : Int) then (0, 0, 31) else rd l
theorem refcount_any (v : Value) (l : List UInt8) (most : Int) (hl : l.length ≤ 100000) (w : World) (h : BS w v l) :
    Calls Try.prog 46 #[v, .int .i64 most] w fun e w' => e = rdE (rcS l most) ∧ w = w' := by
  have CN := Hid.mk' (refnum_any v l hl w h)
  unfold rcS
  unfold rdE at *
  generalize rd l = r at *
  obtain ⟨n, k, e⟩ := r
  dsimp only at *
  clear h
  by_cases he : e = 0
  · subst he
    by_cases hm : most < (n : Int)
    · rw [if_pos ⟨rfl, hm⟩]
      go_enter Try.func46, Try.ntmps46
      go_wp2_with fail
      refine (CN.out).mono ?_; rintro e w' ⟨rfl, rfl⟩
      go_wp2_with fail
      go_ret3
      exact ⟨rfl, rfl⟩
    · rw [if_neg (fun h => hm h.2)]
      go_enter Try.func46, Try.ntmps46
      go_wp2_with fail
      refine (CN.out).mono ?_; rintro e w' ⟨rfl, rfl⟩
      go_wp2_with fail
      go_ret3
      exact ⟨rfl, rfl⟩
  · rw [if_neg (fun h => he h.1)]
    have t1 : ((e : Int) == 0) = false := by simp; omega
    clear he
    go_enter Try.func46, Try.ntmps46
    go_wp2_with fail
    refine (CN.out).mono ?_; rintro e' w' ⟨rfl, rfl⟩
    go_wp2_with fail
    go_ret3
    exact ⟨rfl, rfl⟩
/-- A text read: the text, how many bytes, the fault. -/
def rrS (l : List UInt8) (most : Int) : List UInt8 × Nat × Nat :=
  if (rd l).2.2 ≠ 0 then ([], 0, (rd l).2.2) else if most < ((rd l).1 : Int) then ([], 0, 31) else if l.length - (rd l).2.1 < (rd l).1 then ([], 0, 30) else ((l.drop (rd l).2.1).take (rd l).1, (rd l).2.1 + (rd l).1, 0)
theorem refread_any (v : Value) (l : List UInt8) (most : Int) (hl : l.length ≤ 100000) (w : World) (h : BS w v l) :
    Calls Try.prog 45 #[v, .int .i64 most] w fun e w' => e = .returned (.tuple #[.string (mkB (rrS l most).1), .int .i64 (rrS l most).2.1, .int .i64 (rrS l most).2.2]) ∧ w = w' := by
  have CN := Hid.mk' (refnum_any v l hl w h)
  have hbd := rdF_bd l 0 true 0
  rw [show rdF l 0 true 0 = rd l from rfl] at hbd
  unfold rrS
  unfold rdE at CN
  generalize rd l = r at *
  obtain ⟨n, k, e⟩ := r
  dsimp only at *
  obtain ⟨h1, h2, h3, h4⟩ := hbd
  have hk : k ≤ l.length := by omega
  by_cases he : e = 0
  · subst he
    rw [if_neg (by simp)]
    have hne : (((0 : Nat) : Int) != 0) = false := rfl
    by_cases hm : most < (n : Int)
    · rw [if_pos hm]
      clear h h2 h3 h4
      go_enter Try.func45, Try.ntmps45
      go_wp2_with fail
      refine (CN.out).mono ?_; rintro e w' ⟨rfl, rfl⟩
      go_wp2_with fail
      go_ret3
      exact ⟨rfl, rfl⟩
    · rw [if_neg hm]
      by_cases hs : l.length - k < n
      · rw [if_pos hs]
        have hi : (l.length : Int) - (k : Int) < (n : Int) := by omega
        obtain ⟨va, vc, rfl⟩ := h.form
        clear h h2 h3 h4
        go_enter Try.func45, Try.ntmps45
        go_wp2_with fail
        refine (CN.out).mono ?_; rintro e w' ⟨rfl, rfl⟩
        go_wp2_with fail
        go_ret3
        exact ⟨rfl, rfl⟩
      · rw [if_neg hs]
        have hi : (n : Int) ≤ (l.length : Int) - (k : Int) := by omega
        obtain ⟨v2, hcut, hbs2⟩ := cut_run h k (k + n) (by omega) (by omega)
        rw [show k + n - k = n from by omega] at hbs2
        have hcv := conv_bs hbs2
        rw [Int.natCast_add] at hcut
        have hlen := fun w' => len_bs h w'
        clear h h2 h3 h4 hbs2 hs
        go_enter Try.func45, Try.ntmps45
        go_wp2_with fail
        refine (CN.out).mono ?_; rintro e w' ⟨rfl, rfl⟩
        go_wp2_with fail
        go_ret3
        exact ⟨rfl, rfl⟩
  · rw [if_pos he]
    have hne : ((e : Int) != 0) = true := by simp; omega
    clear he h h2 h3 h4
    go_enter Try.func45, Try.ntmps45
    go_wp2_with fail
    refine (CN.out).mono ?_; rintro e' w' ⟨rfl, rfl⟩
    go_wp2_with fail
    go_ret3
    exact ⟨rfl, rfl⟩
end Go.Proofs.Ytnkgicjclngnpaa
