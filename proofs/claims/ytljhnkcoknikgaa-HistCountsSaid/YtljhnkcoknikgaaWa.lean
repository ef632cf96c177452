/- The walks of layer 2 (nums): texts of numbers. -/
import Derived.Test.YtljhnkcoknikgaaChecked
import Derived.Test.YtljhnkcoknikgaaPn
import Derived.WalkKit
import Derived.ProofKit
import Derived.WalkLawsBesides
import Derived.WalkSpells
import Derived.Outline
import Derived.Laws.BytesArg
namespace Go.Proofs.Ytljhnkcoknikgaa
open Go.RowKit

def cut (a : Int) : Int := if a < 0 then 0 else if 1125899906842624 < a then 1125899906842624 else a
theorem cut_bd (a : Int) : 0 ≤ cut a ∧ cut a ≤ 1125899906842624 := by unfold cut; split <;> (try split) <;> omega


set_option maxHeartbeats 400000 in
theorem within_any (a b c : Int) (w : World) :
    Calls Try.prog 100 #[.int .i64 a, .int .i64 b, .int .i64 c] w fun e w' => e = .returned (.int .i64 (min (max a b) c)) ∧ w = w' := by
  by_cases h1 : a < b
  · by_cases h2 : c < b
    · go_enter Try.func100, Try.ntmps100
      go_wp2
      go_ret
      exact ⟨ret_int (by omega), rfl⟩
    · go_enter Try.func100, Try.ntmps100
      go_wp2
      go_ret
      exact ⟨ret_int (by omega), rfl⟩
  · by_cases h2 : c < a
    · go_enter Try.func100, Try.ntmps100
      go_wp2
      go_ret
      exact ⟨ret_int (by omega), rfl⟩
    · go_enter Try.func100, Try.ntmps100
      go_wp2
      go_ret
      exact ⟨ret_int (by omega), rfl⟩

theorem within_cut (a : Int) (w : World) :
    Calls Try.prog 100 #[.int .i64 a, .int .i64 0, .int .i64 1125899906842624] w fun e w' => e = .returned (.int .i64 (cut a)) ∧ w = w' :=
  (within_any a 0 1125899906842624 w).mono fun _ _ ⟨he, hw⟩ => ⟨by rw [he]; exact ret_int (by unfold cut; split <;> (try split) <;> omega), hw⟩

/-- The sixteen cells of the digits where the first f of them are still noughts. -/
def cells16 (n f : Nat) : Array Value := ((List.replicate f (Value.int .u8 0)) ++ (lows (16 - f) n).map (fun c => Value.int .u8 (c.toNat : Int))).toArray
theorem cells16_zero (n : Nat) : cells16 n 16 = #[.int .u8 0, .int .u8 0, .int .u8 0, .int .u8 0, .int .u8 0, .int .u8 0, .int .u8 0, .int .u8 0, .int .u8 0, .int .u8 0, .int .u8 0, .int .u8 0, .int .u8 0, .int .u8 0, .int .u8 0, .int .u8 0] := by
  simp [cells16, lows, List.replicate]
theorem cells16_at (n f : Nat) (h : f < 16) : (cells16 n (f + 1))[f]? = some (.int .u8 0) := by
  simp [cells16, List.getElem?_append]
theorem cells16_set (n f : Nat) (h : f < 16) : (cells16 n (f + 1)).setIfInBounds f (.int .u8 ((dig (n / 10 ^ (16 - (f + 1)))).toNat : Int)) = cells16 n f := by
  unfold cells16
  rw [show 16 - f = (16 - (f + 1)) + 1 from by omega, lows_cons]
  simp only [List.setIfInBounds_toArray, List.map_cons]
  congr 1
  rw [List.replicate_succ', List.append_assoc, List.set_append_right _ _ (by simp)]
  simp
theorem cells16_tail (n f i : Nat) (h : f ≤ 16) (hi : i < 16 - f) : (cells16 n f)[f + i]? = some (.int .u8 (((lows (16 - f) n).map (fun c => (c.toNat : Int))).getD i 0)) := by
  simp [cells16, List.getElem?_append, lows_length, hi]
theorem cells16_size (n f : Nat) (h : f ≤ 16) : (cells16 n f).size = 16 := by simp [cells16, lows_length]; omega
theorem dig_val (m : Nat) : (48 + (m : Int) % 10) = ((dig m).toNat : Int) := by
  unfold dig
  simp
  omega

theorem len16 : Try.prog.arrayLen 152 = 16 := by kernel_rfl
theorem elem16 : Try.prog.elem 152 = 5 := by kernel_rfl
theorem size8 (w : World) : (sizeOf 5).run Try.prog w = .ok 1 w := by kernel_rfl
theorem slice16 (B f : Nat) (w : World) (h : f < 16) : (Instr.sliceAt 152 (.pointer (some ⟨B, 0, none⟩)) (some (.int .i64 (f : Int))) none none).run Try.prog w = .ok (.slice (some ⟨B, f, none⟩) (16 - f) (16 - f)) w := by
  rw [run_sliceAt_array_l w 152 _ (by rw [len16, elem16]; exact Try.underlying152) .i64 _ (by omega) (by rw [len16]; omega), elem16, size8, len16]
  have : ¬ 16 = f := by omega
  simp [Result.andThen, slicedAt, Addr.add, this]
  omega
theorem str_of_lows (N fr : Nat) (h : fr < 16) (h2 : N < 10 ^ 16) (h3 : 0 = N / 10 ^ (16 - fr)) (h4 : fr = 15 ∨ 0 < N / 10 ^ (15 - fr)) : strOfNums ((lows (16 - fr) N).map (fun c => (c.toNat : Int))) = ⟨(dec N).toArray⟩ := by
  have hp : N < 10 ^ (16 - fr) := by
    rcases Nat.lt_or_ge N (10 ^ (16 - fr)) with h | h
    · exact h
    · have := Nat.div_pos h (Nat.pow_pos (by omega)); omega
  rw [show 16 - fr = (15 - fr) + 1 from by omega] at hp ⊢
  rw [dec_lows (15 - fr) N (by omega) hp (by
    rcases h4 with h4 | h4
    · left; omega
    · right
      rcases Nat.lt_or_ge N (10 ^ (15 - fr)) with h | h
      · rw [Nat.div_eq_of_lt h] at h4; omega
      · exact h)]
  simp [strOfNums]
  conv => rhs; rw [← List.map_id (lows (15 - fr + 1) N)]
  apply List.map_congr_left
  intro x _
  simp
set_option maxHeartbeats 400000 in
theorem text_any (a : Int) (w : World) :
    Calls Try.prog 102 #[.int .i64 a] w fun e w' => e = .returned (.string ⟨(dec (cut a).toNat).toArray⟩) ∧ Below w.heap.size w w' := by
  have hb := cut_bd a
  obtain ⟨N, hN⟩ := Int.eq_ofNat_of_zero_le hb.1
  have hN2 : N ≤ 1125899906842624 := by omega
  have HN := Hid.mk' hN
  clear hN
  go_enter Try.func102, Try.ntmps102
  go_wp2_with (go_at_call 100; refine (within_cut _ _).mono ?_; rintro e w' ⟨rfl, rfl⟩)
  rw [HN.out]
  go_loopw [0, 4, 5] (fun n f b wr => ∃ (fr m : Nat) (mb : Bool), fr ≤ 16 ∧ Hid (m = N / 10 ^ (16 - fr)) ∧ m ≤ N ∧ Hid (mb = true ↔ fr = 16 ∨ 0 < m) ∧ Hid (15 ≤ fr ∨ 0 < N / 10 ^ (15 - fr)) ∧ n = .int .i64 m ∧ f = .int .i64 fr ∧ b = .bool mb ∧ wr = w.alloc (.cells (cells16 N fr) 152)) (fun _ f _ _ => (intOf f).toNat)
  case atStart => exact ⟨16, N, true, by omega, by simp [Hid], by omega, by simp [Hid], by simp [Hid], rfl, rfl, rfl, by rw [cells16_zero]⟩
  case round =>
    obtain ⟨fr, m, mb, hk, hm, hmN, hmb, hlast, rfl, rfl, rfl, rfl⟩ := hrel
    cases mb with
    | false =>
      have hfr : fr < 16 ∧ m = 0 := by have := hmb.out; simp at this; omega
      obtain ⟨hfr, rfl⟩ := hfr
      have hsl := fun w' => slice16 w.heap.size fr w' hfr
      have hcv := run_convert_bytes_arg (P := Try.prog) (w.alloc (.cells (cells16 N fr) 152)) 59 5 Try.underlying59 Try.underlying5 w.heap.size fr (16 - fr) (16 - fr) ((lows (16 - fr) N).map (fun c => (c.toNat : Int))) (by simp [lows_length]) (fun i hi => by
        have := cells16_tail N fr i hk hi
        simpa using this) 9 Try.underlying9
      rw [str_of_lows N fr hfr (by omega) hm.out (by have := hlast.out; omega)] at hcv
      go_wp2
      go_ret
      exact ⟨by rw [HN.out]; rfl, (Below.refl _ _).alloc (Nat.le_refl _) _⟩
    | true =>
      have hf0 : 1 ≤ fr := by
        rcases Nat.eq_zero_or_pos fr with rfl | h
        · have h1 := hmb.out
          have h2 := hm.out
          simp at h1
          have : N / 10 ^ 16 = 0 := Nat.div_eq_of_lt (by omega)
          omega
        · exact h
      obtain ⟨fr, rfl⟩ : ∃ g, fr = g + 1 := ⟨fr - 1, by omega⟩
      have hc := cells16_at N fr (by omega)
      have hlast' : Hid (15 ≤ fr ∨ 0 < N / 10 ^ (15 - fr)) := by
        have h1 := hmb.out
        have h2 := hm.out
        simp at h1
        rcases h1 with h1 | h1
        · left; omega
        · right; rw [h2] at h1; rw [show 15 - fr = 16 - (fr + 1) from by omega]; exact h1
      have hm' : Hid (m / 10 = N / 10 ^ (16 - fr)) := by
        have h2 := hm.out
        show m / 10 = _
        rw [h2, Nat.div_div_eq_div_mul, ← Nat.pow_succ, show (16 - (fr + 1)).succ = 16 - fr from by omega]
      go_wp2
      go_roundw
      case rel => 
        refine ⟨fr, m / 10, decide (0 < m / 10), by omega, hm', by omega, ?_, hlast', by go_num, rfl, ?_, ?_⟩
        · simp [Hid]; omega
        · congr 1; rw [Bool.eq_iff_iff]; simp; omega
        · rw [dig_val, hm.out, cells16_set N fr (by omega)]
      case measure => simp [intOf]

theorem fig10 (m : Nat) : (⟨#[48, 49, 50, 51, 52, 53, 54, 55, 56, 57]⟩ : ByteArray).extract (m % 10) (m % 10 + 1) = ⟨#[dig m]⟩ := by
  have h : m % 10 = 0 ∨ m % 10 = 1 ∨ m % 10 = 2 ∨ m % 10 = 3 ∨ m % 10 = 4 ∨ m % 10 = 5 ∨ m % 10 = 6 ∨ m % 10 = 7 ∨ m % 10 = 8 ∨ m % 10 = 9 := by omega
  unfold dig
  rcases h with h | h | h | h | h | h | h | h | h | h <;> rw [h] <;> rfl

def front (m : Nat) : List UInt8 := if m < 10 then [] else dec (m / 10)
theorem front_start (n : Nat) (h : n < 10 ^ 16) : dec n = front n ++ [dig n] := by
  unfold front; split
  · rw [dec_small n (by assumption)]; rfl
  · rw [dec_step n (by omega) h]
theorem front_step (n m : Nat) (l : List UInt8) (hm : 10 ≤ m) (h : m < 10 ^ 16) (hd : dec n = front m ++ l) : dec n = front (m / 10) ++ (dig (m / 10) :: l) := by
  rw [hd]
  unfold front
  rw [if_neg (by omega)]
  have := front_start (m / 10) (by omega)
  unfold front at this
  rw [this]
  simp
theorem front_len (n m : Nat) (l : ByteArray) (hm : 10 ≤ m) (hd : dec n = front m ++ l.data.toList) (h : m < 10 ^ 16) : l.size + 1 ≤ 16 := by
  have h1 := front_step n m l.data.toList hm h hd
  have h2 := dec_len n
  rw [h1] at h2
  simp at h2
  have : l.size = l.data.size := rfl
  omega

end Go.Proofs.Ytljhnkcoknikgaa
