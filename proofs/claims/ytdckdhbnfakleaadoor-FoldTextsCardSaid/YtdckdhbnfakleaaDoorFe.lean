/- Layer 39 (fold): texts weighed, by the code; Natural. -/
import Derived.Test.YtdckdhbnfakleaaDoorFo
import Derived.Laws.OwnMore
namespace Go.Proofs.YtdckdhbnfakleaaDoor
open Go.RowKit

/-- A text without noughts ahead. -/
def trL : List UInt8 → List UInt8
  | [] => []
  | b :: l => if b = 48 then trL l else b :: l
def trimB (s : ByteArray) : ByteArray := mkB (trL s.data.toList)
theorem trL_len : ∀ l : List UInt8, (trL l).length ≤ l.length
  | [] => Nat.le_refl _
  | b :: l => by rw [trL]; split
                 · have := trL_len l; simp; omega
                 · exact Nat.le_refl _
theorem trimB_len (s : ByteArray) : (trimB s).size ≤ s.size := by unfold trimB; rw [mkB_size]; have := trL_len s.data.toList; rw [len_data] at this; exact this
theorem trimB_step (s : ByteArray) (h : 0 < s.size) (h48 : s[0] = 48) : trimB (s.extract 1 s.size) = trimB s := by
  rw [mkB_rest]
  unfold trimB
  rw [mkB_data, ← rest_zero s, rest_cons s 0 h, trL, if_pos h48]
theorem trimB_stop (s : ByteArray) (h : 0 < s.size) (h48 : s[0] ≠ 48) : trimB s = s := by
  unfold trimB
  rw [← rest_zero s, rest_cons s 0 h, trL, if_neg h48, ← rest_cons s 0 h, rest_zero, mkB_of]
theorem trimB_nil (s : ByteArray) (h : s.size = 0) : trimB s = s := by
  have : s.data.toList = [] := List.eq_nil_of_length_eq_zero (by rw [len_data]; exact h)
  unfold trimB
  rw [this]
  exact bytes_inj' (by rw [mkB_data, this]; rfl)
def sizeV (v : Value) : Nat := match v with | .string x => x.size | _ => 0
theorem ret_str {a b : ByteArray} (h : a = b) : Ending.returned (.string a) = .returned (.string b) := by rw [h]
set_option maxRecDepth 100000 in
set_option maxHeartbeats 2000000 in
theorem trimbyte_any (s : ByteArray) (hs : s.size ≤ 100000) (w : World) : Calls Tryd.prog 38 #[.string s, .int .u8 48] w fun e w' => e = .returned (.string (trimB s)) ∧ w = w' := by
  go_enter Tryd.func38, Tryd.ntmps38
  go_wp2_with fail
  go_loopw [0] (fun v wr => ∃ x : ByteArray, v = .string x ∧ x.size ≤ s.size ∧ Hid (trimB x = trimB s) ∧ wr = w) (fun v _ => sizeV v)
  case atStart => exact ⟨s, rfl, Nat.le_refl _, Hid.mk' rfl, rfl⟩
  case round =>
    obtain ⟨x, rfl, hx, HX, rfl⟩ := hrel
    by_cases h0 : 0 < x.size
    · by_cases h48 : x[0] = 48
      · have HS := Hid.mk' ((trimB_step x h0 h48).trans HX.out)
        have hv : ((x[0].toNat : Nat) : Int) = 48 := by rw [h48]; rfl
        have hi : (0 : Int) < (x.size : Int) := by omega
        have h1 : (1 : Int) ≤ (x.size : Int) := by omega
        clear h48
        go_wp2_with fail
        go_roundw
        case rel => exact ⟨x.extract 1 x.size, rfl, by simp only [ByteArray.size_extract]; omega, HS, by first | rfl | trivial⟩
        case measure => simp only [sizeV, ByteArray.size_extract]; omega
      · have HS := Hid.mk' ((trimB_stop x h0 h48).symm.trans HX.out)
        have hv : (((x[0].toNat : Nat) : Int) == 48) = false := by
          rw [beq_eq_false_iff_ne]
          intro e
          apply h48
          apply UInt8.toNat_inj.1
          show x[0].toNat = 48
          omega
        have hi : (0 : Int) < (x.size : Int) := by omega
        clear h48
        go_wp2_with fail
        go_ret
        exact ⟨ret_str HS.out, rfl⟩
    · have HS := Hid.mk' ((trimB_nil x (by omega)).symm.trans HX.out)
      have hi : ¬ (0 : Int) < (x.size : Int) := by omega
      go_wp2_with fail
      go_ret
      exact ⟨ret_str HS.out, rfl⟩
set_option maxRecDepth 100000 in
set_option maxHeartbeats 2000000 in
theorem trimleft_any (s : ByteArray) (hs : s.size ≤ 100000) (w : World) : Calls Tryd.prog 32 #[.string s, .string ⟨#[48]⟩] w fun e w' => e = .returned (.string (trimB s)) ∧ w = w' := by
  have C := Hid.mk' (trimbyte_any s hs)
  by_cases h0 : s.size = 0
  · have HS := Hid.mk' (trimB_nil s h0).symm
    have he : (s.toList == []) = true := by rw [beq_iff_eq]; exact List.eq_nil_of_length_eq_zero (by rw [ByteArray.toList_eq, len_data]; exact h0)
    go_enter Tryd.func32, Tryd.ntmps32
    go_wp2_with fail
    go_ret
    exact ⟨ret_str HS.out, rfl⟩
  · have he : (s.toList == []) = false := by
      rw [beq_eq_false_iff_ne]
      intro e
      have := congrArg List.length e
      rw [ByteArray.toList_eq, len_data] at this
      exact h0 this
    go_enter Tryd.func32, Tryd.ntmps32
    go_wp2_with fail
    refine (C.out _).mono ?_; rintro e w' ⟨rfl, rfl⟩
    go_wp2_with fail
    go_ret
    exact ⟨rfl, rfl⟩
/-- A chunk in the form that all have that stand alike. -/
def wgt (x : ByteArray × Bool) : ByteArray × Bool := (if x.2 = true then trimB x.1 else foldB x.1, x.2)
def weighS (s : ByteArray) : ByteArray × List (ByteArray × Bool) := (s, (chunkS s).map wgt)
/-- The first so many weighed. -/
def wPart (L : List (ByteArray × Bool)) (k : Nat) : List (ByteArray × Bool) := (L.take k).map wgt ++ L.drop k
theorem wPart_len (L : List (ByteArray × Bool)) (k : Nat) (h : k ≤ L.length) : (wPart L k).length = L.length := by unfold wPart; simp; omega
theorem wPart_at (L : List (ByteArray × Bool)) (k : Nat) (h : k < L.length) : ∃ h2, (wPart L k)[k]'h2 = L[k] := by
  refine ⟨by rw [wPart_len L k (by omega)]; exact h, ?_⟩
  unfold wPart
  rw [List.getElem_append_right (by simp; omega)]
  simp [Nat.min_eq_left (Nat.le_of_lt h)]
theorem flatC_app (L M : List (ByteArray × Bool)) : flatC (L ++ M) = flatC L ++ flatC M := by simp [flatC]
theorem wPart_step (L : List (ByteArray × Bool)) (k : Nat) (h : k < L.length) : (flatC (wPart L k)).set (k * 2) (.string (wgt L[k]).1) = flatC (wPart L (k + 1)) := by
  have hl : (flatC ((L.take k).map wgt)).length = k * 2 := by rw [flatC_len]; simp; omega
  unfold wPart
  rw [List.drop_eq_getElem_cons h, flatC_app, List.set_append_right _ _ (by omega), hl, Nat.sub_self, List.take_succ_eq_append_getElem h, List.map_append, flatC_app, flatC_app, List.append_assoc]
  congr 1
theorem chunk_len (s : ByteArray) : ∀ f pos fr nb, (chF s f pos fr nb).length ≤ f + 1 := by
  intro f
  induction f with
  | zero => intro pos fr nb; unfold chF; split <;> simp
  | succ f ih =>
    intro pos fr nb
    rw [chF]
    split
    · split
      · rw [List.length_cons]; have := ih (pos + (Utf8.decode s pos).2) pos (digN (Utf8.decode s pos).1); omega
      · have := ih (pos + (Utf8.decode s pos).2) fr (digN (Utf8.decode s pos).1); omega
    · split <;> simp
theorem chunk_sz (s : ByteArray) : ∀ f pos fr nb, ∀ x ∈ chF s f pos fr nb, x.1.size ≤ s.size := by
  intro f
  induction f with
  | zero => intro pos fr nb x hx; unfold chF at hx; split at hx
            · simp at hx; subst hx; simp
            · cases hx
  | succ f ih =>
    intro pos fr nb x hx
    rw [chF] at hx
    split at hx
    · split at hx
      · rcases List.mem_cons.1 hx with rfl | hx
        · simp; omega
        · exact ih _ _ _ x hx
      · exact ih _ _ _ x hx
    · split at hx
      · simp at hx; subst hx; simp
      · cases hx
end Go.Proofs.YtdckdhbnfakleaaDoor
