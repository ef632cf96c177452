/- Layer 1 (runes): a figure's number: strings.IndexRune in the sixteen figures. -/
import Derived.Test.YtnhonjhpggnglaaDoorQu
import Derived.Lib.Bytealg
import Derived.Laws.Runes
namespace Go.Proofs.YtnhonjhpggnglaaDoor
open Go.RowKit

theorem quiet_more {P : Program} {f : FuncId} {args : Array Value} {w : World} {a n : Nat} {v : Value} (h : Calls P f args (w.drewN (a + n)) fun e w' => e = .returned v ∧ w' = w.drewN (a + n)) :
    Calls P f args (w.drewN (a + n)) fun e w'' => e = .returned v ∧ ∃ m, w'' = w.drewN (a + m) := h.mono fun _ _ ⟨he, hm⟩ => ⟨he, n, hm⟩
def figs : ByteArray := ⟨#[48, 49, 50, 51, 52, 53, 54, 55, 56, 57, 97, 98, 99, 100, 101, 102]⟩
def ixV (R : Nat) : Int := if R < 128 then Lib.indexByte figs.data.toList (UInt8.ofNat R) else -1
def figV (R : Nat) : Nat := if 48 ≤ R ∧ R ≤ 57 then R - 48 else if 97 ≤ R ∧ R ≤ 102 then R - 87 else 0
theorem fig_small : ∀ R : Fin 128, max (Lib.indexByte figs.data.toList (UInt8.ofNat R.val)) 0 = (figV R.val : Int) := by decide +kernel
theorem fig_of (R : Nat) : max (ixV R) 0 = (figV R : Int) := by
  unfold ixV
  by_cases h : R < 128
  · rw [if_pos h]; exact fig_small ⟨R, h⟩
  · rw [if_neg h]; unfold figV; rw [if_neg (by omega), if_neg (by omega)]; rfl
theorem figV_lt (R : Nat) : figV R < 16 := by unfold figV; split <;> (try split) <;> omega
theorem callByte1 (s : ByteArray) (c : Int) (w : World) : (callFunc 43 #[.string s, .int .u8 c]).run Tryd.prog w = .ok (.value (.int .i64 (Lib.indexByte s.data.toList c.toNat.toUInt8))) w := by
  rw [run_callFunc_extern (P := Tryd.prog) (f := 43) (fn := Tryd.f43) (e := Extern.BytealgIndexByte.indexByte) (by kernel_rfl) (by kernel_rfl) (by kernel_rfl) (by kernel_rfl) (by kernel_rfl), Lib.run_indexByteString]
  rfl
set_option maxHeartbeats 1000000 in
theorem idxbyte_any (s : ByteArray) (c : Int) (w : World) : Calls Tryd.prog 38 #[.string s, .int .u8 c] w fun e w' => e = .returned (.int .i64 (Lib.indexByte s.data.toList c.toNat.toUInt8)) ∧ w = w' := by
  have hcb := fun w => callByte1 s c w
  go_enter Tryd.func38, Tryd.ntmps38
  go_wp2
  go_ret
  exact ⟨rfl, rfl⟩
theorem no_high (c : Int) (h : 128 ≤ c) (h2 : c < 256) (a b : Nat) : Lib.indexByte (figs.extract a b).data.toList c.toNat.toUInt8 = -1 := by
  rw [← Lib.firstIdx_eq]
  refine firstIdx_ascii figs a b _ (by decide) ?_
  simp
  omega
set_option maxRecDepth 100000 in
set_option maxHeartbeats 1000000 in
theorem idxrune_low (R : Nat) (h : R < 128) (w : World) : Calls Tryd.prog 37 #[.string figs, .int .i32 R] w fun e w' => e = .returned (.int .i64 (ixV R)) ∧ Below w.heap.size w w' := by
  have hx : Lib.indexByte figs.data.toList ((R : Int).toNat.toUInt8) = ixV R := by unfold ixV; rw [if_pos h]; rfl
  have C := Hid.mk' (idxbyte_any figs R)
  rw [hx] at C
  clear hx
  generalize ixV R = x at *
  generalize figs = F at *
  have h2 : (R : Int) < 128 := by omega
  go_enter Tryd.func37, Tryd.ntmps37
  go_wp2_with fail
  refine (C.out _).mono ?_; rintro e w' ⟨rfl, rfl⟩
  go_wp2_with fail
  go_ret
  exact ⟨rfl, Below.refl _ _⟩
set_option maxRecDepth 100000 in
set_option maxHeartbeats 1000000 in
theorem idxrune_bad (w : World) : Calls Tryd.prog 37 #[.string figs, .int .i32 65533] w fun e w' => e = .returned (.int .i64 (-1)) ∧ Below w.heap.size w w' := by
  go_enter Tryd.func37, Tryd.ntmps37
  go_wp2_with fail
  go_loopw [] (fun wr => ∃ pos : Nat, wr = w.iter figs pos) (fun wr => 16 - wr.iterPos w.heap.size)
  case atStart => exact ⟨0, rfl⟩
  case round =>
    obtain ⟨pos, rfl⟩ := hrel
    by_cases hp : pos < figs.size
    · have ha : figs[pos].toNat < 128 := by
        have := byte_mem figs pos hp
        exact (by decide : ∀ b ∈ figs.data.toList, b.toNat < 128) _ this
      have hnx : ∀ ty, (Instr.next (.pointer (some ⟨w.heap.size, 0, none⟩)) true ty).run Tryd.prog (w.iter figs pos) = _ := fun ty => run_next_ascii w figs pos ty hp ha
      have hne : (((figs[pos].toNat : Nat) : Int) == 65533) = false := by rw [beq_eq_false_iff_ne]; omega
      have hsz : figs.size = 16 := rfl
      have HSZ := Hid.mk' hsz
      clear hsz
      generalize figs = F at *
      go_wp2_with fail
      go_roundw
      case rel => exact ⟨pos + 1, rfl⟩
      case measure => have := HSZ.out; simp; omega
    · have hnx : ∀ ty, (Instr.next (.pointer (some ⟨w.heap.size, 0, none⟩)) true ty).run Tryd.prog (w.iter figs pos) = _ := fun ty => run_next_end w figs pos ty hp
      go_wp2_with fail
      go_ret
      exact ⟨rfl, (Below.refl _ _).alloc (Nat.le_refl _) _⟩
set_option maxHeartbeats 1000000 in
theorem validrune_any (R : Int) (h : (0 ≤ R ∧ R < 55296) ∨ (57343 < R ∧ R ≤ 1114111)) (w : World) : Calls Tryd.prog 39 #[.int .i32 R] w fun e w' => e = .returned (.bool true) ∧ w = w' := by
  rcases h with ⟨h1, h2⟩ | ⟨h1, h2⟩
  · go_enter Tryd.func39, Tryd.ntmps39
    go_wp2
    go_ret
    exact ⟨rfl, rfl⟩
  · go_enter Tryd.func39, Tryd.ntmps39
    go_wp2
    go_ret
    exact ⟨rfl, rfl⟩
set_option maxRecDepth 100000 in
set_option maxHeartbeats 2000000 in
theorem idxrune_high (R : Int) (h1 : 128 ≤ R) (h2 : R ≠ 65533) (h3 : R < 55296 ∨ (57343 < R ∧ R ≤ 1114111)) (w : World) : Calls Tryd.prog 37 #[.string figs, .int .i32 R] w fun e w' => e = .returned (.int .i64 (-1)) ∧ Below w.heap.size w w' := by
  have hv : Utf8.valid R = true := by rw [validRune_eq]; unfold validRune; rw [decide_eq_true_eq]; omega
  obtain ⟨e1, e2, e3⟩ := encode_facts R hv h1
  have CV := Hid.mk' (validrune_any R (by omega))
  have hne : (R == 65533) = false := by rw [beq_eq_false_iff_ne]; exact h2
  generalize hT : Utf8.encode R = T at *
  obtain ⟨k, hk⟩ : ∃ k, T.size = k + 1 := ⟨T.size - 1, by omega⟩
  have hkl : k < T.size := by omega
  have hlast : 128 ≤ (T[k]).toNat := by
    have := e3 (by omega)
    simpa [hk] using this
  have hl2 : (T[k]).toNat < 256 := (T[k]).toNat_lt
  have hfs : figs.size = 16 := rfl
  have hkf : k < figs.size := by omega
  have hfl : (figs[k]).toNat < 128 := (by decide : ∀ b ∈ figs.data.toList, b.toNat < 128) _ (byte_mem figs k hkf)
  have hdiff : (((figs[k].toNat : Nat) : Int) != ((T[k].toNat : Nat) : Int)) = true := by rw [bne_iff_ne]; omega
  have CI := Hid.mk' (fun (w : World) => idxbyte_any (figs.extract (k + 1) figs.size) ((T[k].toNat : Nat) : Int) w)
  rw [no_high _ (by omega) (by omega), hfs] at CI
  have HT := Hid.mk' hT
  have hcv := fun (w : World) => run_convert_int_string (P := Tryd.prog) w 21 9 .i32 R (by kernel_rfl) Tryd.underlying9
  rw [hT] at hcv
  clear hT e3 h2 h3 hv
  have hix : ∀ w, (Instr.index 9 (.string T) (.int .i64 (k : Int))).run Tryd.prog w = .ok (.int .u8 ((T[k].toNat : Nat) : Int)) w := by
    intro w
    have hh : (k : Int) < (T.size : Int) := by omega
    clear hk
    go_simp
  go_enter Tryd.func37, Tryd.ntmps37
  go_wp2_with fail
  refine (CV.out _).mono ?_; rintro e w' ⟨rfl, rfl⟩
  go_wp2_with fail
  go_step3
  go_wp2_with fail
  refine wp_loop_rounds 1 ?_
  rw [rounds_succ]
  go_wp2_with fail
  go_step3
  go_wp2_with fail
  go_quiet (fail)
  go_wp2_with fail
  go_quiet ((go_at_call 38; exact quiet_more ((CI.out _).mono fun _ _ ⟨a, b⟩ => ⟨a, b.symm⟩)))
  go_wp2_with fail
  rw [Exit.noGoto_ret]
  go_wp2_with fail
  rw [Exit.noGoto_ret]
  go_ret
  exact ⟨rfl, below_drewN (Below.refl _ _) _⟩

/-- The number of a figure, by the code. -/
theorem idxrune_any (R : Nat) (h : R < 55296 ∨ 57344 ≤ R ∧ R ≤ 1114111) (w : World) : Calls Tryd.prog 37 #[.string figs, .int .i32 R] w fun e w' => e = .returned (.int .i64 (ixV R)) ∧ Below w.heap.size w w' := by
  by_cases h1 : R < 128
  · exact idxrune_low R h1 w
  · have e : ixV R = -1 := by unfold ixV; rw [if_neg h1]
    rw [e]
    by_cases h2 : R = 65533
    · subst h2; exact idxrune_bad w
    · exact idxrune_high R (by omega) (by omega) (by omega) w
theorem ixV_bd (R : Nat) : -1 ≤ ixV R ∧ ixV R ≤ 15 := by
  have := fig_of R
  have h2 := figV_lt R
  unfold ixV at *
  split
  · rename_i h
    have : ∀ r : Fin 128, -1 ≤ Lib.indexByte figs.data.toList (UInt8.ofNat r.val) := by decide +kernel
    exact ⟨this ⟨R, h⟩, by rw [if_pos h] at *; omega⟩
  · omega
set_option maxHeartbeats 1000000 in
theorem figure_any (R : Nat) (h : R < 55296 ∨ 57344 ≤ R ∧ R ≤ 1114111) (w : World) : Calls Tryd.prog 32 #[.int .i32 R] w fun e w' => e = .returned (.int .u8 ((figV R : Nat) : Int)) ∧ Below w.heap.size w w' := by
  have C := Hid.mk' (idxrune_any R h)
  have hb := ixV_bd R
  have hf := fig_of R
  have HF := Hid.mk' hf
  clear hf h
  unfold figs at C
  generalize ixV R = x at *
  by_cases hx : x < 0
  · go_enter Tryd.func32, Tryd.ntmps32
    go_wp2_with fail
    refine (C.out _).mono ?_; rintro e w1 ⟨rfl, hb1⟩
    go_wp2_with fail
    go_ret
    exact ⟨ret_int (by rw [← HF.out]), hb1⟩
  · go_enter Tryd.func32, Tryd.ntmps32
    go_wp2_with fail
    refine (C.out _).mono ?_; rintro e w1 ⟨rfl, hb1⟩
    go_wp2_with fail
    go_ret
    exact ⟨ret_int (by rw [← HF.out]), hb1⟩
end Go.Proofs.YtnhonjhpggnglaaDoor
