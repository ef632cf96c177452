/- Layer 1 (runes): what stands between quotes, turned back, by the code. -/
import Derived.Test.YtnhonjhpggnglaaDoorFi
namespace Go.Proofs.YtnhonjhpggnglaaDoor
open Go.RowKit

/-- What the text from a place on says, in a state: 0 outside, 1 behind a backslash, 2 behind the x too, 3 behind one figure too. -/
def plFrom (s : ByteArray) : Nat → Nat → Nat → Nat → List Nat
  | 0, _, _, _ => []
  | f + 1, pos, st, hi =>
    if pos < s.size then
      (if st = 0 ∧ (Utf8.decode s pos).1 = 92 then plFrom s f (pos + (Utf8.decode s pos).2) 1 hi
       else if st = 1 ∧ (Utf8.decode s pos).1 = 120 then plFrom s f (pos + (Utf8.decode s pos).2) 2 hi
       else if st = 2 then plFrom s f (pos + (Utf8.decode s pos).2) 3 (figV (Utf8.decode s pos).1)
       else if st = 3 then (hi * 16 + figV (Utf8.decode s pos).1) :: plFrom s f (pos + (Utf8.decode s pos).2) 0 hi
       else encN (Utf8.decode s pos).1 ++ plFrom s f (pos + (Utf8.decode s pos).2) 0 hi)
    else []
def plainB (s : ByteArray) : ByteArray := mkB ((plFrom s s.size 0 0 0).map UInt8.ofNat)
theorem encN_len (R : Nat) : (encN R).length ≤ 4 := by unfold encN; repeat' split
                                                       all_goals simp
theorem shl_or : ∀ (h f : Fin 16), bits BinOp.or IntKind.u8 ((h.val : Int) * 16) (f.val : Int) = (h.val : Int) * 16 + (f.val : Int) := by decide +kernel
theorem shl_or_at (h f : Nat) (h1 : h < 16) (h2 : f < 16) : bits BinOp.or IntKind.u8 ((h : Int) * 16) (f : Int) = (h : Int) * 16 + (f : Int) := shl_or ⟨h, h1⟩ ⟨f, h2⟩

theorem conv_zero (w : World) (a : Option Addr) (c : Nat) : (convert 43 9 (.slice a 0 c)).run Tryd.prog w = .ok (.string (strOfNums [])) w := by
  rw [run_convert_bytes_string w _ _ _ _ 0 c Tryd.underlying43 Tryd.underlying5 Tryd.underlying9]
  cases a with
  | none => rfl
  | some ad =>
    simp [Conv.bytesToString, loadCells, loadCellsFrom]
    rfl
set_option maxRecDepth 100000 in
set_option maxHeartbeats 4000000 in
theorem plain_any (s : ByteArray) (hs : s.size ≤ 20000) (w : World) : Calls Tryd.prog 26 #[.string s] w fun e w' => e = .returned (.string (plainB s)) ∧ Below w.heap.size w w' := by
  obtain ⟨i0, hi0, hz0, hz1, hz2⟩ := info_parts u8_info
  go_enter Tryd.func26, Tryd.ntmps26
  have hmk : i0.bytes * s.size ≤ 281474976710656 := by rw [hz2]; omega
  go_wp2_with (at_make; refine wpList_make_own _ rfl _ _ 43 rfl w.heap.size 5 i0 (.int .u8 0) 1 Tryd.underlying43 hi0 hz0 hz1 .i64 .i64 _ s.size rfl rfl (by omega) hmk (by unfold maxLen; omega) (Nat.le_refl _) ?_)
  intro w0 hown0 hgr0
  have hbel0 : Below w.heap.size w w0 := (Below.refl _ _).grown hgr0 (Nat.le_refl _) (fun k hk => by cases hk)
  clear hgr0 hmk
  go_wp2_with fail
  have hK : w.heap.size ≤ w0.heap.size := hbel0.size
  have hit1 := It.fresh w0 s 0
  have hown2 : (w0.iter s 0).ownsRow w.heap.size 5 1 (.slice (some ⟨w.heap.size, 0, none⟩) 0 s.size) 0 [] := hown0.alloc _
  have hbel2 : Below w.heap.size w (w0.iter s 0) := hbel0.alloc hbel0.size _
  clear hown0 hbel0
  generalize w0.heap.size = K at *
  generalize w0.iter s 0 = W2 at *
  go_loopw [3, 4, 5] (fun v a h wr => ∃ (pos f : Nat) (l : List Nat) (st hi : Nat), a = .int .i64 st ∧ h = .int .u8 hi ∧ st ≤ 3 ∧ hi < 16 ∧ It wr K s pos ∧ wr.ownsRow w.heap.size 5 1 v l.length (u8s l) ∧ Below w.heap.size w wr ∧ l.length ≤ 4 * pos ∧ pos ≤ s.size ∧ s.size ≤ pos + f ∧ Hid (l ++ plFrom s f pos st hi = plFrom s s.size 0 0 0)) (fun _ _ _ wr => s.size - wr.iterPos K)
  case atStart => exact ⟨0, s.size, [], 0, 0, rfl, rfl, by omega, by omega, hit1, hown2, hbel2, by simp, by omega, by omega, rfl⟩
  case round =>
    obtain ⟨pos, f, l, st, hi, rfl, rfl, hst, hhi, hit, hown, hbel, hl, hpos, hf, hrun⟩ := hrel
    by_cases hp : pos < s.size
    · obtain ⟨wd, R, hdec, hw1, hw2, hseen0⟩ := rune_at s pos hp
      obtain ⟨g, rfl⟩ : ∃ g, f = g + 1 := ⟨f - 1, by omega⟩
      have hd := hdec.out
      have hrun2 := hrun.out
      rw [plFrom, if_pos hp, hd] at hrun2
      have hval : R < 55296 ∨ 57344 ≤ R ∧ R ≤ 1114111 := by have := rune_ok s pos; rw [hd] at this; exact this
      have hnx : ∀ ty, (Instr.next (.pointer (some ⟨K, 0, none⟩)) true ty).run Tryd.prog wr = .ok (.tuple #[.bool true, .int .i64 pos, .int .i32 R]) (wr.iterAt K s (pos + wd)) := fun ty => by
        have := Lib.run_next_any_at (P := Tryd.prog) wr K s pos ty hit hp
        rw [hd] at this; exact this
      have hit1 := hit.step (pos + wd)
      have hown1 := own_step hown hit (pos + wd)
      have hbel1 := Lib.below_iterAt hbel (k := K) hK s (pos + wd)
      have HPL := Hid.mk' hit.place
      have CA := Hid.mk' (appendrune_any w.heap.size u3 l.length (u8s l) R (wr.iterAt K s (pos + wd)) hown1 (by omega) hbel1.size hval)
      have CF := Hid.mk' (figure_any R hval)
      have hql := encN_len R
      have hfl := figV_lt R
      simp only at hrun2
      have HQ := Hid.mk' hrun2
      clear hrun2 hrun hd hit hown hbel hseen0 hval
      rcases (show st = 0 ∨ st = 1 ∨ st = 2 ∨ st = 3 from by omega) with rfl | rfl | rfl | rfl
      · by_cases h92 : R = 92
        · have hr : ((R : Int) == 92) = true := by rw [h92]; rfl
          have HQ2 := Hid.mk' (by have h := HQ.out; rw [if_pos ⟨rfl, h92⟩] at h; exact h)
          clear HQ
          go_wp2_with fail
          go_roundw
          case rel => exact ⟨pos + wd, g, l, 1, hi, rfl, rfl, by omega, by omega, hit1, hown1, hbel1, by omega, by omega, by omega, HQ2⟩
          case measure => rw [hit1.place, HPL.out]; omega
        · have hr : ((R : Int) == 92) = false := by rw [beq_eq_false_iff_ne]; omega
          have HQ2 : Hid ((l ++ encN R) ++ plFrom s g (pos + wd) 0 hi = plFrom s s.size 0 0 0) := by
            have h := HQ.out
            rw [if_neg (by omega), if_neg (by omega), if_neg (by omega), if_neg (by omega)] at h
            rw [List.append_assoc]; exact h
          clear HQ
          go_wp2_with fail
          refine (CA.out).mono ?_; rintro e w2 ⟨v2, rfl, hown2, hgr2⟩
          have hbel3 : Below w.heap.size w w2 := hbel1.grown hgr2 hbel1.size (fun k hk => (hown1.lt k hk).1)
          have hit2 : It w2 K s (pos + wd) := It.grown hit1 hgr2 (own_it hown1 hit1)
          have hown3 : w2.ownsRow w.heap.size 5 1 v2 (l ++ encN R).length (u8s (l ++ encN R)) := by
            rw [← u8s_app, List.length_append]
            rw [u8s_len] at hown2; exact hown2
          clear hown2 hgr2 hown1 hit1 hbel1
          go_wp2_with fail
          go_roundw
          case rel => exact ⟨pos + wd, g, l ++ encN R, 0, hi, rfl, rfl, by omega, by omega, hit2, hown3, hbel3, by rw [List.length_append]; omega, by omega, by omega, HQ2⟩
          case measure => rw [hit2.place, HPL.out]; omega
      · by_cases h120 : R = 120
        · have hr : ((R : Int) == 120) = true := by rw [h120]; rfl
          have HQ2 := Hid.mk' (by have h := HQ.out; rw [if_neg (by omega), if_pos ⟨rfl, h120⟩] at h; exact h)
          clear HQ
          go_wp2_with fail
          go_roundw
          case rel => exact ⟨pos + wd, g, l, 2, hi, rfl, rfl, by omega, by omega, hit1, hown1, hbel1, by omega, by omega, by omega, HQ2⟩
          case measure => rw [hit1.place, HPL.out]; omega
        · have hr : ((R : Int) == 120) = false := by rw [beq_eq_false_iff_ne]; omega
          have HQ2 : Hid ((l ++ encN R) ++ plFrom s g (pos + wd) 0 hi = plFrom s s.size 0 0 0) := by
            have h := HQ.out
            rw [if_neg (by omega), if_neg (by omega), if_neg (by omega), if_neg (by omega)] at h
            rw [List.append_assoc]; exact h
          clear HQ
          go_wp2_with fail
          refine (CA.out).mono ?_; rintro e w2 ⟨v2, rfl, hown2, hgr2⟩
          have hbel3 : Below w.heap.size w w2 := hbel1.grown hgr2 hbel1.size (fun k hk => (hown1.lt k hk).1)
          have hit2 : It w2 K s (pos + wd) := It.grown hit1 hgr2 (own_it hown1 hit1)
          have hown3 : w2.ownsRow w.heap.size 5 1 v2 (l ++ encN R).length (u8s (l ++ encN R)) := by
            rw [← u8s_app, List.length_append]
            rw [u8s_len] at hown2; exact hown2
          clear hown2 hgr2 hown1 hit1 hbel1
          go_wp2_with fail
          go_roundw
          case rel => exact ⟨pos + wd, g, l ++ encN R, 0, hi, rfl, rfl, by omega, by omega, hit2, hown3, hbel3, by rw [List.length_append]; omega, by omega, by omega, HQ2⟩
          case measure => rw [hit2.place, HPL.out]; omega
      · have HQ2 := Hid.mk' (by have h := HQ.out; rw [if_neg (by omega), if_neg (by omega), if_pos rfl] at h; exact h)
        clear HQ
        go_wp2_with fail
        refine (CF.out _).mono ?_; rintro e w2 ⟨rfl, hb2⟩
        have hit2 := hit1.next hb2
        have hown2 := own_next hown1 hb2
        have hbel3 := hbel1.trans (hb2.mono hbel1.size)
        clear hown1 hit1 hbel1 hb2
        go_wp2_with fail
        go_roundw
        case rel => exact ⟨pos + wd, g, l, 3, figV R, rfl, rfl, by omega, by omega, hit2, hown2, hbel3, by omega, by omega, by omega, HQ2⟩
        case measure => rw [hit2.place, HPL.out]; omega
      · have HQ2 : Hid ((l ++ [hi * 16 + figV R]) ++ plFrom s g (pos + wd) 0 hi = plFrom s s.size 0 0 0) := by
          have h := HQ.out
          rw [if_neg (by omega), if_neg (by omega), if_neg (by omega), if_pos rfl] at h
          rw [List.append_assoc]; exact h
        clear HQ
        have hor := shl_or_at hi (figV R) hhi hfl
        go_wp2_with fail
        refine (CF.out _).mono ?_; rintro e w2 ⟨rfl, hb2⟩
        have hit2 := hit1.next hb2
        have hown2 := own_next hown1 hb2
        have hbel2 := hbel1.trans (hb2.mono hbel1.size)
        clear hown1 hit1 hbel1 hb2
        go_wp2_with (at_builtin; refine wpList_append_own _ rfl (.tmp 41) (.tmp 47) 43 rfl w.heap.size 5 i0 _ 1 1 Tryd.underlying43 hi0 hz0 hz1 hz2 rfl (by decide) u3 l.length (u8s l) rfl (hown2.alloc _) ⟨w2.heap.size, 0, none⟩ 1 1 [.int .u8 ((hi : Int) * 16 + ((figV R : Nat) : Int))] rfl rfl (cell_one_new _ _ _) (by simp [Value.oneCell']) (by simp only [maxLen]; omega) (by omega) (by have := hbel2.size; simp; omega) ?_)
        intro v3 w3 hown3 hgr3 _
        have hbel3 : Below w.heap.size w w3 := (hbel2.alloc hbel2.size _).grown hgr3 (by have := hbel2.size; simp; omega) (fun k hk => (hown2.lt k hk).1)
        have hit3 : It w3 K s (pos + wd) := It.grown (hit2.past _) hgr3 (own_it hown2 hit2)
        have hown4 : w3.ownsRow w.heap.size 5 1 v3 (l ++ [hi * 16 + figV R]).length (u8s (l ++ [hi * 16 + figV R])) := by
          rw [← u8s_app, List.length_append]; exact hown3
        clear hown3 hgr3 hown2 hit2 hbel2
        go_wp2_with fail
        go_roundw
        case rel => exact ⟨pos + wd, g, l ++ [hi * 16 + figV R], 0, hi, rfl, rfl, by omega, by omega, hit3, hown4, hbel3, by rw [List.length_append]; simp only [List.length_cons, List.length_nil]; omega, by omega, by omega, HQ2⟩
        case measure => rw [hit3.place, HPL.out]; omega
    · have hnx : ∀ ty, (Instr.next (.pointer (some ⟨K, 0, none⟩)) true ty).run Tryd.prog wr = _ := fun ty => Lib.run_next_end_at wr K s pos ty hit hp
      have hend : plFrom s f pos st hi = [] := by cases f <;> simp [plFrom, hp]
      have hr := hrun.out
      rw [hend, List.append_nil] at hr
      have HC := Hid.mk' (show strOfNums (l.map fun (n : Nat) => (n : Int)) = plainB s by unfold plainB; rw [← hr]; exact strOf_map _)
      clear hr hend hrun
      by_cases hl0 : l.length = 0
      · have hcv0 : ∀ a c, (convert 43 9 (.slice a 0 c)).run Tryd.prog wr = .ok (.string (plainB s)) wr := by
          intro a c
          rw [← HC.out]
          obtain rfl := List.eq_nil_of_length_eq_zero hl0
          exact conv_zero wr a c
        rcases hown.2 with ⟨rfl, _⟩ | ⟨g, cap, cur, rfl, _⟩
        · have hcv := hcv0 none 0
          clear hcv0
          go_wp2_with fail
          go_ret
          exact ⟨rfl, hbel⟩
        · rw [hl0] at *
          have hcv := hcv0 (some ⟨g, 0, none⟩) cap
          clear hcv0
          go_wp2_with fail
          go_ret
          exact ⟨rfl, hbel⟩
      · obtain ⟨gg, cap, hv, _, _⟩ := hown.form (by omega)
        subst hv
        have hcv := run_convert_bytes_arg (P := Tryd.prog) wr 43 5 Tryd.underlying43 Tryd.underlying5 gg 0 l.length cap (l.map fun (n : Nat) => (n : Int)) (by simp) (fun i hi => by
          rw [Nat.zero_add, hown.cellAt i (by omega), u8s_at _ _ hi]) 9 Tryd.underlying9
        rw [HC.out] at hcv
        clear hown hit
        go_wp2_with fail
        go_ret
        exact ⟨rfl, hbel⟩
end Go.Proofs.YtnhonjhpggnglaaDoor
