/- Layer 48 (wait): Bound, Of; the law's bound, of. -/
import Derived.Test.YtoidloofclalhabT2
namespace Go.Proofs.Ytoidloofclalhab
open Go.RowKit

/-- The longest wait ahead of a try. -/
def bdI (F M t : Int) : Int := bndI (clampI F 1 1073741824) (clampI M 1 1073741824) (clampI t 0 30).toNat
theorem bdI_bd (F M t : Int) : 1 ≤ bdI F M t ∧ bdI F M t ≤ 1073741824 := by
  have h1 := clamp_bd F 1 1073741824 (by omega)
  have h2 := clamp_bd M 1 1073741824 (by omega)
  have h3 := clamp_bd t 0 30 (by omega)
  have h4 := pow_bd (clampI F 1 1073741824) (clampI t 0 30).toNat h1.1 h1.2 (by omega)
  unfold bdI bndI
  omega
set_option maxHeartbeats 1000000 in
theorem bound_any (F M s t : Int) (w : World) :
    Calls Try.prog 36 #[wv F M s, .int .i64 t] w fun e w' => e = .returned (.int .i64 (bdI F M t)) ∧ Below w.heap.size w w' := by
  have h1 := clamp_bd F 1 1073741824 (by omega)
  have h2 := clamp_bd M 1 1073741824 (by omega)
  have h3 := clamp_bd t 0 30 (by omega)
  have CF := Lib.hid (fun W => within_any F 1 1073741824 W)
  have CM := Lib.hid (fun W => within_same M 1 1073741824 W)
  have CT := Lib.hid (fun W => within_same t 0 30 W)
  unfold bdI bndI
  generalize clampI F 1 1073741824 = f at *
  generalize clampI M 1 1073741824 = m at *
  generalize clampI t 0 30 = k0 at *
  obtain ⟨k, rfl⟩ : ∃ k : Nat, k0 = k := ⟨k0.toNat, by omega⟩
  rw [Int.toNat_natCast]
  have h4 := pow_bd f k h1.1 h1.2 (by omega)
  obtain ⟨h11, h12⟩ := h1
  obtain ⟨h21, h22⟩ := h2
  obtain ⟨h31, h32⟩ := h3
  unfold wv
  go_enter Try.func36, Try.ntmps36
  go_wp2_with fail
  refine (CF.out _).mono ?_; rintro e w1 ⟨rfl, rfl⟩
  go_wp2_with fail
  go_quiet ((first | (with_reducible exact Calls.quiet_of_same (CM.out _)) | (with_reducible exact Calls.quiet_of_same (CT.out _))))
  go_wp2_with fail
  go_ret
  exact ⟨rfl, below_drewN ((Below.refl _ _).alloc (Nat.le_refl _) _) _⟩
theorem clamp_nat (t : Int) (n : Nat) : clampI t 0 n = (min t.toNat n : Nat) := by unfold clampI; omega
set_option maxHeartbeats 2000000 in
theorem lbound_any (F M s t : Int) (w : World) :
    Calls Try.prog 38 #[wv F M s, .int .i64 t] w fun e w' => e = .returned (.int .i64 (bdI F M t)) ∧ Below w.heap.size w w' := by
  have h1 := clamp_bd F 1 1073741824 (by omega)
  have h2 := clamp_bd M 1 1073741824 (by omega)
  have CF := Lib.hid (fun W => cut_same F 1 1073741824 W)
  have CM := Lib.hid (fun W => cut_same M 1 1073741824 W)
  have CT := Lib.hid (fun W => cut_any t 0 40 W)
  have e30 := clamp_nat t 30
  have e40 := clamp_nat t 40
  rw [show ((40 : Nat) : Int) = 40 from rfl] at e40
  rw [show ((30 : Nat) : Int) = 30 from rfl] at e30
  unfold bdI
  rw [e30, Int.toNat_natCast]
  rw [e40] at CT
  clear e30 e40
  generalize t.toNat = T at *
  generalize clampI F 1 1073741824 = f at *
  generalize clampI M 1 1073741824 = m at *
  have HB := Lib.hid (fun i => bnd_stop f m i T h1.1 h2.2)
  generalize bndI f m (min T 30) = r at *
  obtain ⟨q, hq⟩ : ∃ q, q = min T 40 := ⟨_, rfl⟩
  rw [← hq] at CT HB
  have hq40 : q ≤ 40 := by omega
  clear hq
  obtain ⟨h11, h12⟩ := h1
  obtain ⟨h21, h22⟩ := h2
  unfold wv
  go_enter Try.func38, Try.ntmps38
  go_wp2_with fail
  go_quiet ((first | (with_reducible exact Calls.quiet_of_same (CF.out _)) | (with_reducible exact Calls.quiet_of_same (CM.out _))))
  go_wp2_with fail
  go_loop [5, 7] (fun n i => ∃ (j : Nat) (v : Int), i = .int .i64 j ∧ n = .int .i64 v ∧ j ≤ q ∧ 1 ≤ v ∧ v ≤ 2147483648 ∧ Hid (v = f * 2 ^ j)) (fun _ i => q - (intOf i).toNat)
  case atStart => exact ⟨0, f, rfl, rfl, Nat.zero_le _, h11, by omega, Lib.hid (by simp)⟩
  case round =>
    obtain ⟨j, v, rfl, rfl, hj, hv1, hv2, HV⟩ := hrel
    by_cases hjq : j < q
    · by_cases hvm : v < m
      · have HN := Lib.hid (show v + v = f * 2 ^ (j + 1) by rw [HV.out]; exact pow_next f j)
        go_wp2_with fail
        refine (CT.out _).mono ?_; rintro e w1 ⟨rfl, rfl⟩
        go_wp2_with fail
        go_round
        case rel => exact ⟨j + 1, v + v, by go_num, by go_num, by omega, by omega, by omega, HN⟩
        case measure => simp [intOf]; omega
      · have HR := Lib.hid (show min v m = r by rw [HV.out]; exact HB.out j (by omega) (.inr (by rw [← HV.out]; omega)))
        go_wp2_with fail
        refine (CT.out _).mono ?_; rintro e w1 ⟨rfl, rfl⟩
        go_wp2_with fail
        go_ret
        exact ⟨ret_int (by have := HR.out; omega), below_drewN ((Below.refl _ _).alloc (Nat.le_refl _) _) _⟩
    · have HR := Lib.hid (show min v m = r by rw [HV.out]; exact HB.out j (by omega) (.inl (by omega)))
      go_wp2_with fail
      refine (CT.out _).mono ?_; rintro e w1 ⟨rfl, rfl⟩
      go_wp2_with fail
      go_ret
      exact ⟨ret_int (by have := HR.out; omega), below_drewN ((Below.refl _ _).alloc (Nat.le_refl _) _) _⟩
/-- The wait ahead of a try. -/
def ofI (F M s t : Int) : Int := (bdI F M t - bdI F M t / 2) + drI s (clampI t 0 1073741824) % (bdI F M t - (bdI F M t - bdI F M t / 2) + 1)
theorem ofI_bd (F M s t : Int) : 1 ≤ ofI F M s t ∧ ofI F M s t ≤ bdI F M t ∧ bdI F M t ≤ 2 * ofI F M s t := by
  have h1 := bdI_bd F M t
  unfold ofI
  generalize bdI F M t = b at *
  generalize drI s (clampI t 0 1073741824) = d at *
  have h3 := Int.emod_nonneg d (b := b - (b - b / 2) + 1) (by omega)
  have h4 := Int.emod_lt_of_pos d (b := b - (b - b / 2) + 1) (by omega)
  omega
set_option maxHeartbeats 2000000 in
theorem of_any (F M s t : Int) (hs : 0 ≤ s ∧ s < 4294967296) (w : World) :
    Calls Try.prog 37 #[wv F M s, .int .i64 t] w fun e w' => e = .returned (.int .i64 (ofI F M s t)) ∧ Below w.heap.size w w' := by
  have h1 := bdI_bd F M t
  have h2 := drI_bd s (clampI t 0 1073741824)
  have CB := Lib.hid (fun W => bound_any F M s t W)
  have CD := Lib.hid (fun W => draw_any F M s t hs W)
  unfold ofI
  generalize bdI F M t = b at *
  generalize drI s (clampI t 0 1073741824) = d at *
  obtain ⟨h11, h12⟩ := h1
  obtain ⟨h21, h22⟩ := h2
  clear hs
  have hm1 := Int.emod_nonneg d (b := b - (b - b / 2) + 1) (by omega)
  have hm2 := Int.emod_lt_of_pos d (b := b - (b - b / 2) + 1) (by omega)
  unfold wv at *
  go_enter Try.func37, Try.ntmps37
  go_wp2_with fail
  refine (CB.out _).mono ?_; rintro e w1 ⟨rfl, hb1⟩
  obtain ⟨hc, hf⟩ := bcell hb1
  go_wp2_with fail
  refine (CD.out _).mono ?_; rintro e w2 ⟨rfl, hb2⟩
  clear hc hf
  go_wp2_with fail
  go_ret
  exact ⟨rfl, bnext (bnext ((Below.refl _ _).alloc (Nat.le_refl _) _) hb1) hb2⟩
set_option maxHeartbeats 2000000 in
theorem lof_any (F M s t : Int) (hs : 0 ≤ s ∧ s < 4294967296) (w : World) :
    Calls Try.prog 39 #[wv F M s, .int .i64 t] w fun e w' => e = .returned (.int .i64 (ofI F M s t)) ∧ Below w.heap.size w w' := by
  have h1 := bdI_bd F M t
  have h2 := drI_bd s (clampI t 0 1073741824)
  have CB := Lib.hid (fun W => lbound_any F M s t W)
  have CT := Lib.hid (fun W => cut_same t 0 1073741824 W)
  have CD := Lib.hid (fun W => (drawn_any s (clampI t 0 1073741824) hs (clamp_bd t 0 1073741824 (by omega)) W).mono fun _ _ (h : _ ∧ _) => And.intro h.1 h.2.symm)
  unfold ofI
  generalize bdI F M t = b at *
  generalize drI s (clampI t 0 1073741824) = d at *
  generalize clampI t 0 1073741824 = k at *
  obtain ⟨h11, h12⟩ := h1
  obtain ⟨h21, h22⟩ := h2
  clear hs
  have hm1 := Int.emod_nonneg d (b := b - (b - b / 2) + 1) (by omega)
  have hm2 := Int.emod_lt_of_pos d (b := b - (b - b / 2) + 1) (by omega)
  have s1 : IntKind.i64.wrap (b - (b - b / 2)) = b - (b - b / 2) := IntWalk.i64_in _ (by omega)
  have s2 : IntKind.i64.wrap (b - (b - b / 2) + 1) = b - (b - b / 2) + 1 := IntWalk.i64_in _ (by omega)
  have s3 : IntKind.i64.wrap (b - b / 2 + d % (b - (b - b / 2) + 1)) = b - b / 2 + d % (b - (b - b / 2) + 1) := IntWalk.i64_in _ (by omega)
  have s4 : d.tmod (b - (b - b / 2) + 1) = d % (b - (b - b / 2) + 1) := Int.tmod_eq_emod_of_nonneg h21
  unfold wv at *
  go_enter Try.func39, Try.ntmps39
  go_wp2_with fail
  refine (CB.out _).mono ?_; rintro e w1 ⟨rfl, hb1⟩
  obtain ⟨hc, hf⟩ := bcell hb1
  go_wp2_with fail
  go_quiet ((first | (with_reducible exact Calls.quiet_of_same (CT.out _)) | (with_reducible exact Calls.quiet_of_same (CD.out _))))
  clear hc hf s1 s2 s3 s4
  go_wp2_with fail
  go_ret
  exact ⟨rfl, below_drewN (bnext ((Below.refl _ _).alloc (Nat.le_refl _) _) hb1) _⟩
theorem ex1 (w : World) : Calls Try.prog 36 #[.agg #[.int .i64 2, .int .i64 9, .int .u32 0], .int .i64 1] w fun e w' => e = .returned (.int .i64 4) ∧ Below w.heap.size w w' := by
  have := bound_any 2 9 0 1 w
  rw [show bdI 2 9 1 = 4 from by decide +kernel] at this
  exact this
theorem ex5 (w : World) : Calls Try.prog 36 #[.agg #[.int .i64 2, .int .i64 9, .int .u32 0], .int .i64 5] w fun e w' => e = .returned (.int .i64 9) ∧ Below w.heap.size w w' := by
  have := bound_any 2 9 0 5 w
  rw [show bdI 2 9 5 = 9 from by decide +kernel] at this
  exact this
theorem exO (w : World) : Calls Try.prog 37 #[.agg #[.int .i64 2, .int .i64 9, .int .u32 0], .int .i64 0] w fun e w' => (∃ r : Int, e = .returned (.int .i64 r) ∧ 1 ≤ r ∧ r ≤ 2) ∧ Below w.heap.size w w' := by
  refine (of_any 2 9 0 0 (by omega) w).mono fun e w' ⟨h1, h2⟩ => ⟨⟨_, h1, ?_⟩, h2⟩
  have h := ofI_bd 2 9 0 0
  rw [show bdI 2 9 0 = 2 from by decide +kernel] at h
  exact ⟨h.1, h.2.1⟩
set_option maxHeartbeats 1000000 in
theorem alive48_any (w : World) : Calls Try.prog 40 #[] w fun e w' => e = .returned (.bool true) ∧ Below w.heap.size w w' := by
  have H0 := Lib.hid ((Below.refl w.heap.size w).alloc (Nat.le_refl _) (.cells #[.int .i64 2, .int .i64 9, .int .u32 0] 66))
  have B0 := Lib.hid (Bx.fresh w 66 #[.int .i64 2, .int .i64 9, .int .u32 0])
  go_enter Try.func40, Try.ntmps40
  go_wp2_with fail
  refine (ex1 _).mono ?_; rintro e w1 ⟨rfl, hb1⟩
  have B1 := Lib.hid (B0.out.next hb1)
  obtain ⟨c0, c1, c2⟩ := B1.out.reads3
  go_wp2_with fail
  refine (ex5 _).mono ?_; rintro e w2 ⟨rfl, hb2⟩
  have B2 := Lib.hid (B1.out.next hb2)
  obtain ⟨d0, d1, d2⟩ := B2.out.reads3
  clear c0 c1 c2
  go_wp2_with fail
  refine (exO _).mono ?_; rintro e w3 ⟨⟨r, rfl, hr1, hr2⟩, hb3⟩
  have B3 := Lib.hid (B2.out.next hb3)
  obtain ⟨c0, c1, c2⟩ := B3.out.reads3
  clear d0 d1 d2
  go_wp2_with fail
  refine (exO _).mono ?_; rintro e w4 ⟨⟨r', rfl, hr1', hr2'⟩, hb4⟩
  go_wp2_with fail
  go_ret
  exact ⟨rfl, bnext (bnext (bnext (bnext H0.out hb1) hb2) hb3) hb4⟩
end Go.Proofs.Ytoidloofclalhab
