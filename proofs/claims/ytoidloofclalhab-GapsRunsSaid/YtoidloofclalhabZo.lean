/- Layer 47 (gaps): the statement GapsRuns' walk. -/
import Derived.Test.YtoidloofclalhabZn
namespace Go.Proofs.Ytoidloofclalhab
open Go.RowKit

theorem quiet_add {P : Program} {f : FuncId} {args : Array Value} {w : World} {a n : Nat} {v : Value}
    (h : Calls P f args (w.drewN (a + n)) fun e w' => e = .returned v ∧ ∃ m, w' = (w.drewN (a + n)).drewN m) :
    Calls P f args (w.drewN (a + n)) fun e w'' => e = .returned v ∧ ∃ m, w'' = w.drewN (a + m) :=
  h.mono fun _ _ ⟨he, m, hm⟩ => ⟨he, n + m, by rw [hm, World.drewN_drewN, Nat.add_assoc]⟩
set_option maxRecDepth 100000 in
set_option maxHeartbeats 8000000 in
theorem gruns_in (vl : Value) (l : List Int) (hl : l.length ≤ 300) (w : World) (hL : IR w vl l) :
    Calls Try.prog 8 #[vl] w fun e w' => e = .returned (.bool true) ∧ Below w.heap.size w w' := by
  have HRuns := Lib.hid (runs_any vl l (by omega) w hL)
  obtain ⟨a, cap, rfl, hm, hz, hc⟩ := hL
  clear hm
  have HC := Lib.hid hc
  have HZ := Lib.hid hz
  clear hc hz
  go_enter Try.func8, Try.ntmps8
  go_wp2_with fail
  refine (HRuns.out).mono ?_; rintro e w1 ⟨v3, rfl, hO, hb1, hru, hle⟩
  generalize rsT l l.length = R at *
  obtain ⟨p, q, rfl⟩ := hO.form
  have HO := Lib.hid hO
  have HB1 := Lib.hid hb1
  have HRU := Lib.hid hru.2
  have HST := Lib.hid hru.1
  clear hO hb1 hru HRuns
  go_wp2_with fail
  go_loopw [4, 5] (fun s4 s5 wr => ∃ (i m : Nat), s5 = .int .i64 i ∧ s4 = .int .i64 (st R i) ∧ i ≤ R.length ∧ wr = w1.drewN m) (fun _ s5 _ => R.length - (intOf s5).toNat)
  case atStart => exact ⟨0, 0, rfl, by rw [st_zero]; rfl, Nat.zero_le _, rfl⟩
  case round =>
    obtain ⟨i, m, rfl, rfl, hi, rfl⟩ := hrel
    by_cases hlt : i < R.length
    · have hrun := HRU.out i hlt
      have HNX := Lib.hid (st_next R i hlt)
      obtain ⟨g, rfl, _, z0, z1, _⟩ := RO.cell HO.out i hlt
      generalize hRi : R[i] = x at *
      obtain ⟨f, c⟩ := x
      clear hRi
      obtain ⟨hc1, hsc, hel, hbeg⟩ := hrun
      dsimp only at *
      generalize st R i = s at *
      have hcn : (c.toNat : Int) = c := by omega
      obtain ⟨C, rfl⟩ : ∃ C : Nat, c = C := ⟨c.toNat, hcn.symm⟩
      rw [Int.toNat_natCast] at *
      have hne : l ≠ [] := fun e => by rw [e] at hsc; simp at hsc; omega
      obtain ⟨b, off, rfl, hcell⟩ := HC.out hne
      have HEL := Lib.hid hel
      have HCW : Hid (∀ k (h : k < l.length), w1.cell? ⟨b, off + k, none⟩ = some (.int .i64 l[k])) := Lib.hid (fun k h => by
        have := hcell k h
        rw [HB1.out.cell (World.block_lt_of_cell? _ _ this)]; exact this)
      have hi0 : (i : Int) < (R.length : Int) := by omega
      have hs0 : (C : Int) ≤ (l.length : Int) - (s : Int) := by omega
      have HFO : Hid (0 < i → ∀ W m, W = w1.drewN m → Calls Try.prog 35 #[.slice (some ⟨b, off, none⟩) l.length cap, .int .i64 s] W fun e w' => e = .returned (.bool false) ∧ ∃ m, w' = w1.drewN m) := Lib.hid (fun h W m hW => by
        subst hW
        obtain ⟨hs, hnf⟩ := hbeg h
        have hsl : s < l.length := by omega
        refine (lfollows_any b off l.length cap s l[s - 1] l[s] hs hsl (by omega) (HZ.out _ (List.getElem_mem _)) (HZ.out _ (List.getElem_mem _)) (w1.drewN m) (by exact HCW.out (s - 1) (by omega)) (by exact HCW.out s hsl)).mono ?_
        rintro e w' ⟨rfl, m', rfl⟩
        rw [folAt_of (List.getElem?_eq_getElem (by omega)) (List.getElem?_eq_getElem hsl)] at hnf
        rw [Bool.not_eq_true] at hnf
        refine ⟨by rw [hnf], m + m', by rw [World.drewN_drewN]⟩)
      clear hel hcell hne hbeg
      by_cases h0 : 0 < i
      · go_wp2_with fail
        refine (HFO.out h0 _ m rfl).mono ?_; rintro e w2 ⟨rfl, m2, rfl⟩
        go_wp2_with fail
        go_loopw [6] (fun s6 wr => ∃ (j m' : Nat), s6 = .int .i64 j ∧ j ≤ C ∧ wr = w1.drewN m') (fun s6 _ => C - (intOf s6).toNat)
        case atStart => exact ⟨0, m2, rfl, Nat.zero_le _, rfl⟩
        case round =>
          obtain ⟨j, m', rfl, hj, rfl⟩ := hrel
          by_cases hjc : j < C
          · have hjl : s + j < l.length := by omega
            have hx := HEL.out j hjc
            rw [List.getElem?_eq_getElem hjl] at hx
            have hx' : l[s + j] = f + (j : Int) := by simpa using hx
            have x0 := HCW.out (s + j) hjl
            have hiz := HZ.out _ (List.getElem_mem hjl)
            rw [hx'] at x0 hiz
            obtain ⟨hz0, hz1⟩ := hiz
            have hjz : (j : Int) < (C : Int) := by omega
            have hsj : (s : Int) + (j : Int) < (l.length : Int) := by omega
            have s1 : IntKind.i64.wrap ((s : Int) + (j : Int)) = (s : Int) + (j : Int) := IntWalk.i64_in _ (by omega)
            have s2 : IntKind.i64.wrap (f + (j : Int)) = f + (j : Int) := IntWalk.i64_in _ (by omega)
            have s3 : 0 ≤ (s : Int) + (j : Int) := by omega
            have s4 : ((s : Int) + (j : Int)).toNat = s + j := by omega
            have s5 : (f + (j : Int) != f + (j : Int)) = false := by simp
            by_cases hj0 : 0 < j
            · have d0 : decide ((0 : Int) < (j : Int)) = true := by simpa using hj0
              have HF2 : Hid (∀ n, Calls Try.prog 35 #[.slice (some ⟨b, off, none⟩) l.length cap, .int .i64 ((s : Int) + (j : Int))] (w1.drewN n) fun e w' => e = .returned (.bool true) ∧ ∃ k, w' = (w1.drewN n).drewN k) := Lib.hid (fun n => by
                have hy := HEL.out (j - 1) (by omega)
                rw [List.getElem?_eq_getElem (by omega)] at hy
                have hy' : l[s + (j - 1)]'(by omega) = f + ((j - 1 : Nat) : Int) := by simpa using hy
                have y0 := HCW.out (s + (j - 1)) (by omega)
                rw [hy'] at y0
                have hiy := HZ.out _ (List.getElem_mem (by omega : s + (j - 1) < l.length))
                rw [hy'] at hiy
                have := lfollows_any b off l.length cap (s + j) (f + ((j - 1 : Nat) : Int)) (f + (j : Int)) (by omega) hjl (by omega) hiy ⟨hz0, hz1⟩ (w1.drewN n) (by rw [show s + j - 1 = s + (j - 1) from by omega]; exact y0) (by exact x0)
                rw [show fol (f + ((j - 1 : Nat) : Int)) (f + (j : Int)) = true from by unfold fol; rw [decide_eq_true_iff]; omega, show ((s + j : Nat) : Int) = (s : Int) + (j : Int) from by omega] at this
                exact this)
              clear hx hx'
              go_wp2_with fail
              go_quiet ((go_at_call 35; first | exact quiet_add (HF2.out _) | exact Calls.quiet_of (HF2.out _)))
              clear s1 s2 s4 s5
              go_wp2_with fail
              go_roundw
              case rel => exact ⟨j + 1, _, by go_num, by omega, rfl⟩
              case measure => simp [intOf]; omega
            · have d0 : decide ((0 : Int) < (j : Int)) = false := by simpa using hj0
              clear hx hx'
              go_wp2_with fail
              go_quiet (fail)
              clear s1 s2 s4 s5
              go_wp2_with fail
              go_roundw
              case rel => exact ⟨j + 1, _, by go_num, by omega, rfl⟩
              case measure => simp [intOf]; omega
          · obtain rfl : j = C := by omega
            go_wp2_with fail
            go_roundw
            case rel => exact ⟨i + 1, m', by go_num, by rw [HNX.out]; go_num, by omega, rfl⟩
            case measure => simp [intOf]; omega
      · go_wp2_with fail
        go_loopw [6] (fun s6 wr => ∃ (j m' : Nat), s6 = .int .i64 j ∧ j ≤ C ∧ wr = w1.drewN m') (fun s6 _ => C - (intOf s6).toNat)
        case atStart => exact ⟨0, m, rfl, Nat.zero_le _, rfl⟩
        case round =>
          obtain ⟨j, m', rfl, hj, rfl⟩ := hrel
          by_cases hjc : j < C
          · have hjl : s + j < l.length := by omega
            have hx := HEL.out j hjc
            rw [List.getElem?_eq_getElem hjl] at hx
            have hx' : l[s + j] = f + (j : Int) := by simpa using hx
            have x0 := HCW.out (s + j) hjl
            have hiz := HZ.out _ (List.getElem_mem hjl)
            rw [hx'] at x0 hiz
            obtain ⟨hz0, hz1⟩ := hiz
            have hjz : (j : Int) < (C : Int) := by omega
            have hsj : (s : Int) + (j : Int) < (l.length : Int) := by omega
            have s1 : IntKind.i64.wrap ((s : Int) + (j : Int)) = (s : Int) + (j : Int) := IntWalk.i64_in _ (by omega)
            have s2 : IntKind.i64.wrap (f + (j : Int)) = f + (j : Int) := IntWalk.i64_in _ (by omega)
            have s3 : 0 ≤ (s : Int) + (j : Int) := by omega
            have s4 : ((s : Int) + (j : Int)).toNat = s + j := by omega
            have s5 : (f + (j : Int) != f + (j : Int)) = false := by simp
            by_cases hj0 : 0 < j
            · have d0 : decide ((0 : Int) < (j : Int)) = true := by simpa using hj0
              have HF2 : Hid (∀ n, Calls Try.prog 35 #[.slice (some ⟨b, off, none⟩) l.length cap, .int .i64 ((s : Int) + (j : Int))] (w1.drewN n) fun e w' => e = .returned (.bool true) ∧ ∃ k, w' = (w1.drewN n).drewN k) := Lib.hid (fun n => by
                have hy := HEL.out (j - 1) (by omega)
                rw [List.getElem?_eq_getElem (by omega)] at hy
                have hy' : l[s + (j - 1)]'(by omega) = f + ((j - 1 : Nat) : Int) := by simpa using hy
                have y0 := HCW.out (s + (j - 1)) (by omega)
                rw [hy'] at y0
                have hiy := HZ.out _ (List.getElem_mem (by omega : s + (j - 1) < l.length))
                rw [hy'] at hiy
                have := lfollows_any b off l.length cap (s + j) (f + ((j - 1 : Nat) : Int)) (f + (j : Int)) (by omega) hjl (by omega) hiy ⟨hz0, hz1⟩ (w1.drewN n) (by rw [show s + j - 1 = s + (j - 1) from by omega]; exact y0) (by exact x0)
                rw [show fol (f + ((j - 1 : Nat) : Int)) (f + (j : Int)) = true from by unfold fol; rw [decide_eq_true_iff]; omega, show ((s + j : Nat) : Int) = (s : Int) + (j : Int) from by omega] at this
                exact this)
              clear hx hx'
              go_wp2_with fail
              go_quiet ((go_at_call 35; first | exact quiet_add (HF2.out _) | exact Calls.quiet_of (HF2.out _)))
              clear s1 s2 s4 s5
              go_wp2_with fail
              go_roundw
              case rel => exact ⟨j + 1, _, by go_num, by omega, rfl⟩
              case measure => simp [intOf]; omega
            · have d0 : decide ((0 : Int) < (j : Int)) = false := by simpa using hj0
              clear hx hx'
              go_wp2_with fail
              go_quiet (fail)
              clear s1 s2 s4 s5
              go_wp2_with fail
              go_roundw
              case rel => exact ⟨j + 1, _, by go_num, by omega, rfl⟩
              case measure => simp [intOf]; omega
          · obtain rfl : j = C := by omega
            go_wp2_with fail
            go_roundw
            case rel => exact ⟨i + 1, m', by go_num, by rw [HNX.out]; go_num, by omega, rfl⟩
            case measure => simp [intOf]; omega
    · obtain rfl : i = R.length := by omega
      have HEND := Lib.hid HST.out
      rw [HST.out]
      go_wp2_with fail
      refine (alive47_any _).mono ?_; rintro e w3 ⟨rfl, hb3⟩
      have H3 := Lib.hid (bnext (below_drewN HB1.out m) hb3)
      clear hb3
      go_wp2_with fail
      go_ret
      exact ⟨rfl, H3.out⟩
theorem gruns_out (a : Option Addr) (n cap : Nat) (hm : n ≤ 9223372036854775807) (h : 300 < n) (w : World) :
    Calls Try.prog 8 #[.slice a n cap] w fun e w' => e = .returned (.bool true) ∧ Below w.heap.size w w' := by
  go_enter Try.func8, Try.ntmps8
  go_wp2_with fail
  go_ret
  exact ⟨rfl, Below.refl _ _⟩
theorem grunslaw (v : Value) (w : World) (h : ∃ l, IR w v l) :
    Calls Try.prog 8 #[v] w fun e w' => e = .returned (.bool true) ∧ Below w.heap.size w w' := by
  obtain ⟨l, h⟩ := h
  by_cases hl : 300 < l.length
  · obtain ⟨a, cap, rfl, hm, _⟩ := h
    unfold maxLen at hm
    exact gruns_out a _ cap (by omega) hl w
  · exact gruns_in v l (by omega) w h
end Go.Proofs.Ytoidloofclalhab
