/- Layer 47 (gaps): Size, by the code; the law's right and bytes. -/
import Derived.Test.YtoidloofclalhabZc
import Derived.RegionTactic
import Derived.BigRegion
namespace Go.Proofs.Ytoidloofclalhab
open Go.RowKit

theorem gsize_any (vl : Value) (l : List Int) (hll : l.length ≤ 10000) (w : World) (hL : IR w vl l) :
    Calls Try.prog 26 #[vl] w fun e w' => e = .returned (.int .i64 (if okB l = true then ((gB l).length : Int) else 0)) ∧ Below w.heap.size w w' := by
  have hc := gput_any (.slice none 0 0) vl [] l (by simp) hll w (BS.nil w) hL
  unfold PutE at hc
  obtain ⟨r, hr⟩ : ∃ r : Int, r = if okB l = true then ((gB l).length : Int) else 0 := ⟨_, rfl⟩
  rw [← hr]
  have hlen : ((([] : List UInt8) ++ if okB l = true then gB l else []).length : Int) = r := by rw [hr, List.nil_append]; split <;> rfl
  clear hr
  generalize (([] : List UInt8) ++ if okB l = true then gB l else []) = X at *
  generalize okB l = ok at *
  have C := Lib.hid hc
  have HL := Lib.hid hlen
  obtain ⟨a, cap, rfl⟩ := hL.form
  clear hL hc hlen
  go_enter Try.func26, Try.ntmps26
  go_wp2_with fail
  refine (C.out).mono ?_; rintro e w1 ⟨v1, rfl, hO1, hb1⟩
  obtain ⟨a1, c1, rfl⟩ := hO1.bs.form
  clear hO1 C
  generalize X.length = n at *
  go_wp2_with fail
  go_ret
  exact ⟨ret_int HL.out, hb1⟩
set_option maxRecDepth 100000 in
set_option maxHeartbeats 4000000 in
theorem lright_any (vl : Value) (l : List Int) (hll : l.length ≤ 10000) (w : World) (hL : IR w vl l) :
    Calls Try.prog 24 #[vl] w fun e w' => e = .returned (.bool (okB l)) ∧ Below w.heap.size w w' := by
  obtain ⟨a, cap, rfl, hm, hz, hc⟩ := hL
  clear hm
  have HC := Lib.hid hc
  clear hc hz
  go_enter Try.func24, Try.ntmps24
  go_wp2_with fail
  go_loopw [3] (fun i wr => ∃ k m : Nat, i = .int .i64 k ∧ wr = w.drewN m ∧ k ≤ l.length ∧ Hid (okF 0 (l.take k) = true)) (fun i _ => l.length - (intOf i).toNat)
  case atStart => exact ⟨0, 0, rfl, rfl, Nat.zero_le _, Lib.hid rfl⟩
  case round =>
    obtain ⟨k, m, rfl, rfl, hk, HK⟩ := hrel
    by_cases hlt : k < l.length
    · obtain ⟨b, off, rfl, hcell⟩ := HC.out (fun e => by rw [e] at hlt; simp at hlt)
      have x0 := hcell k hlt
      have y0 := hcell (k - 1) (by omega)
      have hbd := lst_bd (l.take k) 0 HK.out (by omega) (by omega)
      have hl0 : k = 0 → lst 0 (l.take k) = 0 := fun h => by subst h; rfl
      obtain ⟨y, hy⟩ : ∃ y, l[k - 1]'(by omega) = y := ⟨_, rfl⟩
      rw [hy] at y0
      have hl1 : 0 < k → lst 0 (l.take k) = y + 1 := fun h => by rw [lst_take l k hlt h, hy]
      clear hy
      have HNX := Lib.hid (And.intro (okF_next l k hlt) (okF_no l k hlt))
      clear hcell
      generalize l[k] = n at *
      generalize lst 0 (l.take k) = s at *
      have HL := Lib.hid (And.intro hl0 hl1)
      have HBD := Lib.hid hbd
      clear hl0 hl1 hbd
      by_cases h1 : n < 0
      · have HNO := Lib.hid (show okB l = false by unfold okB; rw [HNX.out.2 (by have := HBD.out; omega)]; rfl)
        have d1 : decide (n < 0) = true := by simpa using h1
        go_wp2_with fail
        go_quiet (fail)
        go_wp2_with fail
        go_ret
        exact ⟨by rw [HNO.out]; rfl, below_drewN (below_drewN (Below.refl _ _) _) _⟩
      · have d1 : decide (n < 0) = false := by simpa using h1
        by_cases h2 : 4611686018427387904 ≤ n
        · have HNO := Lib.hid (show okB l = false by unfold okB; rw [HNX.out.2 (by omega)]; rfl)
          have d2 : decide (4611686018427387904 ≤ n) = true := by simpa using h2
          go_wp2_with fail
          go_quiet (fail)
          go_wp2_with fail
          go_ret
          exact ⟨by rw [HNO.out]; rfl, below_drewN (below_drewN (Below.refl _ _) _) _⟩
        · have d2 : decide (4611686018427387904 ≤ n) = false := by simpa using h2
          by_cases h0 : 0 < k
          · have d3 : decide ((0 : Int) < (k : Int)) = true := by simpa using h0
            have HS := Lib.hid (HL.out.2 h0)
            by_cases h3 : n ≤ y
            · have HNO := Lib.hid (show okB l = false by unfold okB; rw [HNX.out.2 (by have := HS.out; omega)]; rfl)
              have d4 : decide (n ≤ y) = true := by simpa using h3
              go_wp2_with fail
              go_quiet (fail)
              go_wp2_with fail
              go_ret
              exact ⟨by rw [HNO.out]; rfl, below_drewN (below_drewN (Below.refl _ _) _) _⟩
            · have HY := Lib.hid (show okF 0 (l.take (k + 1)) = true by rw [HNX.out.1, HK.out, decide_eq_true (by have := HS.out; omega)]; rfl)
              have d4 : decide (n ≤ y) = false := by simpa using h3
              go_wp2_with fail
              go_quiet (fail)
              go_wp2_with fail
              go_roundw
              case rel => exact ⟨k + 1, _, by go_num, rfl, by omega, HY⟩
              case measure => simp [intOf]; omega
          · have d3 : decide ((0 : Int) < (k : Int)) = false := by simpa using h0
            have HS := Lib.hid (HL.out.1 (by omega))
            have HY := Lib.hid (show okF 0 (l.take (k + 1)) = true by rw [HNX.out.1, HK.out, decide_eq_true (by have := HS.out; omega)]; rfl)
            go_wp2_with fail
            go_quiet (fail)
            go_wp2_with fail
            go_roundw
            case rel => exact ⟨k + 1, _, by go_num, rfl, by omega, HY⟩
            case measure => simp [intOf]; omega
    · obtain rfl : k = l.length := by omega
      have HB : Hid (okB l = decide (l.length ≤ 4096)) := Lib.hid (by
        have := HK.out
        rw [List.take_length] at this
        unfold okB; rw [this, Bool.true_and])
      go_wp2_with fail
      go_ret
      exact ⟨by rw [HB.out]; simp; omega, below_drewN (Below.refl _ _) _⟩
end Go.Proofs.Ytoidloofclalhab
