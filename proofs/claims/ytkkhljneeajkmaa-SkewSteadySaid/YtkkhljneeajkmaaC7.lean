/- Layer 41 (skew): Steady; the chapter's example. -/
import Derived.Test.YtkkhljneeajkmaaC6
namespace Go.Proofs.Ytkkhljneeajkmaa
open Go.RowKit

/-- What holds while Steady goes through steps. -/
structure ST (w W : World) (n : Nat) (S : List Sp) (k : Nat) : Prop where
  rb : RB W w.heap.size (RT.of (tks n (S.take k)))
  bel : Below w.heap.size w W
theorem ST.next {w W W' : World} {n k : Nat} {S : List Sp} (h : ST w W n S k) (hb : Below W.heap.size W W') : ST w W' n S k := ⟨h.rb.next hb, bnext h.bel hb⟩
set_option maxRecDepth 100000 in
set_option maxHeartbeats 8000000 in
theorem steady_some (n : Nat) (h1 : 1 ≤ n) (h5 : n ≤ 5) (v : Value) (S : List Sp) (hl : S.length ≤ 60) (w : World) (h : SpI w v S) :
    Calls Try.prog 33 #[.int .i64 n, v] w fun e w' => e = .returned (.bool (wth (RT.of (tks n S)) 4 n)) ∧ Below w.heap.size w w' := by
  have HR := Lib.hid h
  obtain ⟨av, cv, rfl, hc⟩ := h
  clear hc
  have n1 : ¬ ((n : Int) < 1) := by omega
  have n2 : ¬ ((5 : Int) < (n : Int)) := by omega
  have H1 := Lib.hid h1
  have H5 := Lib.hid h5
  go_enter Try.func33, Try.ntmps33
  go_wp2_with fail
  refine (new_any w).mono ?_; rintro e w1 ⟨rfl, hr1, hb1⟩
  have HS0 := Lib.hid (show ST w w1 n S 0 from ⟨hr1, hb1⟩)
  clear hr1 hb1
  go_wp2_with fail
  go_loopw [18] (fun i wr => ∃ k : Nat, i = .int .i64 k ∧ k ≤ S.length ∧ Hid (ST w wr n S k)) (fun i _ => S.length - (intOf i).toNat)
  case atStart => exact ⟨0, rfl, Nat.zero_le _, HS0⟩
  case round =>
    obtain ⟨k, rfl, hk, HS⟩ := hrel
    clear HS0
    by_cases hlt : k < S.length
    · have hi1 : (k : Int) < (S.length : Int) := by omega
      obtain ⟨a', cap', hv, hc⟩ := id (HR.out.next HS.out.bel)
      obtain ⟨b, off, hb0, hcell⟩ := hc (fun e => by rw [e] at hlt; simp at hlt)
      subst hb0
      cases hv
      obtain ⟨x0, x1, x2, x3, x4, x5, x6, x7, x8⟩ := hcell k hlt
      have HT := Lib.hid (tks_snoc n S k hlt)
      have HOK := Lib.hid (show (RT.of (tks n (S.take k))).Ok 1000000 from (RT.of_ok _ (tks_ok n h1 h5 _)).mono (by have := tks_len n (S.take k); rw [List.length_take] at this; omega))
      clear hcell hc
      generalize S[k] = s at *
      obtain ⟨kind, sn, ticks, table, level, key, fin, val, ctx⟩ := s
      dsimp only at x0 x1 x2 x3 x4 x5 x6 x7 x8
      have HB1 := Lib.hid (show Below wr.heap.size wr (wr.alloc (.cells #[.int .i64 kind, .int .i64 sn, .int .i64 ticks, .int .i64 table, .int .i64 level, .string key, .string fin, .string val, .int .i64 ctx] 62)) from (Below.refl _ _).alloc (Nat.le_refl _) _)
      have HS1 := Lib.hid (HS.out.next HB1.out)
      have HX1 := Lib.hid (show Bx (wr.alloc (.cells #[.int .i64 kind, .int .i64 sn, .int .i64 ticks, .int .i64 table, .int .i64 level, .string key, .string fin, .string val, .int .i64 ctx] 62)) wr.heap.size 62 #[.int .i64 kind, .int .i64 sn, .int .i64 ticks, .int .i64 table, .int .i64 level, .string key, .string fin, .string val, .int .i64 ctx] from Bx.fresh _ _ _)
      by_cases h10 : kind = 10
      · have e10 : (kind == 10) = true := by simp [h10]
        obtain ⟨hne, hlo, hhi, _⟩ := node_eq sn n h1 h5
        have hm1 := Int.emod_nonneg sn (b := (n : Int)) (by omega)
        have hm2 := Int.emod_lt_of_pos sn (b := (n : Int)) (by omega)
        obtain ⟨m, hm⟩ : ∃ m : Nat, sn % (n : Int) = m := ⟨(sn % (n : Int)).toNat, by omega⟩
        rw [hm] at hne
        have CG := Lib.hid (fun W hW => sgo_any w.heap.size m (min ticks 64) (RT.of (tks n (S.take k))) HOK.out (by omega) (by omega) W hW)
        have HN := Lib.hid (show RT.go m (max (min ticks 64) 0) 5 (RT.of (tks n (S.take k))) = RT.of (tks n (S.take (k + 1))) from by
          rw [HT.out, show tk1 n ⟨kind, sn, ticks, table, level, key, fin, val, ctx⟩ = [((m : Int), min (max ticks 0) 64)] from by unfold tk1; dsimp only; rw [if_pos h10, hm], RT.of_snoc]
          rw [show max (min ticks 64) 0 = min (max ticks 0) 64 from by omega]
          rfl)
        clear hm hm1 hm2 h10
        generalize hr : sn.tmod (n : Int) = r at *
        have hwr : IntKind.i64.wrap (r + n) = r + n := IntWalk.i64_in _ (by omega)
        have hr2 := hr
        clear hlo hhi
        go_wp2_with fail
        refine (CG.out _ HS1.out.rb).mono ?_; rintro e w5 ⟨rfl, hr5, hg5⟩
        have HS5 := Lib.hid (show ST w w5 n S (k + 1) from ⟨by rw [← HN.out]; exact hr5, below_gb HS1.out.bel hg5 (Nat.le_refl _)⟩)
        clear hr5 hg5 HN CG x0 x1 x2 x3 x4 x5 x6 x7 x8
        go_wp2_with fail
        go_roundw
        case rel => exact ⟨k + 1, by go_num, by omega, HS5⟩
        case measure => simp [intOf]; omega
      · have e10 : (kind == 10) = false := by simp [h10]
        have HS2 := Lib.hid (show ST w (wr.alloc (.cells #[.int .i64 kind, .int .i64 sn, .int .i64 ticks, .int .i64 table, .int .i64 level, .string key, .string fin, .string val, .int .i64 ctx] 62)) n S (k + 1) from ⟨by
          rw [HT.out, show tk1 n ⟨kind, sn, ticks, table, level, key, fin, val, ctx⟩ = [] from by unfold tk1; dsimp only; rw [if_neg h10], List.append_nil]
          exact HS1.out.rb, HS1.out.bel⟩)
        clear h10
        go_wp2_with fail
        go_roundw
        case rel => exact ⟨k + 1, by go_num, by omega, HS2⟩
        case measure => simp [intOf]; omega
    · have hi1 : ¬ (k : Int) < (S.length : Int) := by omega
      have HF := Lib.hid (show RB wr w.heap.size (RT.of (tks n S)) from by have := HS.out.rb; rwa [List.take_of_length_le (show S.length ≤ k by omega)] at this)
      have CW := Lib.hid (within_any w.heap.size 4 n H5.out _ wr HF.out)
      go_wp2_with fail
      refine CW.out.mono ?_; rintro e w5 ⟨rfl, rfl⟩
      go_wp2_with fail
      go_ret
      exact ⟨rfl, HS.out.bel⟩
end Go.Proofs.Ytkkhljneeajkmaa
