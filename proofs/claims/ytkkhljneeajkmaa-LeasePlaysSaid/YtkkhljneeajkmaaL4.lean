/- Layer 23 (lease): the statement LeasePlays' walk. -/
import Derived.Test.YtkkhljneeajkmaaL2
import Derived.ProofKit
import Derived.OpenShut
import Derived.ChangeOld
import Derived.Deep.Slices
import Derived.Lib.SmallJoins
import Derived.Deep.Draws
import Derived.Lib.QuietBelow
namespace Go.Proofs.Ytkkhljneeajkmaa
open Go.RowKit Go.ChangeShapes Go.WideShapes Go.Deep

/-- A slice of calls, n of them. -/
def LOps (w : World) (v : Value) (n : Nat) (f : Nat → Int × Int) : Prop :=
  ∃ a cap, v = .slice a n cap ∧ n ≤ cap ∧ n ≤ maxLen ∧ (n ≠ 0 → ∃ b off : Nat, a = some ⟨b, off, none⟩ ∧ b < w.heap.size ∧ ∀ i, i < n →
    w.cell? ⟨b, off + i * 2, none⟩ = some (.int .i64 (f i).1) ∧ w.cell? ⟨b, off + i * 2 + 1, none⟩ = some (.int .i64 (f i).2))
set_option maxRecDepth 100000 in
theorem open_lops {H : Type} {enc : TypeId × Value → H} {w : World} {r : Reach} {base : Nat} {spare : Nat → Bool} {held : Bool} {v : Value} {d : DataW H} {p : List MemPlace} (hv : Value.okWide Try.prog w r base 33 v)
    (h : DataW.Trod enc Try.prog w 0 spare held 33 v d p) : ∃ n f, LOps w v n f := by
  obtain ⟨a0, len, cap, rfl⟩ := okWide_slice Try.underlying33 hv
  obtain ⟨fuel, hf⟩ := h
  rcases open_slice Try.underlying33 hf with ⟨hcs, _⟩ | ⟨a, len', cap', m, n, D, Pl, hcs, _, hl, hcm, hm, _, hi⟩
  · simp [Value.cells] at hcs
    obtain ⟨rfl, rfl, rfl⟩ := hcs
    exact ⟨0, fun _ => (0, 0), none, 0, rfl, Nat.le_refl _, Nat.zero_le _, fun h => absurd rfl h⟩
  · simp [Value.cells] at hcs
    obtain ⟨rfl, rfl, rfl⟩ := hcs
    have hlm : len ≤ m := by rw [hm]; split <;> omega
    have hC : Try.prog.cellsOf 35 = 2 := by kernel_rfl
    have key : ∀ i, i < len → ∃ o : Int × Int, w.cell? (a.add (i * 2)) = some (.int .i64 o.1) ∧ w.cell? (a.add (i * 2 + 1)) = some (.int .i64 o.2) := by
      intro i hil
      obtain ⟨cs, hcs, ht⟩ := hi i (by omega)
      rw [hC] at hcs
      obtain ⟨_, hlen, hat⟩ := World.cells?_some hcs
      match cs, hlen with
      | [c0, c1], _ =>
        obtain ⟨xs, n1, _, _, _, hxl, hg⟩ := DataW.trod_struct Try.underlying35 ht
        have k1 : Try.prog.cellsOf 3 = 1 := by kernel_rfl
        match xs, hxl with
        | [y0, y1], _ =>
          have g0 := hg 0 _ rfl
          have g1 := hg 1 _ rfl
          simp [k1] at g0 g1
          obtain ⟨a0, e0, _, _⟩ := DataW.trod_int Try.underlying3 g0
          obtain ⟨a1, e1, _, _⟩ := DataW.trod_int Try.underlying3 g1
          simp at e0 e1
          subst e0 e1
          have q0 := hat 0 (by omega)
          have q1 := hat 1 (by omega)
          rw [add_add] at q0 q1
          exact ⟨(a0, a1), q0, q1⟩
    obtain ⟨f, hf2⟩ := choose_lt key
    refine ⟨len, f, some a, cap, rfl, hl, by omega, fun h0 => ?_⟩
    obtain ⟨b, off, spot⟩ := a
    have hspot : spot = none := by simpa [Addr.add] using World.cell?_spot (hf2 0 (by omega)).1
    subst hspot
    refine ⟨b, off, rfl, World.block_lt_of_cell? w _ (by have := (hf2 0 (by omega)).1; rw [add_plain] at this; exact this), fun i hil => ?_⟩
    have := hf2 i hil
    simp only [add_plain, ← Nat.add_assoc] at this
    exact this
theorem lplays_great (a : Option Addr) (n cap : Nat) (hn : 100 < n) (hm : n ≤ 9223372036854775807) (w : World) :
    Calls Try.prog 5 #[.slice a n cap] w fun e w' => e = .returned (.bool true) ∧ Below w.heap.size w w' := by
  go_enter Try.func5, Try.ntmps5
  go_wp2_with fail
  go_ret
  exact ⟨rfl, Below.refl _ _⟩
/-- What a lease says beside the law's own reckoning. -/
def LS (sm : Bool) (u e : Int) : Prop := 0 ≤ u ∧ u ≤ 1099511627784 ∧ ((sm = true ∧ e = u ∧ 8 ≤ u) ∨ (sm = false ∧ e = 0))
set_option maxRecDepth 100000 in
set_option maxHeartbeats 8000000 in
theorem lplays_some (b off cap n : Nat) (f : Nat → Int × Int) (hn : n ≤ 100) (hcap : n ≤ cap) (w : World) (hb : b < w.heap.size)
    (hc : ∀ i, i < n → w.cell? ⟨b, off + i * 2, none⟩ = some (.int .i64 (f i).1) ∧ w.cell? ⟨b, off + i * 2 + 1, none⟩ = some (.int .i64 (f i).2)) :
    Calls Try.prog 5 #[.slice (some ⟨b, off, none⟩) n cap] w fun e w' => e = .returned (.bool true) ∧ Below w.heap.size w w' := by
  have HC := Hid.mk' hc
  clear hc
  have H0 := Lib.hid ((Below.refl w.heap.size w).alloc (Nat.le_refl _) (.cells #[.int .i64 0] 29))
  have B0 := Lib.hid (show Le (w.alloc (.cells #[.int .i64 0] 29)) w.heap.size 0 from Bx.fresh w 29 #[.int .i64 0])
  go_enter Try.func5, Try.ntmps5
  go_wp2_with fail
  go_loopw [4, 5, 6] (fun u s i wr => ∃ (k : Nat) (u' : Int) (sm : Bool) (e : Int), i = .int .i64 k ∧ u = .int .i64 u' ∧ s = .bool sm ∧ k ≤ n ∧ Hid (LS sm u' e) ∧ Hid (Le wr w.heap.size e) ∧ Hid (Below w.heap.size w wr)) (fun _ _ i _ => n - (intOf i).toNat)
  case atStart => exact ⟨0, 0, false, 0, rfl, rfl, rfl, by omega, Lib.hid ⟨by omega, by omega, .inr ⟨rfl, rfl⟩⟩, B0, H0⟩
  case round =>
    obtain ⟨k, u', sm, e, rfl, rfl, rfl, hk, HS, HL, HB⟩ := hrel
    clear B0 H0
    by_cases hlt : k < n
    · obtain ⟨l0, l1⟩ := HC.out k hlt
      rw [← HB.out.cell (p := ⟨b, _, none⟩) hb] at l0 l1
      generalize f k = o at *
      obtain ⟨kind, now⟩ := o
      dsimp only at *
      by_cases h0 : kind.tmod 3 = 0
      · have t0 : (kind.tmod 3 == 0) = true := by simp [h0]
        clear h0
        go_wp2_with fail
        refine (grant_any _ _ _ _ HL.out).mono ?_; rintro r w1 ⟨rfl, hb1, hg1⟩
        have HL1 := Lib.hid hb1
        have HB1 := Lib.hid (below_gb HB.out hg1 (Nat.le_refl _))
        have HS1 := Lib.hid (show LS true (grI now) (grI now) from ⟨by have := grI_bd now; omega, (grI_bd now).2, .inl ⟨rfl, rfl, (grI_bd now).1⟩⟩)
        clear l0 l1 t0 hb1 hg1 HL HB HS
        unfold grI at *
        go_wp2_with fail
        go_roundw
        case rel => exact ⟨k + 1, _, true, _, by go_num, by go_num, rfl, by omega, HS1, HL1, HB1⟩
        case measure => simp [intOf]; omega
      · have t0 : (kind.tmod 3 == 0) = false := by simp [h0]
        clear h0
        by_cases h1 : kind.tmod 3 = 1
        · have t1 : (kind.tmod 3 == 1) = true := by simp [h1]
          clear h1
          go_wp2_with fail
          refine (drop_any _ _ _ HL.out).mono ?_; rintro r w1 ⟨rfl, hb1, hg1⟩
          have HL1 := Lib.hid hb1
          have HB1 := Lib.hid (below_gb HB.out hg1 (Nat.le_refl _))
          have HS1 := Lib.hid (show LS false u' 0 from ⟨HS.out.1, HS.out.2.1, .inr ⟨rfl, rfl⟩⟩)
          clear l0 l1 t0 t1 hb1 hg1 HL HB HS
          go_wp2_with fail
          go_roundw
          case rel => exact ⟨k + 1, u', false, 0, by go_num, rfl, rfl, by omega, HS1, HL1, HB1⟩
          case measure => simp [intOf]; omega
        · have t1 : (kind.tmod 3 == 1) = false := by simp [h1]
          clear h1
          have hbnd : e ≤ 1099511627784 := by have := HS.out; unfold LS at this; omega
          have CV := Lib.hid (valid_any w.heap.size e now wr HL.out)
          have CL := Lib.hid (left_any w.heap.size e now hbnd wr HL.out)
          clear hbnd
          have hcase : (sm = true ∧ now < u' ∧ lvalid e now = true ∧ lleft e now = u' - max now 0 ∧ 0 < u' - max now 0 ∧ u' - max now 0 ≤ 1099511627784) ∨ (sm = true ∧ ¬ now < u' ∧ lvalid e now = false ∧ lleft e now = 0) ∨ (sm = false ∧ lvalid e now = false ∧ lleft e now = 0) := by
            obtain ⟨a1, a2, a3⟩ := HS.out
            unfold lvalid lleft
            rcases a3 with ⟨rfl, rfl, h8⟩ | ⟨rfl, rfl⟩
            · by_cases hu : now < e
              · exact .inl ⟨rfl, hu, by rw [decide_eq_true_eq]; omega, by rw [if_pos (by omega)], by omega, by omega⟩
              · exact .inr (.inl ⟨rfl, hu, by rw [decide_eq_false_iff_not]; omega, by rw [if_neg (by omega)]⟩)
            · exact .inr (.inr ⟨rfl, by rw [decide_eq_false_iff_not]; omega, by rw [if_neg (by omega)]⟩)
          rcases hcase with ⟨rfl, hu, hv, hl, hp, hq⟩ | ⟨rfl, hu, hv, hl⟩ | ⟨rfl, hv, hl⟩
          · rw [hv] at CV
            rw [hl] at CL
            have hw : IntKind.i64.wrap (u' - max now 0) = u' - max now 0 := IntWalk.i64_in _ (by omega)
            clear hv hl
            go_wp2_with fail
            clear l0 l1 t0 t1
            refine CV.out.mono ?_; rintro r w9 ⟨rfl, rfl⟩
            go_wp2_with fail
            refine CL.out.mono ?_; rintro r w9 ⟨rfl, rfl⟩
            go_wp2_with fail
            go_roundw
            case rel => exact ⟨k + 1, u', true, e, by go_num, rfl, rfl, by omega, HS, HL, HB⟩
            case measure => simp [intOf]; omega
          · rw [hv] at CV
            rw [hl] at CL
            clear hv hl
            go_wp2_with fail
            clear l0 l1 t0 t1
            refine CV.out.mono ?_; rintro r w9 ⟨rfl, rfl⟩
            go_wp2_with fail
            refine CL.out.mono ?_; rintro r w9 ⟨rfl, rfl⟩
            go_wp2_with fail
            go_roundw
            case rel => exact ⟨k + 1, u', true, e, by go_num, rfl, rfl, by omega, HS, HL, HB⟩
            case measure => simp [intOf]; omega
          · rw [hv] at CV
            rw [hl] at CL
            clear hv hl
            go_wp2_with fail
            clear l0 l1 t0 t1
            refine CV.out.mono ?_; rintro r w9 ⟨rfl, rfl⟩
            go_wp2_with fail
            refine CL.out.mono ?_; rintro r w9 ⟨rfl, rfl⟩
            go_wp2_with fail
            go_roundw
            case rel => exact ⟨k + 1, u', false, e, by go_num, rfl, rfl, by omega, HS, HL, HB⟩
            case measure => simp [intOf]; omega
    · go_wp2_with fail
      refine (alive23_any _).mono ?_; rintro r w9 ⟨rfl, hb9⟩
      go_wp2_with fail
      go_ret
      exact ⟨rfl, bnext HB.out hb9⟩
set_option maxHeartbeats 1000000 in
theorem lplays_none (a : Option Addr) (cap : Nat) (w : World) :
    Calls Try.prog 5 #[.slice a 0 cap] w fun e w' => e = .returned (.bool true) ∧ Below w.heap.size w w' := by
  have H0 := Lib.hid ((Below.refl w.heap.size w).alloc (Nat.le_refl _) (.cells #[.int .i64 0] 29))
  go_enter Try.func5, Try.ntmps5
  go_wp2_with fail
  refine wp_loop_rounds 1 ?_
  rw [rounds_succ]
  go_wp2_with fail
  refine (alive23_any _).mono ?_; rintro r w9 ⟨rfl, hb9⟩
  go_wp2_with fail
  go_ret
  exact ⟨rfl, bnext H0.out hb9⟩
theorem lplayslaw (v : Value) (w : World) (h : ∃ n f, LOps w v n f) :
    Calls Try.prog 5 #[v] w fun e w' => e = .returned (.bool true) ∧ Below w.heap.size w w' := by
  obtain ⟨n, f, a, cap, rfl, hc, hm, hs⟩ := h
  by_cases h1 : 100 < n
  · exact lplays_great a n cap h1 (by unfold maxLen at hm; omega) w
  · by_cases h0 : n = 0
    · subst h0; exact lplays_none a cap w
    · obtain ⟨b, off, rfl, hb, hcell⟩ := hs h0
      exact lplays_some b off cap n f (by omega) hc w hb hcell
end Go.Proofs.Ytkkhljneeajkmaa
