/- Layer 43 (pick): Next. -/
import Derived.Test.YtkkhljneeajkmaaP3
namespace Go.Proofs.Ytkkhljneeajkmaa
open Go.RowKit

attribute [local irreducible] wpQuiet
def nd (L : List Nd) (i : Nat) : Nd := L.getD i ⟨0, 0, 0⟩
theorem nd_lt (L : List Nd) (i : Nat) (h : i < L.length) : nd L i = L[i] := by unfold nd; rw [List.getD_eq_getElem?_getD, List.getElem?_eq_getElem h]; rfl
theorem nd_set (L : List Nd) (j : Nat) (d : Nd) (h : j < L.length) : nd (L.set j d) = upd (nd L) j d := by
  funext i
  unfold nd upd
  simp only [List.getD_eq_getElem?_getD, List.getElem?_set]
  by_cases hij : i = j
  · subst hij; rw [if_pos rfl, if_pos h, if_pos rfl]; rfl
  · rw [if_neg (fun e => hij e.symm), if_neg hij]
def nxL (now : Int) (L : List Nd) : Option Nat := nxt now (nd L) L.length
/-- What is told of a next one. -/
def NX (o : Option Nat) (x : Int) (s : Bool) : Prop := (o = none ∧ x = 0 ∧ s = false) ∨ (∃ j : Nat, o = some j ∧ x = j ∧ s = true)
/-- What Next answers. -/
def NxR (now : Int) (L : List Nd) (e : Ending) : Prop := ∃ x s, e = .returned (.tuple #[.int .i64 x, .bool s]) ∧ NX (nxL now L) x s
theorem nxt_succ (now : Int) (f : Nat → Nd) (k : Nat) : nxt now f (k + 1) = match nxt now f k with
    | none => if (f k).wants now then some k else none
    | some j => if (f k).wants now ∧ (f j).score now < (f k).score now then some k else some j := rfl
theorem nxt_skip {now : Int} {f : Nat → Nd} {k : Nat} (h : ¬ (f k).wants now) : nxt now f (k + 1) = nxt now f k := by
  rw [nxt_succ]
  cases nxt now f k with
  | none => dsimp only; rw [if_neg h]
  | some j => dsimp only; rw [if_neg (fun e => h e.1)]
theorem nxt_new {now : Int} {f : Nat → Nd} {k : Nat} (h : (f k).wants now) (hn : nxt now f k = none) : nxt now f (k + 1) = some k := by
  rw [nxt_succ, hn]; dsimp only; rw [if_pos h]
theorem nxt_more {now : Int} {f : Nat → Nd} {k j : Nat} (h : (f k).wants now) (hn : nxt now f k = some j) (hs : (f j).score now < (f k).score now) : nxt now f (k + 1) = some k := by
  rw [nxt_succ, hn]; dsimp only; rw [if_pos ⟨h, hs⟩]
theorem nxt_less {now : Int} {f : Nat → Nd} {k j : Nat} (hn : nxt now f k = some j) (hs : ¬ (f j).score now < (f k).score now) : nxt now f (k + 1) = some j := by
  rw [nxt_succ, hn]; dsimp only; rw [if_neg (fun e => hs e.2)]
/-- The needs of a slice in a later world. -/
theorem NI.cells {w : World} {L : List Nd} {a : Option Addr} {c : Nat} (h : NI w (.slice a L.length c) L) (i : Nat) (hi : i < L.length) : ∃ b off, a = some ⟨b, off, none⟩ ∧ w.cell? ⟨b, off + i * 3, none⟩ = some (.int .i64 (nd L i).last) ∧ w.cell? ⟨b, off + i * 3 + 1, none⟩ = some (.int .i64 (nd L i).waste) ∧ w.cell? ⟨b, off + i * 3 + 2, none⟩ = some (.int .i64 (nd L i).waiting) := by
  obtain ⟨a', cap', hv, hcap, _, hc⟩ := h
  obtain ⟨b, off, ha, hcell⟩ := hc (fun e => by rw [e] at hi; simp at hi)
  cases hv
  rw [nd_lt L i hi]
  exact ⟨b, off, ha, hcell i hi⟩
set_option maxRecDepth 100000 in
set_option maxHeartbeats 8000000 in
theorem next_any (now : Int) (v : Value) (L : List Nd) (hl : L.length ≤ 1000000) (w : World) (h : NI w v L) :
    Calls Try.prog 31 #[.int .i64 now, v] w fun e w' => NxR now L e ∧ Below w.heap.size w w' := by
  have HR := Lib.hid h
  obtain ⟨a, cap, rfl, hcap, hc⟩ := h
  clear hc
  go_enter Try.func31, Try.ntmps31
  go_wp2_with fail
  go_loopw [6, 7, 12] (fun nx sm i wr => ∃ (k : Nat) (x : Int) (s : Bool), i = .int .i64 k ∧ nx = .int .i64 x ∧ sm = .bool s ∧ k ≤ L.length ∧ Hid (NX (nxt now (nd L) k) x s) ∧ Hid (Below w.heap.size w wr)) (fun _ _ i _ => L.length - (intOf i).toNat)
  case atStart => exact ⟨0, 0, false, rfl, rfl, rfl, Nat.zero_le _, Lib.hid (.inl ⟨rfl, rfl, rfl⟩), Lib.hid (Below.refl _ _)⟩
  case round =>
    obtain ⟨k, x, s, rfl, rfl, rfl, hk, HN, HB⟩ := hrel
    by_cases hlt : k < L.length
    · have hi1 : (k : Int) < (L.length : Int) := by omega
      have hR := HR.out.next HB.out
      obtain ⟨b, off, rfl, x0, x1, x2⟩ := hR.cells k hlt
      have HRW := Lib.hid (fun j hj => hR.cells j hj)
      clear hR
      have HND := Lib.hid (rfl : nd L k = nd L k)
      obtain ⟨dk, hdk⟩ : ∃ dk, dk = nd L k := ⟨_, rfl⟩
      rw [← hdk] at x0 x1 x2
      have HDK := Lib.hid hdk
      clear hdk HND
      obtain ⟨dl, dw, dt⟩ := dk
      dsimp only at x0 x1 x2
      have HW1 := Lib.hid (show Below w.heap.size w (wr.alloc (.cells #[.int .i64 dl, .int .i64 dw, .int .i64 dt] 45)) from HB.out.alloc HB.out.size _)
      have HX1 := Lib.hid (show Bx (wr.alloc (.cells #[.int .i64 dl, .int .i64 dw, .int .i64 dt] 45)) wr.heap.size 45 #[.int .i64 dl, .int .i64 dw, .int .i64 dt] from Bx.fresh wr _ _)
      have HG1 := Lib.hid (show ∀ b o u, b < wr.heap.size → wr.cell? ⟨b, o, none⟩ = some u → ((wr.alloc (.cells #[.int .i64 dl, .int .i64 dw, .int .i64 dt] 45))).cell? ⟨b, o, none⟩ = some u from fun b o u hb hu => by
        have h1 : Below wr.heap.size wr (wr.alloc (.cells #[.int .i64 dl, .int .i64 dw, .int .i64 dt] 45)) := (Below.refl _ _).alloc (Nat.le_refl _) _
        exact cell_nx h1 hu)
      go_wp2_with fail
      clear x0 x1 x2
      generalize (wr.alloc (.cells #[.int .i64 dl, .int .i64 dw, .int .i64 dt] 45)) = W1 at *
      have hX := HX1.out
      have m0 := Go.cell_regrown (hX.read (i := 0) (v := .int .i64 dl) rfl)
      have m1 := Go.cell_regrown (hX.read (i := 1) (v := .int .i64 dw) rfl)
      have m2 := Go.cell_regrown (hX.read (i := 2) (v := .int .i64 dt) rfl)
      clear hX HX1
      by_cases hw : Nd.wants ⟨dl, dw, dt⟩ now
      · have cW : ∀ q os, Calls Try.prog 66 #[.agg #[.int .i64 dl, .int .i64 dw, .int .i64 dt], .int .i64 now] (Go.Sort.grow (Go.redrawn W1 q) os) fun e w'' => e = .returned (.bool (decide (Nd.wants ⟨dl, dw, dt⟩ now))) ∧ ∃ p : Go.Regrown, w'' = Go.Sort.grow (Go.redrawn W1 p.d) p.os := fun q os => Calls.regrown_of (wants_any ⟨dl, dw, dt⟩ now _)
        rw [decide_eq_true hw] at cW
        have CW := Lib.hid cW
        clear cW
        rcases HN.out with ⟨hn, rfl, rfl⟩ | ⟨j, hn, rfl, rfl⟩
        · have HN1 := Lib.hid (show NX (nxt now (nd L) (k + 1)) (k : Int) true from .inr ⟨k, nxt_new (by rw [← HDK.out]; exact hw) hn, rfl, rfl⟩)
          clear hn hw
          refine Go.wp_region_quiet_below (by kernel_rfl) (by kernel_rfl) ?_
          repeat (quiet_step (first | with_reducible exact CW.out _ _))
          refine wpQuiet_nil ?_
          intro _ hw'
          obtain ⟨⟨dq, osq⟩, hw''⟩ := hw'
          subst hw''
          have HB9 := Lib.hid (bnext HW1.out (Go.below_regrown W1 dq osq))
          clear m0 m1 m2
          generalize Go.Sort.grow (Go.redrawn W1 dq) osq = W9 at *
          go_wp2_with fail
          go_roundw
          case rel => exact ⟨k + 1, (k : Int), true, by go_num, rfl, rfl, by omega, HN1, HB9⟩
          case measure => simp [intOf]; omega
        · have cS : ∀ q os, Calls Try.prog 29 #[.agg #[.int .i64 dl, .int .i64 dw, .int .i64 dt], .int .i64 now] (Go.Sort.grow (Go.redrawn W1 q) os) fun e w'' => e = .returned (.int .i64 (Nd.score ⟨dl, dw, dt⟩ now)) ∧ ∃ p : Go.Regrown, w'' = Go.Sort.grow (Go.redrawn W1 p.d) p.os := fun q os => Calls.regrown_of (score_any ⟨dl, dw, dt⟩ now _)
          have hjk := nxt_lt _ _ _ _ hn
          have hj2 : (j : Int) < (L.length : Int) := by omega
          obtain ⟨b', off', hab, y0, y1, y2⟩ := HRW.out j (by omega)
          cases hab
          obtain ⟨dj, hdj⟩ : ∃ dj, dj = nd L j := ⟨_, rfl⟩
          rw [← hdj] at y0 y1 y2
          have HDJ := Lib.hid hdj
          clear hdj
          obtain ⟨jl, jw, jt⟩ := dj
          dsimp only at y0 y1 y2
          have cJ : ∀ q os, Calls Try.prog 29 #[.agg #[.int .i64 jl, .int .i64 jw, .int .i64 jt], .int .i64 now] (Go.Sort.grow (Go.redrawn W1 q) os) fun e w'' => e = .returned (.int .i64 (Nd.score ⟨jl, jw, jt⟩ now)) ∧ ∃ p : Go.Regrown, w'' = Go.Sort.grow (Go.redrawn W1 p.d) p.os := fun q os => Calls.regrown_of (score_any ⟨jl, jw, jt⟩ now _)
          have n0 := Go.cell_regrown (HG1.out _ _ _ (World.block_lt_of_cell? _ _ y0) y0)
          have n1 := Go.cell_regrown (HG1.out _ _ _ (World.block_lt_of_cell? _ _ y0) y1)
          have n2 := Go.cell_regrown (HG1.out _ _ _ (World.block_lt_of_cell? _ _ y0) y2)
          clear y0 y1 y2
          have CS := Lib.hid cS
          have CJ := Lib.hid cJ
          clear cS cJ
          have HM := Lib.hid (fun h => @nxt_more now (nd L) k j (by rw [← HDK.out]; exact hw) hn h)
          have HLs := Lib.hid (fun h => @nxt_less now (nd L) k j hn h)
          rw [← HDK.out, ← HDJ.out] at HM HLs
          generalize Nd.score ⟨dl, dw, dt⟩ now = sk at *
          generalize Nd.score ⟨jl, jw, jt⟩ now = sj at *
          by_cases hcmp : sj < sk
          · have HN1 := Lib.hid (show NX (nxt now (nd L) (k + 1)) (k : Int) true from .inr ⟨k, HM.out hcmp, rfl, rfl⟩)
            have hd : decide (sj < sk) = true := decide_eq_true hcmp
            clear hn hw HM HLs
            refine Go.wp_region_quiet_below (by kernel_rfl) (by kernel_rfl) ?_
            repeat (quiet_step (first | with_reducible exact CW.out _ _ | with_reducible exact CS.out _ _ | with_reducible exact CJ.out _ _))
            clear n0 n1 n2
            refine wpQuiet_nil ?_
            intro _ hw'
            obtain ⟨⟨dq, osq⟩, hw''⟩ := hw'
            subst hw''
            have HB9 := Lib.hid (bnext HW1.out (Go.below_regrown W1 dq osq))
            clear m0 m1 m2
            generalize Go.Sort.grow (Go.redrawn W1 dq) osq = W9 at *
            go_wp2_with fail
            go_roundw
            case rel => exact ⟨k + 1, (k : Int), true, by go_num, rfl, rfl, by omega, HN1, HB9⟩
            case measure => simp [intOf]; omega
          · have HN1 := Lib.hid (show NX (nxt now (nd L) (k + 1)) (j : Int) true from .inr ⟨j, HLs.out hcmp, rfl, rfl⟩)
            have hd : decide (sj < sk) = false := decide_eq_false hcmp
            clear hn hw HM HLs
            refine Go.wp_region_quiet_below (by kernel_rfl) (by kernel_rfl) ?_
            repeat (quiet_step (first | with_reducible exact CW.out _ _ | with_reducible exact CS.out _ _ | with_reducible exact CJ.out _ _))
            clear n0 n1 n2
            refine wpQuiet_nil ?_
            intro _ hw'
            obtain ⟨⟨dq, osq⟩, hw''⟩ := hw'
            subst hw''
            have HB9 := Lib.hid (bnext HW1.out (Go.below_regrown W1 dq osq))
            clear m0 m1 m2
            generalize Go.Sort.grow (Go.redrawn W1 dq) osq = W9 at *
            go_wp2_with fail
            go_roundw
            case rel => exact ⟨k + 1, (j : Int), true, by go_num, rfl, rfl, by omega, HN1, HB9⟩
            case measure => simp [intOf]; omega
      · have cW : ∀ q os, Calls Try.prog 66 #[.agg #[.int .i64 dl, .int .i64 dw, .int .i64 dt], .int .i64 now] (Go.Sort.grow (Go.redrawn W1 q) os) fun e w'' => e = .returned (.bool (decide (Nd.wants ⟨dl, dw, dt⟩ now))) ∧ ∃ p : Go.Regrown, w'' = Go.Sort.grow (Go.redrawn W1 p.d) p.os := fun q os => Calls.regrown_of (wants_any ⟨dl, dw, dt⟩ now _)
        rw [decide_eq_false hw] at cW
        have CW := Lib.hid cW
        clear cW
        have HN1 := Lib.hid (show NX (nxt now (nd L) (k + 1)) x s by rw [nxt_skip (by rw [← HDK.out]; exact hw)]; exact HN.out)
        clear hw HN
        refine Go.wp_region_quiet_below (by kernel_rfl) (by kernel_rfl) ?_
        repeat (quiet_step (first | with_reducible exact CW.out _ _))
        refine wpQuiet_nil ?_
        intro _ hw'
        obtain ⟨⟨dq, osq⟩, hw''⟩ := hw'
        subst hw''
        have HB9 := Lib.hid (bnext HW1.out (Go.below_regrown W1 dq osq))
        clear m0 m1 m2
        generalize Go.Sort.grow (Go.redrawn W1 dq) osq = W9 at *
        go_wp2_with fail
        go_roundw
        case rel => exact ⟨k + 1, x, s, by go_num, rfl, rfl, by omega, HN1, HB9⟩
        case measure => simp [intOf]; omega
    · have hi1 : ¬ (k : Int) < (L.length : Int) := by omega
      have hkl : k = L.length := by omega
      subst hkl
      go_wp2_with fail
      go_ret2
      exact ⟨show NxR now L _ from ⟨x, s, rfl, HN.out⟩, HB.out⟩
end Go.Proofs.Ytkkhljneeajkmaa
