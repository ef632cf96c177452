/- Layer 43 (pick): the law's order: whose head is the next one. -/
import Derived.Test.YtkkhljneeajkmaaP4
import Derived.Deep.LoopGhost
namespace Go.Proofs.Ytkkhljneeajkmaa
open Go.RowKit

attribute [local irreducible] wpQuiet
theorem own_apart {w : World} {B B' : Nat} {e e' : TypeId} {sz sz' n n' : Nat} {v v' : Value} {xs xs' : List Value} (h : w.ownsRow B e sz v n xs) (h' : w.ownsRow B' e' sz' v' n' xs') (hne : e ≠ e') : v.ownBlock = none ∨ v.ownBlock ≠ v'.ownBlock := by
  rcases h.2 with ⟨rfl, _⟩ | ⟨g, cap, cur, rfl, _, hg, _⟩
  · exact .inl rfl
  · right
    rcases h'.2 with ⟨rfl, _⟩ | ⟨g', cap', cur', rfl, _, hg', _⟩
    · simp [Value.ownBlock]
    · intro e1
      simp [Value.ownBlock] at e1
      subst e1
      rw [hg] at hg'
      cases hg'
      exact hne rfl
theorem wpList_appI {X : World} {ops : Array Oper} {rest : List Oper} {o : Oper} {a : Act} {Q : Exit → Act → World → Prop} (hgd : o.guard = none) (s x : Operand)
    (ho : o.op = .call { callee := .builtin .append, args := #[s, x], argTypes := #[41, 41] })
    (base : Nat) (v : Value) (L : List Int) (p : Int) (hs : a.eval s = v) (hx : a.eval x = .slice (some ⟨X.heap.size, 0, none⟩) 1 1) (hown : IO X base v L) (hm : L.length ≤ 100000) (hbase : base ≤ X.heap.size)
    (h : ∀ v' w', IO w' base v' (L ++ [p]) → X.grownBy w' v.ownBlock → wpList Try.prog ops Q rest (a.put o.dst v') w') : wpList Try.prog ops Q (o :: rest) a (X.alloc (.cells #[.int .i64 p] 3)) := by
  obtain ⟨i0, hi, hz0, hz1, hz2⟩ := info_parts i_info
  refine wpList_append_own _ hgd s x 41 ho base 3 i0 _ 1 8 Try.underlying41 hi hz0 hz1 hz2 rfl (by decide) v L.length (iv L) hs (hown.alloc _) ⟨X.heap.size, 0, none⟩ 1 1 [.int .i64 p] hx rfl ?_ ?_ ?_ ?_ (by rw [World.size_alloc]; omega) ?_
  · exact World.news_of_block (cs := #[.int .i64 p]) (t := 3) (fr := (0, 0)) (heap_alloc_new _ _)
  · simp [Value.oneCell']
  · simp only [maxLen]; omega
  · omega
  · intro v' w' ho' hg' _
    refine h v' w' ?_ (gb_trans (gb_alloc _ _ _) hg')
    unfold IO
    rw [List.length_append, iv_snoc]
    exact ho'
theorem IO.form {w : World} {B : Nat} {v : Value} {l : List Int} (h : IO w B v l) : ∃ a c, v = .slice a l.length c := by
  rcases h.2 with ⟨rfl, hl⟩ | ⟨g, cap, cur, rfl, _⟩
  · exact ⟨none, 0, by rw [hl]⟩
  · exact ⟨_, _, rfl⟩
theorem io_nil (w : World) (B : Nat) : IO w B (.slice none 0 0) [] := ⟨rfl, .inl ⟨rfl, rfl⟩⟩
/-- A row whose first one is the next one, or that has none, if there is none. -/
def OH (now : Int) (L : List Nd) (out : List Int) : Prop := out = [] ∨ ∃ (j : Nat) (rest : List Int), out = (j : Int) :: rest ∧ nxL now L = some j
/-- The best one so far among those that aren't told yet. -/
def BE (now : Int) (L : List Nd) (out : List Int) (k : Nat) (bi : Int) : Prop := (bi = -1 ∧ (out = [] → nxt now (nd L) k = none)) ∨ (∃ j : Nat, bi = j ∧ j < k ∧ (out = [] → nxt now (nd L) k = some j))
/-- What order answers. -/
def OrdR (now : Int) (L : List Nd) (B : Nat) (e : Ending) (w' : World) : Prop := ∃ v' out, e = .returned v' ∧ IO w' B v' out ∧ ((out = [] ∧ nxL now L = none) ∨ ∃ (j : Nat) (rest : List Int), out = (j : Int) :: rest ∧ nxL now L = some j)
set_option maxRecDepth 100000 in
set_option maxHeartbeats 16000000 in
theorem order_any (now : Int) (v : Value) (L : List Nd) (hl : L.length ≤ 1000) (w : World) (h : NI w v L) :
    Calls Try.prog 22 #[.int .i64 now, v] w fun e w' => OrdR now L w.heap.size e w' ∧ Below w.heap.size w w' := by
  have HR := Lib.hid h
  obtain ⟨a, cap, rfl, hcap, hc⟩ := h
  clear hc
  go_enter Try.func22, Try.ntmps22
  go_wp2_with fail
  go_loopg [5] (L.length + 1) (fun g v5 wr => ∃ (vo : Value) (out : List Int), v5 = vo ∧ Hid (IO wr w.heap.size vo out) ∧ Hid (OH now L out) ∧ Hid (Below w.heap.size w wr) ∧ out.length ≤ L.length + 1 ∧ Hid (g = L.length + 1 - out.length))
  case atStart => exact ⟨_, [], rfl, Lib.hid (io_nil _ _), Lib.hid (.inl rfl), Lib.hid (Below.refl _ _), by simp, Lib.hid (by simp)⟩
  case round =>
    obtain ⟨vo, out, rfl, HO, HH, HB, hlen, HG0⟩ := hrel
    obtain ⟨ao, co, rfl⟩ := HO.out.form
    by_cases hle : out.length ≤ L.length
    · have hi0 : (out.length : Int) ≤ (L.length : Int) := by omega
      have HLEN := Lib.hid hle
      clear hlen
      go_wp2_with fail
      go_loopg [6, 7] L.length (fun g v6 v7 wi => ∃ (k : Nat) (bi : Int), v7 = .int .i64 k ∧ v6 = .int .i64 bi ∧ k ≤ L.length ∧ Hid (g = L.length - k) ∧ Hid (BE now L out k bi) ∧ Hid (IO wi w.heap.size (.slice ao out.length co) out) ∧ Hid (Below w.heap.size w wi))
      case atStart => exact ⟨0, -1, rfl, rfl, Nat.zero_le _, Lib.hid rfl, Lib.hid (.inl ⟨rfl, fun _ => rfl⟩), HO, HB⟩
      case round =>
        obtain ⟨k, bi, rfl, rfl, hk, HG, HBE, HO1, HB1⟩ := hrel
        clear HO HB
        by_cases hlt : k < L.length
        · have hi1 : (k : Int) < (L.length : Int) := by omega
          have hR := HR.out.next HB1.out
          obtain ⟨b, off, rfl, x0, x1, x2⟩ := hR.cells k hlt
          have HRW := Lib.hid (fun W (hW : Below w.heap.size w W) j hj => (HR.out.next hW).cells j hj)
          clear hR
          obtain ⟨dk, hdk⟩ : ∃ dk, dk = nd L k := ⟨_, rfl⟩
          rw [← hdk] at x0 x1 x2
          have HDK := Lib.hid hdk
          clear hdk
          obtain ⟨dl, dw, dt⟩ := dk
          dsimp only at x0 x1 x2
          have HCK := Lib.hid (show ∀ W, Below w.heap.size w W → W.cell? ⟨b, off + k * 3, none⟩ = some (.int .i64 dl) ∧ W.cell? ⟨b, off + k * 3 + 1, none⟩ = some (.int .i64 dw) ∧ W.cell? ⟨b, off + k * 3 + 2, none⟩ = some (.int .i64 dt) from fun W hW => by
            obtain ⟨b', off', hab, z0, z1, z2⟩ := HRW.out W hW k hlt
            cases hab
            rw [← HDK.out] at z0 z1 z2
            exact ⟨z0, z1, z2⟩)
          clear x0 x1 x2
          have CC := Lib.hid (icontains_any (.slice ao out.length co) out (k : Int) (by have := HLEN.out; omega) wr HO1.out.in_)
          have HAN := Lib.hid (fun (ho : out = []) => (show out.any (fun y => (k : Int) == y) = false from by rw [ho]; rfl))
          generalize out.any (fun y => (k : Int) == y) = cb at *
          have CD := Lib.hid (fun W => ldue_any ⟨dl, dw, dt⟩ now W)
          unfold Nd.cells at CD
          dsimp only at CD
          have HWT := Lib.hid (show Nd.wants ⟨dl, dw, dt⟩ now ↔ (5 ≤ Nd.due ⟨dl, dw, dt⟩ now ∨ 0 < dt) from Iff.rfl)
          generalize Nd.due ⟨dl, dw, dt⟩ now = du at *
          go_wp2_with fail
          refine CC.out.mono ?_; rintro e w2 ⟨rfl, hb2⟩
          have HB2 := Lib.hid (bnext HB1.out hb2)
          have HO2 := Lib.hid (HO1.out.next hb2)
          clear hb2 CC HB1 HO1
          obtain ⟨x0, x1, x2⟩ := HCK.out _ HB2.out
          cases cb with
          | true =>
            have HBE1 := Lib.hid (show BE now L out (k + 1) bi from by
              rcases HBE.out with ⟨h1, h2⟩ | ⟨j, h1, h2, h3⟩
              · exact .inl ⟨h1, fun ho => by have := HAN.out ho; cases this⟩
              · exact .inr ⟨j, h1, by omega, fun ho => by have := HAN.out ho; cases this⟩)
            clear x0 x1 x2 HBE
            go_wp2_with fail
            go_roundg (L.length - (k + 1))
            case measure => have := HG.out; omega
            case rel => exact ⟨k + 1, bi, by go_num, rfl, by omega, by first | rfl | omega, HBE1, HO2, HB2⟩
          | false =>
            clear HAN
            by_cases hw : Nd.wants ⟨dl, dw, dt⟩ now
            · by_cases h5 : 5 ≤ du
              · have d5 : decide (du < 5) = false := by rw [decide_eq_false_iff_not]; omega
                clear HWT
                go_wp2_with fail
                refine (CD.out _).mono ?_; rintro e w3 ⟨rfl, hb3⟩
                have HB3 := Lib.hid (bnext HB2.out hb3)
                have HO3 := Lib.hid (HO2.out.next hb3)
                obtain ⟨y0, y1, y2⟩ : w3.cell? ⟨b, off + k * 3, none⟩ = some (.int .i64 dl) ∧ w3.cell? ⟨b, off + k * 3 + 1, none⟩ = some (.int .i64 dw) ∧ w3.cell? ⟨b, off + k * 3 + 2, none⟩ = some (.int .i64 dt) := HCK.out _ HB3.out
                clear hb3 x0 x1 x2
                go_wp2_with fail
                rcases HBE.out with ⟨hb0, hbn⟩ | ⟨j, hbj, hjk, hbn⟩
                · have HBE1 := Lib.hid (show BE now L out (k + 1) (k : Int) from .inr ⟨k, rfl, by omega, fun ho => nxt_new (by rw [← HDK.out]; exact hw) (hbn ho)⟩)
                  have hbi : bi < 0 := by omega
                  clear hb0 hbn hw
                  refine Go.wp_region_quiet_below (by kernel_rfl) (by kernel_rfl) ?_
                  repeat (quiet_step (fail))
                  refine wpQuiet_nil ?_
                  intro _ hw'
                  obtain ⟨⟨dq, osq⟩, hw''⟩ := hw'
                  subst hw''
                  have HB9 := Lib.hid (bnext HB3.out (Go.below_regrown w3 dq osq))
                  have HO9 := Lib.hid (HO3.out.next (Go.below_regrown w3 dq osq))
                  generalize Go.Sort.grow (Go.redrawn w3 dq) osq = W9 at *
                  clear y0 y1 y2
                  go_wp2_with fail
                  go_roundg (L.length - (k + 1))
                  case measure => have := HG.out; omega
                  case rel => exact ⟨k + 1, (k : Int), by go_num, rfl, by omega, by first | rfl | omega, HBE1, HO9, HB9⟩
                · have hbi : ¬ bi < 0 := by omega
                  obtain ⟨b', off', hab, z0, z1, z2⟩ := HRW.out _ HB3.out j (by omega)
                  cases hab
                  obtain ⟨dj, hdj⟩ : ∃ dj, dj = nd L j := ⟨_, rfl⟩
                  rw [← hdj] at z0 z1 z2
                  have HDJ := Lib.hid hdj
                  clear hdj
                  obtain ⟨jl, jw, jt⟩ := dj
                  dsimp only at z0 z1 z2
                  have cS : ∀ q os, Calls Try.prog 30 #[.agg #[.int .i64 dl, .int .i64 dw, .int .i64 dt], .int .i64 now] (Go.Sort.grow (Go.redrawn w3 q) os) fun e w'' => e = .returned (.int .i64 (Nd.score ⟨dl, dw, dt⟩ now)) ∧ ∃ p : Go.Regrown, w'' = Go.Sort.grow (Go.redrawn w3 p.d) p.os := fun q os => Calls.regrown_of (lscore_any ⟨dl, dw, dt⟩ now _)
                  have cJ : ∀ q os, Calls Try.prog 30 #[.agg #[.int .i64 jl, .int .i64 jw, .int .i64 jt], .int .i64 now] (Go.Sort.grow (Go.redrawn w3 q) os) fun e w'' => e = .returned (.int .i64 (Nd.score ⟨jl, jw, jt⟩ now)) ∧ ∃ p : Go.Regrown, w'' = Go.Sort.grow (Go.redrawn w3 p.d) p.os := fun q os => Calls.regrown_of (lscore_any ⟨jl, jw, jt⟩ now _)
                  have n0 := Go.cell_regrown z0
                  have n1 := Go.cell_regrown z1
                  have n2 := Go.cell_regrown z2
                  have m0 := Go.cell_regrown y0
                  have m1 := Go.cell_regrown y1
                  have m2 := Go.cell_regrown y2
                  clear y0 y1 y2 z0 z1 z2
                  have CS := Lib.hid cS
                  have CJ := Lib.hid cJ
                  clear cS cJ
                  have HM := Lib.hid (fun (ho : out = []) h => @nxt_more now (nd L) k j (by rw [← HDK.out]; exact hw) (hbn ho) h)
                  have HLs := Lib.hid (fun (ho : out = []) h => @nxt_less now (nd L) k j (hbn ho) h)
                  rw [← HDK.out, ← HDJ.out] at HM HLs
                  subst hbj
                  have hjn : j < L.length := by omega
                  have hj2 : (j : Int) < (L.length : Int) := by omega
                  clear hbn hw
                  generalize Nd.score ⟨dl, dw, dt⟩ now = sk at *
                  generalize Nd.score ⟨jl, jw, jt⟩ now = sj at *
                  by_cases hcmp : sj < sk
                  · have HBE1 := Lib.hid (show BE now L out (k + 1) (k : Int) from .inr ⟨k, rfl, by omega, fun ho => HM.out ho hcmp⟩)
                    have hd : decide (sj < sk) = true := decide_eq_true hcmp
                    clear HM HLs HBE
                    refine Go.wp_region_quiet_below (by kernel_rfl) (by kernel_rfl) ?_
                    repeat (quiet_step (first | with_reducible exact CS.out _ _ | with_reducible exact CJ.out _ _))
                    refine wpQuiet_nil ?_
                    intro _ hw'
                    obtain ⟨⟨dq, osq⟩, hw''⟩ := hw'
                    subst hw''
                    have HB9 := Lib.hid (bnext HB3.out (Go.below_regrown w3 dq osq))
                    have HO9 := Lib.hid (HO3.out.next (Go.below_regrown w3 dq osq))
                    clear n0 n1 n2 m0 m1 m2
                    generalize Go.Sort.grow (Go.redrawn w3 dq) osq = W9 at *
                    go_wp2_with fail
                    go_roundg (L.length - (k + 1))
                    case measure => have := HG.out; omega
                    case rel => exact ⟨k + 1, (k : Int), by go_num, rfl, by omega, by first | rfl | omega, HBE1, HO9, HB9⟩
                  · have HBE1 := Lib.hid (show BE now L out (k + 1) (j : Int) from .inr ⟨j, rfl, by omega, fun ho => HLs.out ho hcmp⟩)
                    have hd : decide (sj < sk) = false := decide_eq_false hcmp
                    clear HM HLs HBE
                    refine Go.wp_region_quiet_below (by kernel_rfl) (by kernel_rfl) ?_
                    repeat (quiet_step (first | with_reducible exact CS.out _ _ | with_reducible exact CJ.out _ _))
                    refine wpQuiet_nil ?_
                    intro _ hw'
                    obtain ⟨⟨dq, osq⟩, hw''⟩ := hw'
                    subst hw''
                    have HB9 := Lib.hid (bnext HB3.out (Go.below_regrown w3 dq osq))
                    have HO9 := Lib.hid (HO3.out.next (Go.below_regrown w3 dq osq))
                    clear n0 n1 n2 m0 m1 m2
                    generalize Go.Sort.grow (Go.redrawn w3 dq) osq = W9 at *
                    go_wp2_with fail
                    go_roundg (L.length - (k + 1))
                    case measure => have := HG.out; omega
                    case rel => exact ⟨k + 1, (j : Int), by go_num, rfl, by omega, by first | rfl | omega, HBE1, HO9, HB9⟩
              · have d5 : decide (du < 5) = true := by rw [decide_eq_true_eq]; omega
                have h0 : 0 < dt := (HWT.out.1 hw).resolve_left h5
                have d0 : decide (dt ≤ 0) = false := by rw [decide_eq_false_iff_not]; omega
                clear HWT
                go_wp2_with fail
                refine (CD.out _).mono ?_; rintro e w3 ⟨rfl, hb3⟩
                have HB3 := Lib.hid (bnext HB2.out hb3)
                have HO3 := Lib.hid (HO2.out.next hb3)
                obtain ⟨y0, y1, y2⟩ : w3.cell? ⟨b, off + k * 3, none⟩ = some (.int .i64 dl) ∧ w3.cell? ⟨b, off + k * 3 + 1, none⟩ = some (.int .i64 dw) ∧ w3.cell? ⟨b, off + k * 3 + 2, none⟩ = some (.int .i64 dt) := HCK.out _ HB3.out
                clear hb3 x0 x1 x2
                go_wp2_with fail
                rcases HBE.out with ⟨hb0, hbn⟩ | ⟨j, hbj, hjk, hbn⟩
                · have HBE1 := Lib.hid (show BE now L out (k + 1) (k : Int) from .inr ⟨k, rfl, by omega, fun ho => nxt_new (by rw [← HDK.out]; exact hw) (hbn ho)⟩)
                  have hbi : bi < 0 := by omega
                  clear hb0 hbn hw
                  refine Go.wp_region_quiet_below (by kernel_rfl) (by kernel_rfl) ?_
                  repeat (quiet_step (fail))
                  refine wpQuiet_nil ?_
                  intro _ hw'
                  obtain ⟨⟨dq, osq⟩, hw''⟩ := hw'
                  subst hw''
                  have HB9 := Lib.hid (bnext HB3.out (Go.below_regrown w3 dq osq))
                  have HO9 := Lib.hid (HO3.out.next (Go.below_regrown w3 dq osq))
                  generalize Go.Sort.grow (Go.redrawn w3 dq) osq = W9 at *
                  clear y0 y1 y2
                  go_wp2_with fail
                  go_roundg (L.length - (k + 1))
                  case measure => have := HG.out; omega
                  case rel => exact ⟨k + 1, (k : Int), by go_num, rfl, by omega, by first | rfl | omega, HBE1, HO9, HB9⟩
                · have hbi : ¬ bi < 0 := by omega
                  obtain ⟨b', off', hab, z0, z1, z2⟩ := HRW.out _ HB3.out j (by omega)
                  cases hab
                  obtain ⟨dj, hdj⟩ : ∃ dj, dj = nd L j := ⟨_, rfl⟩
                  rw [← hdj] at z0 z1 z2
                  have HDJ := Lib.hid hdj
                  clear hdj
                  obtain ⟨jl, jw, jt⟩ := dj
                  dsimp only at z0 z1 z2
                  have cS : ∀ q os, Calls Try.prog 30 #[.agg #[.int .i64 dl, .int .i64 dw, .int .i64 dt], .int .i64 now] (Go.Sort.grow (Go.redrawn w3 q) os) fun e w'' => e = .returned (.int .i64 (Nd.score ⟨dl, dw, dt⟩ now)) ∧ ∃ p : Go.Regrown, w'' = Go.Sort.grow (Go.redrawn w3 p.d) p.os := fun q os => Calls.regrown_of (lscore_any ⟨dl, dw, dt⟩ now _)
                  have cJ : ∀ q os, Calls Try.prog 30 #[.agg #[.int .i64 jl, .int .i64 jw, .int .i64 jt], .int .i64 now] (Go.Sort.grow (Go.redrawn w3 q) os) fun e w'' => e = .returned (.int .i64 (Nd.score ⟨jl, jw, jt⟩ now)) ∧ ∃ p : Go.Regrown, w'' = Go.Sort.grow (Go.redrawn w3 p.d) p.os := fun q os => Calls.regrown_of (lscore_any ⟨jl, jw, jt⟩ now _)
                  have n0 := Go.cell_regrown z0
                  have n1 := Go.cell_regrown z1
                  have n2 := Go.cell_regrown z2
                  have m0 := Go.cell_regrown y0
                  have m1 := Go.cell_regrown y1
                  have m2 := Go.cell_regrown y2
                  clear y0 y1 y2 z0 z1 z2
                  have CS := Lib.hid cS
                  have CJ := Lib.hid cJ
                  clear cS cJ
                  have HM := Lib.hid (fun (ho : out = []) h => @nxt_more now (nd L) k j (by rw [← HDK.out]; exact hw) (hbn ho) h)
                  have HLs := Lib.hid (fun (ho : out = []) h => @nxt_less now (nd L) k j (hbn ho) h)
                  rw [← HDK.out, ← HDJ.out] at HM HLs
                  subst hbj
                  have hjn : j < L.length := by omega
                  have hj2 : (j : Int) < (L.length : Int) := by omega
                  clear hbn hw
                  generalize Nd.score ⟨dl, dw, dt⟩ now = sk at *
                  generalize Nd.score ⟨jl, jw, jt⟩ now = sj at *
                  by_cases hcmp : sj < sk
                  · have HBE1 := Lib.hid (show BE now L out (k + 1) (k : Int) from .inr ⟨k, rfl, by omega, fun ho => HM.out ho hcmp⟩)
                    have hd : decide (sj < sk) = true := decide_eq_true hcmp
                    clear HM HLs HBE
                    refine Go.wp_region_quiet_below (by kernel_rfl) (by kernel_rfl) ?_
                    repeat (quiet_step (first | with_reducible exact CS.out _ _ | with_reducible exact CJ.out _ _))
                    refine wpQuiet_nil ?_
                    intro _ hw'
                    obtain ⟨⟨dq, osq⟩, hw''⟩ := hw'
                    subst hw''
                    have HB9 := Lib.hid (bnext HB3.out (Go.below_regrown w3 dq osq))
                    have HO9 := Lib.hid (HO3.out.next (Go.below_regrown w3 dq osq))
                    clear n0 n1 n2 m0 m1 m2
                    generalize Go.Sort.grow (Go.redrawn w3 dq) osq = W9 at *
                    go_wp2_with fail
                    go_roundg (L.length - (k + 1))
                    case measure => have := HG.out; omega
                    case rel => exact ⟨k + 1, (k : Int), by go_num, rfl, by omega, by first | rfl | omega, HBE1, HO9, HB9⟩
                  · have HBE1 := Lib.hid (show BE now L out (k + 1) (j : Int) from .inr ⟨j, rfl, by omega, fun ho => HLs.out ho hcmp⟩)
                    have hd : decide (sj < sk) = false := decide_eq_false hcmp
                    clear HM HLs HBE
                    refine Go.wp_region_quiet_below (by kernel_rfl) (by kernel_rfl) ?_
                    repeat (quiet_step (first | with_reducible exact CS.out _ _ | with_reducible exact CJ.out _ _))
                    refine wpQuiet_nil ?_
                    intro _ hw'
                    obtain ⟨⟨dq, osq⟩, hw''⟩ := hw'
                    subst hw''
                    have HB9 := Lib.hid (bnext HB3.out (Go.below_regrown w3 dq osq))
                    have HO9 := Lib.hid (HO3.out.next (Go.below_regrown w3 dq osq))
                    clear n0 n1 n2 m0 m1 m2
                    generalize Go.Sort.grow (Go.redrawn w3 dq) osq = W9 at *
                    go_wp2_with fail
                    go_roundg (L.length - (k + 1))
                    case measure => have := HG.out; omega
                    case rel => exact ⟨k + 1, (j : Int), by go_num, rfl, by omega, by first | rfl | omega, HBE1, HO9, HB9⟩
            · have h5 : du < 5 := by
                by_cases h : 5 ≤ du
                · exact absurd (HWT.out.2 (.inl h)) hw
                · omega
              have h0 : dt ≤ 0 := by
                by_cases h : 0 < dt
                · exact absurd (HWT.out.2 (.inr h)) hw
                · omega
              have HBE1 := Lib.hid (show BE now L out (k + 1) bi from by
                have hsk := @nxt_skip now (nd L) k (by rw [← HDK.out]; exact hw)
                rcases HBE.out with ⟨h1, h2⟩ | ⟨j, h1, h2, h3⟩
                · exact .inl ⟨h1, fun ho => by rw [hsk]; exact h2 ho⟩
                · exact .inr ⟨j, h1, by omega, fun ho => by rw [hsk]; exact h3 ho⟩)
              clear hw HWT HBE
              go_wp2_with fail
              refine (CD.out _).mono ?_; rintro e w3 ⟨rfl, hb3⟩
              have HB3 := Lib.hid (bnext HB2.out hb3)
              have HO3 := Lib.hid (HO2.out.next hb3)
              clear hb3 x0 x1 x2
              obtain ⟨x0, x1, x2⟩ := HCK.out _ HB3.out
              go_wp2_with fail
              go_roundg (L.length - (k + 1))
              case measure => have := HG.out; omega
              case rel => exact ⟨k + 1, bi, by go_num, rfl, by omega, by first | rfl | omega, HBE1, HO3, HB3⟩
        · have hi1 : ¬ (k : Int) < (L.length : Int) := by omega
          have hkl : k = L.length := by omega
          subst hkl
          rcases HBE.out with ⟨rfl, hn⟩ | ⟨j, rfl, hj, hn⟩
          · have HFIN := Lib.hid (show (out = [] ∧ nxL now L = none) ∨ ∃ (j : Nat) (rest : List Int), out = (j : Int) :: rest ∧ nxL now L = some j from by
              rcases HH.out with h | h
              · exact .inl ⟨h, hn h⟩
              · exact .inr h)
            clear hn HBE
            go_wp2_with fail
            go_ret
            exact ⟨show OrdR now L _ _ _ from ⟨_, out, rfl, HO1.out, HFIN.out⟩, HB1.out⟩
          · have HH1 := Lib.hid (show OH now L (out ++ [(j : Int)]) from by
              rcases HH.out with h | ⟨i, rest, h, h2⟩
              · subst h; exact .inr ⟨j, [], rfl, hn rfl⟩
              · subst h; exact .inr ⟨i, rest ++ [(j : Int)], rfl, h2⟩)
            have hj0 : ¬ (j : Int) < 0 := by omega
            clear hn HBE
            go_wp2_with (at_builtin; refine wpList_appI rfl (.tmp 59) (.tmp 61) rfl w.heap.size _ out (j : Int) rfl rfl HO1.out ?c1 ?c2 ?_)
            case c1 => have := HLEN.out; omega
            case c2 => exact HB1.out.size
            intro v1 w1 hO1 hg1
            have HO9 := Lib.hid hO1
            have HB9 := Lib.hid (HB1.out.grown hg1 HB1.out.size (fun k hk => (World.ownsRow.lt HO1.out k hk).1))
            clear hO1 hg1
            go_wp2_with fail
            go_roundg (L.length + 1 - (out.length + 1))
            case measure => have h1 := HG0.out; have h2 := HLEN.out; omega
            case rel => exact ⟨_, _, rfl, HO9, HH1, HB9, by have := HLEN.out; simp; omega, Lib.hid (by simp)⟩
    · have hi0 : ¬ (out.length : Int) ≤ (L.length : Int) := by omega
      have HFIN := Lib.hid (show ∃ (j : Nat) (rest : List Int), out = (j : Int) :: rest ∧ nxL now L = some j from by
        rcases HH.out with h | h
        · subst h; simp at hle
        · exact h)
      go_wp2_with fail
      go_ret
      exact ⟨show OrdR now L _ _ _ from ⟨_, out, rfl, HO.out, .inr HFIN.out⟩, HB.out⟩
end Go.Proofs.Ytkkhljneeajkmaa
