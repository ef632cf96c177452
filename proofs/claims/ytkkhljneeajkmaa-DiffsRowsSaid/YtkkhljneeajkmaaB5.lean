/- Layer 36 (diffs): Sorted; the law's put, row, less. -/
import Derived.Test.YtkkhljneeajkmaaB4
namespace Go.Proofs.Ytkkhljneeajkmaa
open Go.RowKit
attribute [local irreducible] wpQuiet

/-- What Sorted answers. -/
def SoR (L : List En) (e : Ending) : Prop := ∃ b : Bool, e = .returned (.bool b) ∧ (b = true ↔ Up L)
set_option maxRecDepth 100000 in
set_option maxHeartbeats 4000000 in
theorem sorted_any (v : Value) (L : List En) (hn : L.length ≤ 1000000) (w : World) (h : EI w v L) :
    Calls Try.prog 40 #[v] w fun e w' => SoR L e ∧ Below w.heap.size w w' := by
  have H := Lib.hid h
  obtain ⟨a, c, rfl⟩ := h.form
  clear h
  go_enter Try.func40, Try.ntmps40
  go_wp2_with fail
  go_loopw [3] (fun i wr => ∃ j k : Nat, i = .int .i64 j ∧ Hid (j = k + 1) ∧ k ≤ L.length ∧ Hid (Below w.heap.size w wr) ∧ Hid (∀ i (_ : i < k) (h : i + 1 < L.length), cmpE (L[i]'(by omega)) L[i + 1] < 0)) (fun i _ => L.length + 1 - (intOf i).toNat)
  case atStart => exact ⟨1, 0, rfl, Lib.hid rfl, by omega, Lib.hid (Below.refl _ _), Lib.hid (fun i hi => absurd hi (by omega))⟩
  case round =>
    obtain ⟨j, k, rfl, HJ, hk, HB, HS⟩ := hrel
    by_cases hlt : k + 1 < L.length
    · have hi1 : (j : Int) < (L.length : Int) := by have := HJ.out; omega
      have hi2 : (k : Int) < (L.length : Int) := by omega
      have hsub : (j : Int) - 1 = (k : Int) := by have := HJ.out; omega
      have hwk : IntKind.i64.wrap (k : Int) = (k : Int) := IntWalk.i64_in _ (by omega)
      obtain ⟨b, off, hb1, x0, x1, x2, x3⟩ := (H.out.next HB.out).at_ k (by omega)
      obtain ⟨b2, off2, hb2, hyy⟩ := (H.out.next HB.out).at_ (k + 1) hlt
      have hyy2 : EC wr b2 (off2 + j * 4) L[k + 1] := by
        rw [show off2 + (k + 1) * 4 = off2 + j * 4 from by rw [HJ.out]] at hyy
        exact hyy
      clear hyy
      obtain ⟨y0, y1, y2, y3⟩ := hyy2
      subst hb1
      cases hb2
      have HY := Lib.hid (fun (e : cmpE (L[k]'(by omega)) L[k + 1] < 0) i (h1 : i < k + 1) (h2 : i + 1 < L.length) => (show cmpE (L[i]'(by omega)) L[i + 1] < 0 from by
        by_cases h4 : i < k
        · exact HS.out i h4 h2
        · have : i = k := by omega
          subst this; exact e))
      have HN := Lib.hid (fun (e : ¬ cmpE (L[k]'(by omega)) L[k + 1] < 0) => (show ¬ Up L from fun h => e (adj_up h k hlt)))
      have CC := Lib.hid (fun W => ecompare_any (L[k]'(by omega)) L[k + 1] W)
      generalize L[k] = p at *
      generalize L[k + 1] = q at *
      obtain ⟨pk, ⟨px, py, pz⟩⟩ := p
      obtain ⟨qk, ⟨qx, qy, qz⟩⟩ := q
      unfold En.cells at CC
      dsimp only at *
      generalize cmpE ⟨pk, ⟨px, py, pz⟩⟩ ⟨qk, ⟨qx, qy, qz⟩⟩ = cv at *
      have cC : ∀ q os, Calls Try.prog 36 #[.agg #[.string pk, .int .i64 px, .int .i64 py, .int .i64 pz], .agg #[.string qk, .int .i64 qx, .int .i64 qy, .int .i64 qz]] (Go.Sort.grow (Go.redrawn wr q) os) fun e w'' => e = .returned (.int .i64 cv) ∧ ∃ p : Go.Regrown, w'' = Go.Sort.grow (Go.redrawn wr p.d) p.os := fun q os => Calls.regrown_of (CC.out _)
      have HC := Lib.hid cC
      clear cC CC
      have m0 := Go.cell_regrown x0
      have m1 := Go.cell_regrown x1
      have m2 := Go.cell_regrown x2
      have m3 := Go.cell_regrown x3
      have k0 := Go.cell_regrown y0
      have k1 := Go.cell_regrown y1
      have k2 := Go.cell_regrown y2
      have k3 := Go.cell_regrown y3
      clear x0 x1 x2 x3 y0 y1 y2 y3
      by_cases hcv : cv < 0
      · have hcv2 : ¬ 0 ≤ cv := by omega
        have HR := Lib.hid (HY.out hcv)
        clear HY HN
        go_wp2_with fail
        refine Go.wp_region_quiet_below (by kernel_rfl) (by kernel_rfl) ?_
        repeat (quiet_step (first | with_reducible exact HC.out _ _))
        refine wpQuiet_nil ?_
        intro _ hw'
        obtain ⟨⟨dq, osq⟩, hw''⟩ := hw'
        subst hw''
        have HB9 := Lib.hid (bnext HB.out (Go.below_regrown wr dq osq))
        clear m0 m1 m2 m3 k0 k1 k2 k3
        generalize Go.Sort.grow (Go.redrawn wr dq) osq = W9 at *
        go_wp2_with fail
        go_roundw
        case rel => exact ⟨j + 1, k + 1, by go_num, Lib.hid (by have := HJ.out; omega), by omega, HB9, HR⟩
        case measure => simp [intOf]; have := HJ.out; omega
      · have hcv2 : 0 ≤ cv := by omega
        have HR := Lib.hid (HN.out (by omega))
        clear HY HN
        go_wp2_with fail
        refine Go.wp_region_quiet_below (by kernel_rfl) (by kernel_rfl) ?_
        repeat (quiet_step (first | with_reducible exact HC.out _ _))
        refine wpQuiet_nil ?_
        intro _ hw'
        obtain ⟨⟨dq, osq⟩, hw''⟩ := hw'
        subst hw''
        have HB9 := Lib.hid (bnext HB.out (Go.below_regrown wr dq osq))
        clear m0 m1 m2 m3 k0 k1 k2 k3
        generalize Go.Sort.grow (Go.redrawn wr dq) osq = W9 at *
        go_wp2_with fail
        go_ret
        exact ⟨show SoR L _ from ⟨false, rfl, Iff.intro (fun h => by cases h) (fun h => absurd h HR.out)⟩, HB9.out⟩
    · have hi1 : ¬ (j : Int) < (L.length : Int) := by have := HJ.out; omega
      have HR := Lib.hid (show Up L from up_adj L (fun i hi => HS.out i (by omega) hi))
      go_wp2_with fail
      go_ret
      exact ⟨show SoR L _ from ⟨true, rfl, Iff.intro (fun _ => HR.out) (fun _ => rfl)⟩, HB.out⟩
/-- What holds while put makes its row. -/
structure PI (w W : World) (e : En) (v : Value) (out : List En) : Prop where
  own : EO W (w.heap.size + 1) v out
  bel : Below w.heap.size w W
  bx : Bx W w.heap.size 72 e.cells
theorem PI.next {w W W' : World} {e : En} {v : Value} {out : List En} (h : PI w W e v out) (hb : Below W.heap.size W W') : PI w W' e v out := ⟨h.own.next hb, bnext h.bel hb, h.bx.next hb⟩
theorem PI.app {w W W' : World} {e : En} {v v' : Value} {out out' : List En} (h : PI w W e v out) (hO : EO W' (w.heap.size + 1) v' out') (hg : W.grownBy W' v.ownBlock) : PI w W' e v' out' :=
  ⟨hO, h.bel.grown hg h.bel.size (fun k hk => Nat.le_trans (Nat.le_succ _) (World.ownsRow.lt h.own k hk).1), h.bx.grown hg (fun e => by have := (World.ownsRow.lt h.own _ e).1; omega)⟩
theorem EO.base {w : World} {B C : Nat} {v : Value} {L : List En} (h : EO w B v L) (hC : C ≤ B) : EO w C v L := by
  refine ⟨h.1, ?_⟩
  rcases h.2 with h2 | ⟨g, cap, cur, a, b, c, d⟩
  · exact .inl h2
  · exact .inr ⟨g, cap, cur, a, Nat.le_trans hC b, c, d⟩
theorem putF_len (e : En) (l : List En) : ∀ s : List En × Bool, (l.foldl (putF e) s).1.length ≤ s.1.length + 2 * l.length := by
  induction l with
  | nil => intro s; simp
  | cons x l ih =>
    intro s
    rw [List.foldl_cons]
    have h1 := ih (putF e s x)
    have h2 : (putF e s x).1.length ≤ s.1.length + 2 := by
      unfold putF
      dsimp only
      repeat' split
      all_goals simp
    rw [List.length_cons]
    omega
/-- What put answers. -/
def EnR (L : List En) (B : Nat) (e : Ending) (w' : World) : Prop := ∃ v, e = .returned v ∧ EO w' B v L
set_option maxRecDepth 100000 in
set_option maxHeartbeats 16000000 in
theorem put_any (v : Value) (L : List En) (e : En) (hl : L.length ≤ 1000) (w : World) (h : EI w v L) :
    Calls Try.prog 77 #[v, .agg e.cells] w fun r w' => EnR (putS L e) w.heap.size r w' ∧ Below w.heap.size w w' := by
  have H := Lib.hid h
  obtain ⟨a, c, rfl⟩ := h.form
  clear h
  have HP0 := Lib.hid (show PI w (w.alloc (.cells e.cells 72)) e (.slice none 0 0) [] from ⟨EO.nil _ _, (Below.refl _ _).alloc (Nat.le_refl _) _, Bx.fresh _ _ _⟩)
  obtain ⟨ek, ⟨ex, ey, ez⟩⟩ := e
  have hg := run_enGuard
  unfold En.cells at *
  dsimp only at *
  go_enter Try.func77, Try.ntmps77
  go_wp2_with fail
  go_loopw [5, 6, 7] (fun r s i wr => ∃ (k : Nat) (vo : Value), i = .int .i64 k ∧ r = vo ∧ s = .bool ((L.take k).foldl (putF ⟨ek, ⟨ex, ey, ez⟩⟩) ([], false)).2 ∧ k ≤ L.length ∧ Hid (PI w wr ⟨ek, ⟨ex, ey, ez⟩⟩ vo ((L.take k).foldl (putF ⟨ek, ⟨ex, ey, ez⟩⟩) ([], false)).1)) (fun _ _ i _ => L.length - (intOf i).toNat)
  case atStart => exact ⟨0, _, rfl, rfl, rfl, Nat.zero_le _, HP0⟩
  case round =>
    obtain ⟨k, vo, rfl, rfl, rfl, hk, HS⟩ := hrel
    clear HP0
    have HLEN := Lib.hid (show ((L.take k).foldl (putF ⟨ek, ⟨ex, ey, ez⟩⟩) ([], false)).1.length ≤ 2000 from by
      have := putF_len ⟨ek, ⟨ex, ey, ez⟩⟩ (L.take k) ([], false)
      rw [List.length_take] at this
      simp at this
      omega)
    by_cases hlt : k < L.length
    · have hi1 : (k : Int) < (L.length : Int) := by omega
      obtain ⟨b, off, hb1, _⟩ := (H.out.next HS.out.bel).at_ k hlt
      subst hb1
      have HX := Lib.hid (fun W (hW : Below w.heap.size w W) => (show EC W b (off + k * 4) L[k] from by
        obtain ⟨b', off', hab, hx⟩ := (H.out.next hW).at_ k hlt
        cases hab
        exact hx))
      have HT := Lib.hid (show (L.take (k + 1)).foldl (putF ⟨ek, ⟨ex, ey, ez⟩⟩) ([], false) = putF ⟨ek, ⟨ex, ey, ez⟩⟩ ((L.take k).foldl (putF ⟨ek, ⟨ex, ey, ez⟩⟩) ([], false)) L[k] from by
        rw [List.take_succ_eq_append_getElem hlt, List.foldl_append]
        rfl)
      generalize (L.take k).foldl (putF ⟨ek, ⟨ex, ey, ez⟩⟩) ([], false) = st at *
      obtain ⟨out, inn0⟩ := st
      generalize L[k] = x at *
      obtain ⟨xk, ⟨xx, xy, xz⟩⟩ := x
      unfold EC at HX
      dsimp only at *
      have CC := Lib.hid (fun W => lcompare_any ⟨ek, ⟨ex, ey, ez⟩⟩ ⟨xk, ⟨xx, xy, xz⟩⟩ W)
      unfold En.cells at CC
      dsimp only at CC
      cases inn0 with
      | true =>
        obtain ⟨y0, y1, y2, y3⟩ : wr.cell? ⟨w.heap.size, 0, none⟩ = some (.string ek) ∧ wr.cell? ⟨w.heap.size, 1, none⟩ = some (.int .i64 ex) ∧ wr.cell? ⟨w.heap.size, 2, none⟩ = some (.int .i64 ey) ∧ wr.cell? ⟨w.heap.size, 3, none⟩ = some (.int .i64 ez) := ⟨HS.out.bx.read rfl, HS.out.bx.read rfl, HS.out.bx.read rfl, HS.out.bx.read rfl⟩
        obtain ⟨x0, x1, x2, x3⟩ := HX.out _ HS.out.bel
        have m0 := Go.cell_regrown x0
        have m1 := Go.cell_regrown x1
        have m2 := Go.cell_regrown x2
        have m3 := Go.cell_regrown x3
        have k0 := Go.cell_regrown y0
        have k1 := Go.cell_regrown y1
        have k2 := Go.cell_regrown y2
        have k3 := Go.cell_regrown y3
        clear x0 x1 x2 x3 y0 y1 y2 y3 CC
        go_wp2_with fail
        refine Go.wp_region_quiet_below (by kernel_rfl) (by kernel_rfl) ?_
        repeat (quiet_step (fail))
        refine wpQuiet_nil ?_
        intro _ hw'
        obtain ⟨⟨dq, osq⟩, hw''⟩ := hw'
        subst hw''
        have HS1 := Lib.hid (HS.out.next (Go.below_regrown wr dq osq))
        clear m0 m1 m2 m3 k0 k1 k2 k3
        generalize Go.Sort.grow (Go.redrawn wr dq) osq = W1 at *
        by_cases hxe : eqE ⟨xk, ⟨xx, xy, xz⟩⟩ ⟨ek, ⟨ex, ey, ez⟩⟩ = true
        · have HN := Lib.hid (show putF ⟨ek, ⟨ex, ey, ez⟩⟩ (out, true) ⟨xk, ⟨xx, xy, xz⟩⟩ = (out, true) from by simp [putF, hxe])
          have heq := run_neqEn ⟨xk, ⟨xx, xy, xz⟩⟩ ⟨ek, ⟨ex, ey, ez⟩⟩
          rw [hxe] at heq
          unfold En.cells at heq
          dsimp only at heq
          replace HN := Lib.hid (HT.out.trans HN.out)
          clear hxe
          obtain ⟨y0, y1, y2, y3⟩ : W1.cell? ⟨w.heap.size, 0, none⟩ = some (.string ek) ∧ W1.cell? ⟨w.heap.size, 1, none⟩ = some (.int .i64 ex) ∧ W1.cell? ⟨w.heap.size, 2, none⟩ = some (.int .i64 ey) ∧ W1.cell? ⟨w.heap.size, 3, none⟩ = some (.int .i64 ez) := ⟨HS1.out.bx.read rfl, HS1.out.bx.read rfl, HS1.out.bx.read rfl, HS1.out.bx.read rfl⟩
          obtain ⟨x0, x1, x2, x3⟩ := HX.out _ HS1.out.bel
          have m0 := Go.cell_regrown x0
          have m1 := Go.cell_regrown x1
          have m2 := Go.cell_regrown x2
          have m3 := Go.cell_regrown x3
          have k0 := Go.cell_regrown y0
          have k1 := Go.cell_regrown y1
          have k2 := Go.cell_regrown y2
          have k3 := Go.cell_regrown y3
          clear x0 x1 x2 x3 y0 y1 y2 y3
          go_wp2_with fail
          refine Go.wp_region_quiet_below (by kernel_rfl) (by kernel_rfl) ?_
          repeat (quiet_step (fail))
          refine wpQuiet_nil ?_
          intro _ hw'
          obtain ⟨⟨dq, osq⟩, hw''⟩ := hw'
          subst hw''
          have HS19 := Lib.hid (HS1.out.next (Go.below_regrown W1 dq osq))
          clear m0 m1 m2 m3 k0 k1 k2 k3
          generalize Go.Sort.grow (Go.redrawn W1 dq) osq = W9 at *
          clear heq hg
          go_wp2_with fail
          go_roundw
          case rel => exact ⟨k + 1, _, by go_num, rfl, by rw [HN.out], by omega, Lib.hid (by rw [HN.out]; exact HS19.out)⟩
          case measure => simp [intOf]; omega
        · rw [Bool.not_eq_true] at hxe
          have HN := Lib.hid (show putF ⟨ek, ⟨ex, ey, ez⟩⟩ (out, true) ⟨xk, ⟨xx, xy, xz⟩⟩ = (out ++ [⟨xk, ⟨xx, xy, xz⟩⟩], true) from by simp [putF, hxe])
          have heq := run_neqEn ⟨xk, ⟨xx, xy, xz⟩⟩ ⟨ek, ⟨ex, ey, ez⟩⟩
          rw [hxe] at heq
          unfold En.cells at heq
          dsimp only at heq
          replace HN := Lib.hid (HT.out.trans HN.out)
          clear hxe
          obtain ⟨y0, y1, y2, y3⟩ : W1.cell? ⟨w.heap.size, 0, none⟩ = some (.string ek) ∧ W1.cell? ⟨w.heap.size, 1, none⟩ = some (.int .i64 ex) ∧ W1.cell? ⟨w.heap.size, 2, none⟩ = some (.int .i64 ey) ∧ W1.cell? ⟨w.heap.size, 3, none⟩ = some (.int .i64 ez) := ⟨HS1.out.bx.read rfl, HS1.out.bx.read rfl, HS1.out.bx.read rfl, HS1.out.bx.read rfl⟩
          obtain ⟨x0, x1, x2, x3⟩ := HX.out _ HS1.out.bel
          have m0 := Go.cell_regrown x0
          have m1 := Go.cell_regrown x1
          have m2 := Go.cell_regrown x2
          have m3 := Go.cell_regrown x3
          have k0 := Go.cell_regrown y0
          have k1 := Go.cell_regrown y1
          have k2 := Go.cell_regrown y2
          have k3 := Go.cell_regrown y3
          clear x0 x1 x2 x3 y0 y1 y2 y3
          go_wp2_with fail
          refine Go.wp_region_quiet_below (by kernel_rfl) (by kernel_rfl) ?_
          repeat (quiet_step (fail))
          refine wpQuiet_nil ?_
          intro _ hw'
          obtain ⟨⟨dq, osq⟩, hw''⟩ := hw'
          subst hw''
          have HS19 := Lib.hid (HS1.out.next (Go.below_regrown W1 dq osq))
          clear m0 m1 m2 m3 k0 k1 k2 k3
          generalize Go.Sort.grow (Go.redrawn W1 dq) osq = W9 at *
          clear heq hg
          obtain ⟨x0, x1, x2, x3⟩ := HX.out _ HS19.out.bel
          go_wp2_with (at_builtin; refine wpList_appE rfl (.tmp 35) (.tmp 40) rfl (w.heap.size + 1) _ (out) ⟨xk, ⟨xx, xy, xz⟩⟩ rfl rfl HS19.out.own ?c1 ?c2 ?_)
          case c1 => have := HLEN.out; simp <;> omega
          case c2 => have := Bx.inside HS19.out.bx; omega
          intro v5 w5 hO5 hg5
          have HS15 := Lib.hid (HS19.out.app hO5 hg5)
          clear hO5 hg5 x0 x1 x2 x3
          go_wp2_with fail
          go_roundw
          case rel => exact ⟨k + 1, _, by go_num, rfl, by rw [HN.out], by omega, Lib.hid (by rw [HN.out]; first | exact HS15.out | simpa using HS15.out)⟩
          case measure => simp [intOf]; omega
      | false =>
        have HC0 := Lib.hid (rfl : cmpE ⟨ek, ⟨ex, ey, ez⟩⟩ ⟨xk, ⟨xx, xy, xz⟩⟩ = cmpE ⟨ek, ⟨ex, ey, ez⟩⟩ ⟨xk, ⟨xx, xy, xz⟩⟩)
        obtain ⟨cv, hcv⟩ : ∃ cv, cv = cmpE ⟨ek, ⟨ex, ey, ez⟩⟩ ⟨xk, ⟨xx, xy, xz⟩⟩ := ⟨_, rfl⟩
        rw [← hcv] at CC
        have HCV := Lib.hid hcv
        clear hcv HC0
        have cC : ∀ q os, Calls Try.prog 37 #[.agg #[.string ek, .int .i64 ex, .int .i64 ey, .int .i64 ez], .agg #[.string xk, .int .i64 xx, .int .i64 xy, .int .i64 xz]] (Go.Sort.grow (Go.redrawn wr q) os) fun e w'' => e = .returned (.int .i64 cv) ∧ ∃ p : Go.Regrown, w'' = Go.Sort.grow (Go.redrawn wr p.d) p.os := fun q os => Calls.regrown_of (CC.out _)
        have HC := Lib.hid cC
        clear cC CC
        obtain ⟨y0, y1, y2, y3⟩ : wr.cell? ⟨w.heap.size, 0, none⟩ = some (.string ek) ∧ wr.cell? ⟨w.heap.size, 1, none⟩ = some (.int .i64 ex) ∧ wr.cell? ⟨w.heap.size, 2, none⟩ = some (.int .i64 ey) ∧ wr.cell? ⟨w.heap.size, 3, none⟩ = some (.int .i64 ez) := ⟨HS.out.bx.read rfl, HS.out.bx.read rfl, HS.out.bx.read rfl, HS.out.bx.read rfl⟩
        obtain ⟨x0, x1, x2, x3⟩ := HX.out _ HS.out.bel
        have m0 := Go.cell_regrown x0
        have m1 := Go.cell_regrown x1
        have m2 := Go.cell_regrown x2
        have m3 := Go.cell_regrown x3
        have k0 := Go.cell_regrown y0
        have k1 := Go.cell_regrown y1
        have k2 := Go.cell_regrown y2
        have k3 := Go.cell_regrown y3
        clear x0 x1 x2 x3 y0 y1 y2 y3
        by_cases hle : cv ≤ 0
        · go_wp2_with fail
          refine Go.wp_region_quiet_below (by kernel_rfl) (by kernel_rfl) ?_
          repeat (quiet_step (first | with_reducible exact HC.out _ _))
          refine wpQuiet_nil ?_
          intro _ hw'
          obtain ⟨⟨dq, osq⟩, hw''⟩ := hw'
          subst hw''
          have HS1 := Lib.hid (HS.out.next (Go.below_regrown wr dq osq))
          clear m0 m1 m2 m3 k0 k1 k2 k3
          generalize Go.Sort.grow (Go.redrawn wr dq) osq = W1 at *
          obtain ⟨y0, y1, y2, y3⟩ : W1.cell? ⟨w.heap.size, 0, none⟩ = some (.string ek) ∧ W1.cell? ⟨w.heap.size, 1, none⟩ = some (.int .i64 ex) ∧ W1.cell? ⟨w.heap.size, 2, none⟩ = some (.int .i64 ey) ∧ W1.cell? ⟨w.heap.size, 3, none⟩ = some (.int .i64 ez) := ⟨HS1.out.bx.read rfl, HS1.out.bx.read rfl, HS1.out.bx.read rfl, HS1.out.bx.read rfl⟩
          go_wp2_with (at_builtin; refine wpList_appE rfl (.tmp 25) (.tmp 27) rfl (w.heap.size + 1) _ out ⟨ek, ⟨ex, ey, ez⟩⟩ rfl rfl HS1.out.own ?c1 ?c2 ?_)
          case c1 => have := HLEN.out; omega
          case c2 => have := Bx.inside HS1.out.bx; omega
          intro v2 w2 hO2 hg2
          have HS2 := Lib.hid (HS1.out.app hO2 hg2)
          clear hO2 hg2 y0 y1 y2 y3
          obtain ⟨a2, c2, hv2⟩ := HS2.out.own.form
          rw [show (out ++ [(⟨ek, ⟨ex, ey, ez⟩⟩ : En)]).length = out.length + 1 from by simp] at hv2
          subst hv2
          by_cases hxe : eqE ⟨xk, ⟨xx, xy, xz⟩⟩ ⟨ek, ⟨ex, ey, ez⟩⟩ = true
          · have HN := Lib.hid (show putF ⟨ek, ⟨ex, ey, ez⟩⟩ (out, false) ⟨xk, ⟨xx, xy, xz⟩⟩ = ((out ++ [⟨ek, ⟨ex, ey, ez⟩⟩]), true) from by simp [putF, show cmpE ⟨ek, ⟨ex, ey, ez⟩⟩ ⟨xk, ⟨xx, xy, xz⟩⟩ ≤ 0 from by rw [← HCV.out]; omega, hxe])
            have heq := run_neqEn ⟨xk, ⟨xx, xy, xz⟩⟩ ⟨ek, ⟨ex, ey, ez⟩⟩
            rw [hxe] at heq
            unfold En.cells at heq
            dsimp only at heq
            replace HN := Lib.hid (HT.out.trans HN.out)
            clear hxe
            obtain ⟨y0, y1, y2, y3⟩ : w2.cell? ⟨w.heap.size, 0, none⟩ = some (.string ek) ∧ w2.cell? ⟨w.heap.size, 1, none⟩ = some (.int .i64 ex) ∧ w2.cell? ⟨w.heap.size, 2, none⟩ = some (.int .i64 ey) ∧ w2.cell? ⟨w.heap.size, 3, none⟩ = some (.int .i64 ez) := ⟨HS2.out.bx.read rfl, HS2.out.bx.read rfl, HS2.out.bx.read rfl, HS2.out.bx.read rfl⟩
            obtain ⟨x0, x1, x2, x3⟩ := HX.out _ HS2.out.bel
            have m0 := Go.cell_regrown x0
            have m1 := Go.cell_regrown x1
            have m2 := Go.cell_regrown x2
            have m3 := Go.cell_regrown x3
            have k0 := Go.cell_regrown y0
            have k1 := Go.cell_regrown y1
            have k2 := Go.cell_regrown y2
            have k3 := Go.cell_regrown y3
            clear x0 x1 x2 x3 y0 y1 y2 y3
            go_wp2_with fail
            refine Go.wp_region_quiet_below (by kernel_rfl) (by kernel_rfl) ?_
            repeat (quiet_step (fail))
            refine wpQuiet_nil ?_
            intro _ hw'
            obtain ⟨⟨dq, osq⟩, hw''⟩ := hw'
            subst hw''
            have HS29 := Lib.hid (HS2.out.next (Go.below_regrown w2 dq osq))
            clear m0 m1 m2 m3 k0 k1 k2 k3
            generalize Go.Sort.grow (Go.redrawn w2 dq) osq = W9 at *
            clear heq hg
            go_wp2_with fail
            go_roundw
            case rel => exact ⟨k + 1, _, by go_num, rfl, by rw [HN.out], by omega, Lib.hid (by rw [HN.out]; exact HS29.out)⟩
            case measure => simp [intOf]; omega
          · rw [Bool.not_eq_true] at hxe
            have HN := Lib.hid (show putF ⟨ek, ⟨ex, ey, ez⟩⟩ (out, false) ⟨xk, ⟨xx, xy, xz⟩⟩ = ((out ++ [⟨ek, ⟨ex, ey, ez⟩⟩]) ++ [⟨xk, ⟨xx, xy, xz⟩⟩], true) from by simp [putF, show cmpE ⟨ek, ⟨ex, ey, ez⟩⟩ ⟨xk, ⟨xx, xy, xz⟩⟩ ≤ 0 from by rw [← HCV.out]; omega, hxe])
            have heq := run_neqEn ⟨xk, ⟨xx, xy, xz⟩⟩ ⟨ek, ⟨ex, ey, ez⟩⟩
            rw [hxe] at heq
            unfold En.cells at heq
            dsimp only at heq
            replace HN := Lib.hid (HT.out.trans HN.out)
            clear hxe
            obtain ⟨y0, y1, y2, y3⟩ : w2.cell? ⟨w.heap.size, 0, none⟩ = some (.string ek) ∧ w2.cell? ⟨w.heap.size, 1, none⟩ = some (.int .i64 ex) ∧ w2.cell? ⟨w.heap.size, 2, none⟩ = some (.int .i64 ey) ∧ w2.cell? ⟨w.heap.size, 3, none⟩ = some (.int .i64 ez) := ⟨HS2.out.bx.read rfl, HS2.out.bx.read rfl, HS2.out.bx.read rfl, HS2.out.bx.read rfl⟩
            obtain ⟨x0, x1, x2, x3⟩ := HX.out _ HS2.out.bel
            have m0 := Go.cell_regrown x0
            have m1 := Go.cell_regrown x1
            have m2 := Go.cell_regrown x2
            have m3 := Go.cell_regrown x3
            have k0 := Go.cell_regrown y0
            have k1 := Go.cell_regrown y1
            have k2 := Go.cell_regrown y2
            have k3 := Go.cell_regrown y3
            clear x0 x1 x2 x3 y0 y1 y2 y3
            go_wp2_with fail
            refine Go.wp_region_quiet_below (by kernel_rfl) (by kernel_rfl) ?_
            repeat (quiet_step (fail))
            refine wpQuiet_nil ?_
            intro _ hw'
            obtain ⟨⟨dq, osq⟩, hw''⟩ := hw'
            subst hw''
            have HS29 := Lib.hid (HS2.out.next (Go.below_regrown w2 dq osq))
            clear m0 m1 m2 m3 k0 k1 k2 k3
            generalize Go.Sort.grow (Go.redrawn w2 dq) osq = W9 at *
            clear heq hg
            obtain ⟨x0, x1, x2, x3⟩ := HX.out _ HS29.out.bel
            go_wp2_with (at_builtin; refine wpList_appE rfl (.tmp 35) (.tmp 40) rfl (w.heap.size + 1) (.slice a2 (out.length + 1) c2) ((out ++ [⟨ek, ⟨ex, ey, ez⟩⟩])) ⟨xk, ⟨xx, xy, xz⟩⟩ rfl rfl HS29.out.own ?c1 ?c2 ?_)
            case c1 => have := HLEN.out; simp <;> omega
            case c2 => have := Bx.inside HS29.out.bx; omega
            intro v5 w5 hO5 hg5
            have HS25 := Lib.hid (HS29.out.app hO5 hg5)
            clear hO5 hg5 x0 x1 x2 x3
            go_wp2_with fail
            go_roundw
            case rel => exact ⟨k + 1, _, by go_num, rfl, by rw [HN.out], by omega, Lib.hid (by rw [HN.out]; first | exact HS25.out | simpa using HS25.out)⟩
            case measure => simp [intOf]; omega
        · go_wp2_with fail
          refine Go.wp_region_quiet_below (by kernel_rfl) (by kernel_rfl) ?_
          repeat (quiet_step (first | with_reducible exact HC.out _ _))
          refine wpQuiet_nil ?_
          intro _ hw'
          obtain ⟨⟨dq, osq⟩, hw''⟩ := hw'
          subst hw''
          have HS1 := Lib.hid (HS.out.next (Go.below_regrown wr dq osq))
          clear m0 m1 m2 m3 k0 k1 k2 k3
          generalize Go.Sort.grow (Go.redrawn wr dq) osq = W1 at *
          by_cases hxe : eqE ⟨xk, ⟨xx, xy, xz⟩⟩ ⟨ek, ⟨ex, ey, ez⟩⟩ = true
          · have HN := Lib.hid (show putF ⟨ek, ⟨ex, ey, ez⟩⟩ (out, false) ⟨xk, ⟨xx, xy, xz⟩⟩ = (out, false) from by simp [putF, show ¬ cmpE ⟨ek, ⟨ex, ey, ez⟩⟩ ⟨xk, ⟨xx, xy, xz⟩⟩ ≤ 0 from by rw [← HCV.out]; omega, hxe])
            have heq := run_neqEn ⟨xk, ⟨xx, xy, xz⟩⟩ ⟨ek, ⟨ex, ey, ez⟩⟩
            rw [hxe] at heq
            unfold En.cells at heq
            dsimp only at heq
            replace HN := Lib.hid (HT.out.trans HN.out)
            clear hxe
            obtain ⟨y0, y1, y2, y3⟩ : W1.cell? ⟨w.heap.size, 0, none⟩ = some (.string ek) ∧ W1.cell? ⟨w.heap.size, 1, none⟩ = some (.int .i64 ex) ∧ W1.cell? ⟨w.heap.size, 2, none⟩ = some (.int .i64 ey) ∧ W1.cell? ⟨w.heap.size, 3, none⟩ = some (.int .i64 ez) := ⟨HS1.out.bx.read rfl, HS1.out.bx.read rfl, HS1.out.bx.read rfl, HS1.out.bx.read rfl⟩
            obtain ⟨x0, x1, x2, x3⟩ := HX.out _ HS1.out.bel
            have m0 := Go.cell_regrown x0
            have m1 := Go.cell_regrown x1
            have m2 := Go.cell_regrown x2
            have m3 := Go.cell_regrown x3
            have k0 := Go.cell_regrown y0
            have k1 := Go.cell_regrown y1
            have k2 := Go.cell_regrown y2
            have k3 := Go.cell_regrown y3
            clear x0 x1 x2 x3 y0 y1 y2 y3
            go_wp2_with fail
            refine Go.wp_region_quiet_below (by kernel_rfl) (by kernel_rfl) ?_
            repeat (quiet_step (fail))
            refine wpQuiet_nil ?_
            intro _ hw'
            obtain ⟨⟨dq, osq⟩, hw''⟩ := hw'
            subst hw''
            have HS19 := Lib.hid (HS1.out.next (Go.below_regrown W1 dq osq))
            clear m0 m1 m2 m3 k0 k1 k2 k3
            generalize Go.Sort.grow (Go.redrawn W1 dq) osq = W9 at *
            clear heq hg
            go_wp2_with fail
            go_roundw
            case rel => exact ⟨k + 1, _, by go_num, rfl, by rw [HN.out], by omega, Lib.hid (by rw [HN.out]; exact HS19.out)⟩
            case measure => simp [intOf]; omega
          · rw [Bool.not_eq_true] at hxe
            have HN := Lib.hid (show putF ⟨ek, ⟨ex, ey, ez⟩⟩ (out, false) ⟨xk, ⟨xx, xy, xz⟩⟩ = (out ++ [⟨xk, ⟨xx, xy, xz⟩⟩], false) from by simp [putF, show ¬ cmpE ⟨ek, ⟨ex, ey, ez⟩⟩ ⟨xk, ⟨xx, xy, xz⟩⟩ ≤ 0 from by rw [← HCV.out]; omega, hxe])
            have heq := run_neqEn ⟨xk, ⟨xx, xy, xz⟩⟩ ⟨ek, ⟨ex, ey, ez⟩⟩
            rw [hxe] at heq
            unfold En.cells at heq
            dsimp only at heq
            replace HN := Lib.hid (HT.out.trans HN.out)
            clear hxe
            obtain ⟨y0, y1, y2, y3⟩ : W1.cell? ⟨w.heap.size, 0, none⟩ = some (.string ek) ∧ W1.cell? ⟨w.heap.size, 1, none⟩ = some (.int .i64 ex) ∧ W1.cell? ⟨w.heap.size, 2, none⟩ = some (.int .i64 ey) ∧ W1.cell? ⟨w.heap.size, 3, none⟩ = some (.int .i64 ez) := ⟨HS1.out.bx.read rfl, HS1.out.bx.read rfl, HS1.out.bx.read rfl, HS1.out.bx.read rfl⟩
            obtain ⟨x0, x1, x2, x3⟩ := HX.out _ HS1.out.bel
            have m0 := Go.cell_regrown x0
            have m1 := Go.cell_regrown x1
            have m2 := Go.cell_regrown x2
            have m3 := Go.cell_regrown x3
            have k0 := Go.cell_regrown y0
            have k1 := Go.cell_regrown y1
            have k2 := Go.cell_regrown y2
            have k3 := Go.cell_regrown y3
            clear x0 x1 x2 x3 y0 y1 y2 y3
            go_wp2_with fail
            refine Go.wp_region_quiet_below (by kernel_rfl) (by kernel_rfl) ?_
            repeat (quiet_step (fail))
            refine wpQuiet_nil ?_
            intro _ hw'
            obtain ⟨⟨dq, osq⟩, hw''⟩ := hw'
            subst hw''
            have HS19 := Lib.hid (HS1.out.next (Go.below_regrown W1 dq osq))
            clear m0 m1 m2 m3 k0 k1 k2 k3
            generalize Go.Sort.grow (Go.redrawn W1 dq) osq = W9 at *
            clear heq hg
            obtain ⟨x0, x1, x2, x3⟩ := HX.out _ HS19.out.bel
            go_wp2_with (at_builtin; refine wpList_appE rfl (.tmp 35) (.tmp 40) rfl (w.heap.size + 1) _ (out) ⟨xk, ⟨xx, xy, xz⟩⟩ rfl rfl HS19.out.own ?c1 ?c2 ?_)
            case c1 => have := HLEN.out; simp <;> omega
            case c2 => have := Bx.inside HS19.out.bx; omega
            intro v5 w5 hO5 hg5
            have HS15 := Lib.hid (HS19.out.app hO5 hg5)
            clear hO5 hg5 x0 x1 x2 x3
            go_wp2_with fail
            go_roundw
            case rel => exact ⟨k + 1, _, by go_num, rfl, by rw [HN.out], by omega, Lib.hid (by rw [HN.out]; first | exact HS15.out | simpa using HS15.out)⟩
            case measure => simp [intOf]; omega
    · have hi1 : ¬ (k : Int) < (L.length : Int) := by omega
      have HF := Lib.hid (show L.take k = L from List.take_of_length_le (by omega))
      have hS9 := HS.out
      have hL9 := HLEN.out
      rw [HF.out] at hS9 hL9
      rw [HF.out]
      clear HS HLEN
      have HS := Lib.hid hS9
      have HLEN := Lib.hid hL9
      clear hS9 hL9
      have HFIN := Lib.hid (show putS L ⟨ek, ⟨ex, ey, ez⟩⟩ = if (L.foldl (putF ⟨ek, ⟨ex, ey, ez⟩⟩) ([], false)).2 = true then (L.foldl (putF ⟨ek, ⟨ex, ey, ez⟩⟩) ([], false)).1 else (L.foldl (putF ⟨ek, ⟨ex, ey, ez⟩⟩) ([], false)).1 ++ [⟨ek, ⟨ex, ey, ez⟩⟩] from rfl)
      generalize L.foldl (putF ⟨ek, ⟨ex, ey, ez⟩⟩) ([], false) = st at *
      obtain ⟨out, inn0⟩ := st
      dsimp only at *
      cases inn0 with
      | true =>
        go_wp2_with fail
        go_ret
        exact ⟨show EnR _ _ _ _ from ⟨_, rfl, by have h9 := HFIN.out; simp at h9; rw [h9]; exact HS.out.own.base (Nat.le_succ _)⟩, HS.out.bel⟩
      | false =>
        obtain ⟨y0, y1, y2, y3⟩ : wr.cell? ⟨w.heap.size, 0, none⟩ = some (.string ek) ∧ wr.cell? ⟨w.heap.size, 1, none⟩ = some (.int .i64 ex) ∧ wr.cell? ⟨w.heap.size, 2, none⟩ = some (.int .i64 ey) ∧ wr.cell? ⟨w.heap.size, 3, none⟩ = some (.int .i64 ez) := ⟨HS.out.bx.read rfl, HS.out.bx.read rfl, HS.out.bx.read rfl, HS.out.bx.read rfl⟩
        go_wp2_with (at_builtin; refine wpList_appE rfl (.tmp 44) (.tmp 46) rfl (w.heap.size + 1) _ out ⟨ek, ⟨ex, ey, ez⟩⟩ rfl rfl HS.out.own ?c1 ?c2 ?_)
        case c1 => have := HLEN.out; omega
        case c2 => have := Bx.inside HS.out.bx; omega
        intro v2 w2 hO2 hg2
        have HS2 := Lib.hid (HS.out.app hO2 hg2)
        clear hO2 hg2 y0 y1 y2 y3
        go_wp2_with fail
        go_ret
        exact ⟨show EnR _ _ _ _ from ⟨_, rfl, by have h9 := HFIN.out; simp at h9; rw [h9]; exact HS2.out.own.base (Nat.le_succ _)⟩, HS2.out.bel⟩
end Go.Proofs.Ytkkhljneeajkmaa
