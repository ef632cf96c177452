/- Layer 36 (diffs): the law's row, less. -/
import Derived.Test.YtkkhljneeajkmaaB5
namespace Go.Proofs.Ytkkhljneeajkmaa
open Go.RowKit
attribute [local irreducible] wpQuiet

theorem EO.grown {w0 W W' : World} {B : Nat} {v : Value} {l : List En} (h : Below w0.heap.size w0 W) (hO : EO W B v l) (hB : w0.heap.size ≤ B) (hg : W.grownBy W' v.ownBlock) : Below w0.heap.size w0 W' :=
  h.grown hg h.size (fun k hk => Nat.le_trans hB (World.ownsRow.lt hO k hk).1)
set_option maxRecDepth 100000 in
set_option maxHeartbeats 4000000 in
theorem row_any (v : Value) (L : List En) (hl : L.length ≤ 100) (w : World) (h : EI w v L) :
    Calls Try.prog 38 #[v] w fun r w' => EnR (rowS L) w.heap.size r w' ∧ Below w.heap.size w w' := by
  have H := Lib.hid h
  obtain ⟨a, c, rfl⟩ := h.form
  clear h
  go_enter Try.func38, Try.ntmps38
  go_wp2_with fail
  go_loopw [3, 4] (fun r i wr => ∃ (k : Nat) (vo : Value), i = .int .i64 k ∧ r = vo ∧ k ≤ L.length ∧ Hid (EO wr w.heap.size vo (rowS (L.take k))) ∧ Hid (Below w.heap.size w wr)) (fun _ i _ => L.length - (intOf i).toNat)
  case atStart => exact ⟨0, _, rfl, rfl, Nat.zero_le _, Lib.hid (EO.nil _ _), Lib.hid (Below.refl _ _)⟩
  case round =>
    obtain ⟨k, vo, rfl, rfl, hk, HO, HB⟩ := hrel
    by_cases hlt : k < L.length
    · have hi1 : (k : Int) < (L.length : Int) := by omega
      obtain ⟨b, off, hb1, x0, x1, x2, x3⟩ := (H.out.next HB.out).at_ k hlt
      subst hb1
      have HT := Lib.hid (show rowS (L.take (k + 1)) = putS (rowS (L.take k)) L[k] from by
        unfold rowS
        rw [List.take_succ_eq_append_getElem hlt, List.foldl_append]
        rfl)
      have HLN := Lib.hid (show (rowS (L.take k)).length ≤ 1000 from by have := (row_up2 (L.take k)).1.2; rw [List.length_take] at this; omega)
      have CP := Lib.hid (fun W v hW => put_any v (rowS (L.take k)) L[k] HLN.out W hW)
      generalize L[k] = x at *
      obtain ⟨xk, ⟨xx, xy, xz⟩⟩ := x
      unfold En.cells at CP
      dsimp only at *
      go_wp2_with fail
      refine (CP.out _ _ HO.out.in_).mono ?_; rintro e w5 ⟨⟨v5, rfl, hO5⟩, hb5⟩
      have HO5 := Lib.hid (show EO w5 w.heap.size v5 (rowS (L.take (k + 1))) from by rw [HT.out]; exact hO5.base HB.out.size)
      have HB5 := Lib.hid (bnext HB.out hb5)
      clear hO5 hb5 x0 x1 x2 x3
      go_wp2_with fail
      go_roundw
      case rel => exact ⟨k + 1, _, by go_num, rfl, by omega, HO5, HB5⟩
      case measure => simp [intOf]; omega
    · have hi1 : ¬ (k : Int) < (L.length : Int) := by omega
      have HF := Lib.hid (show L.take k = L from List.take_of_length_le (by omega))
      go_wp2_with fail
      go_ret
      exact ⟨show EnR _ _ _ _ from ⟨_, rfl, by have h9 := HO.out; rw [HF.out] at h9; exact h9⟩, HB.out⟩
theorem less_snoc (A : List En) (x : En) (B : List En) (t : Bool) : lessS (A ++ [x]) B t = lessS A B t ++ (if (memE B x == t) = true then [x] else []) := by
  unfold lessS
  rw [List.filter_append]
  congr 1
  rw [List.filter_cons]
  rfl
theorem less_len (A B : List En) (t : Bool) : (lessS A B t).length ≤ A.length := by
  unfold lessS
  exact List.length_filter_le _ _
set_option maxRecDepth 100000 in
set_option maxHeartbeats 4000000 in
theorem less_any (v1 v2 : Value) (L M : List En) (t : Bool) (hl : L.length ≤ 1000) (hm : M.length ≤ 1000) (w : World) (h1 : EI w v1 L) (h2 : EI w v2 M) :
    Calls Try.prog 42 #[v1, v2, .bool t] w fun r w' => EnR (lessS L M t) w.heap.size r w' ∧ Below w.heap.size w w' := by
  have H1 := Lib.hid h1
  have H2 := Lib.hid h2
  obtain ⟨a, c, rfl⟩ := h1.form
  clear h1 h2
  go_enter Try.func42, Try.ntmps42
  go_wp2_with fail
  go_loopw [7, 8] (fun r i wr => ∃ (k : Nat) (vo : Value), i = .int .i64 k ∧ r = vo ∧ k ≤ L.length ∧ Hid (EO wr w.heap.size vo (lessS (L.take k) M t)) ∧ Hid (Below w.heap.size w wr)) (fun _ i _ => L.length - (intOf i).toNat)
  case atStart => exact ⟨0, _, rfl, rfl, Nat.zero_le _, Lib.hid (EO.nil _ _), Lib.hid (Below.refl _ _)⟩
  case round =>
    obtain ⟨k, vo, rfl, rfl, hk, HO, HB⟩ := hrel
    by_cases hlt : k < L.length
    · have hi1 : (k : Int) < (L.length : Int) := by omega
      have HX := Lib.hid (fun W (hW : Below w.heap.size w W) => (H1.out.next hW).at_ k hlt)
      obtain ⟨b, off, hb1, x0, x1, x2, x3⟩ := HX.out _ HB.out
      subst hb1
      have HT := Lib.hid (show lessS (L.take (k + 1)) M t = lessS (L.take k) M t ++ (if (memE M L[k] == t) = true then [L[k]] else []) from by
        rw [List.take_succ_eq_append_getElem hlt, less_snoc])
      have HLN := Lib.hid (show (lessS (L.take k) M t).length ≤ 1000 from by have := less_len (L.take k) M t; rw [List.length_take] at this; omega)
      have CC := Lib.hid (fun W hW => contains_any v2 M L[k] (by omega) W hW)
      generalize L[k] = x at *
      obtain ⟨xk, ⟨xx, xy, xz⟩⟩ := x
      unfold En.cells at CC
      unfold EC at HX
      dsimp only at *
      go_wp2_with fail
      refine (CC.out _ (H2.out.next HB.out)).mono ?_; rintro e w5 ⟨rfl, hb5⟩
      have HB5 := Lib.hid (bnext HB.out hb5)
      have HO5 := Lib.hid (HO.out.next hb5)
      clear hb5 x0 x1 x2 x3
      cases hc : (memE M ⟨xk, ⟨xx, xy, xz⟩⟩ == t) with
      | true =>
        have HN := Lib.hid (show lessS (L.take (k + 1)) M t = lessS (L.take k) M t ++ [⟨xk, ⟨xx, xy, xz⟩⟩] from by rw [HT.out, if_pos hc])
        obtain ⟨b', off', hab, x0, x1, x2, x3⟩ := HX.out _ HB5.out
        cases hab
        generalize memE M ⟨xk, ⟨xx, xy, xz⟩⟩ = mm at *
        go_wp2_with (at_builtin; refine wpList_appE rfl (.tmp 23) (.tmp 28) rfl w.heap.size _ (lessS (L.take k) M t) ⟨xk, ⟨xx, xy, xz⟩⟩ rfl rfl HO5.out ?c1 ?c2 ?_)
        case c1 => have := HLN.out; omega
        case c2 => exact HB5.out.size
        intro v6 w6 hO6 hg6
        have HO6 := Lib.hid (show EO w6 w.heap.size v6 (lessS (L.take (k + 1)) M t) from by rw [HN.out]; exact hO6)
        have HB6 := Lib.hid (EO.grown HB5.out HO5.out (Nat.le_refl _) hg6)
        clear hO6 hg6 x0 x1 x2 x3 hc
        go_wp2_with fail
        go_roundw
        case rel => exact ⟨k + 1, _, by go_num, rfl, by omega, HO6, HB6⟩
        case measure => simp [intOf]; omega
      | false =>
        have HO6 := Lib.hid (show EO w5 w.heap.size u7 (lessS (L.take (k + 1)) M t) from by rw [HT.out, if_neg (by rw [hc]; simp), List.append_nil]; exact HO5.out)
        generalize memE M ⟨xk, ⟨xx, xy, xz⟩⟩ = mm at *
        go_wp2_with fail
        go_roundw
        case rel => exact ⟨k + 1, _, by go_num, rfl, by omega, HO6, HB5⟩
        case measure => simp [intOf]; omega
    · have hi1 : ¬ (k : Int) < (L.length : Int) := by omega
      have HF := Lib.hid (show L.take k = L from List.take_of_length_le (by omega))
      go_wp2_with fail
      go_ret
      exact ⟨show EnR _ _ _ _ from ⟨_, rfl, by have h9 := HO.out; rw [HF.out] at h9; exact h9⟩, HB.out⟩
end Go.Proofs.Ytkkhljneeajkmaa
