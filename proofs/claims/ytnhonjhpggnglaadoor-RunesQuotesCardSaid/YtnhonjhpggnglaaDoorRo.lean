/- Layer 1 (runes): the text that quotes are of, by definition, whatever stands there. -/
import Derived.Test.YtnhonjhpggnglaaDoorRn
import Derived.Deep.RegionWith
namespace Go.Proofs.YtnhonjhpggnglaaDoor
open Go.RowKit

def unS (q : ByteArray) : ByteArray := match unF q q.size 1 [] with | some o => mkN o | none => ⟨#[]⟩
def unOk (q : ByteArray) : Bool := match unF q q.size 1 [] with | some o => (quoteB (mkN o)).toList == q.toList | none => false
theorem un_none (q : ByteArray) (h : unF q q.size 1 [] = none) : unS q = ⟨#[]⟩ ∧ unOk q = false := by unfold unS unOk; rw [h]; exact ⟨rfl, rfl⟩
theorem un_some (q : ByteArray) (o : List Nat) (h : unF q q.size 1 [] = some o) : unS q = mkN o ∧ unOk q = ((quoteB (mkN o)).toList == q.toList) := by unfold unS unOk; rw [h]; exact ⟨rfl, rfl⟩
theorem ret_sb {a b : ByteArray} {x y : Bool} (h : a = b) (h2 : x = y) : Ending.returned (.tuple #[.string a, .bool x]) = .returned (.tuple #[.string b, .bool y]) := by rw [h, h2]

set_option maxRecDepth 100000 in
set_option maxHeartbeats 4000000 in
theorem refun_any (q : ByteArray) (hs : q.size ≤ 2000) (w : World) (hT : Tb w) : Calls Tryd.prog 15 #[.string q] w fun e w' => e = .returned (.tuple #[.string (unS q), .bool (unOk q)]) ∧ Below w.heap.size w w' := by
  go_enter Tryd.func15, Tryd.ntmps15
  go_wp2_with fail
  go_loopw [4, 5] (fun o a wr => ∃ (pos f : Nat) (l : List Nat), o = .string (mkN l) ∧ a = .int .i64 pos ∧ Below w.heap.size w wr ∧ l.length ≤ pos ∧ pos ≤ q.size + 1 ∧ q.size ≤ pos + f ∧ Hid (unF q f pos l = unF q q.size 1 [])) (fun _ a _ => q.size + 5 - (intOf a).toNat)
  case atStart => exact ⟨1, q.size, [], rfl, rfl, Below.refl _ _, by simp, by omega, by omega, Hid.mk' rfl⟩
  case round =>
    obtain ⟨pos, f, l, rfl, rfl, hbel, hl, hpos, hf, hrun⟩ := hrel
    have hsz : (mkN l).size ≤ 100000 := by rw [mkN_size]; omega
    by_cases hp : pos < q.size
    · obtain ⟨g, rfl⟩ : ∃ g, f = g + 1 := ⟨f - 1, by omega⟩
      have hr := hrun.out
      rw [unF, if_neg (by omega)] at hr
      obtain ⟨c, hbv⟩ : ∃ c, bt q pos = c := ⟨_, rfl⟩
      have hbt : ((q[pos]).toNat : Nat) = c := by rw [← hbv]; exact bt_at q pos hp
      rw [hbv] at hr
      clear hrun
      by_cases h34 : c = 34
      · rw [if_pos h34] at hr
        have HU := Hid.mk' (un_some q l hr.symm)
        have CQ := Hid.mk' (refquote_any (mkN l) (by rw [mkN_size]; omega) wr (hT.next hbel))
        have he : ((c : Int) == 34) = true := by rw [h34]; rfl
        generalize mkN l = t at *
        generalize quoteB t = qq at *
        clear hr hbv h34
        go_wp2_with fail
        refine (CQ.out).mono ?_; rintro e w1 ⟨rfl, hb1⟩
        have hbel1 := bnext hbel hb1
        clear hb1 hbel CQ
        go_wp2_with fail
        go_ret2
        exact ⟨ret_sb HU.out.1.symm HU.out.2.symm, hbel1⟩
      · rw [if_neg h34] at hr
        have he34 : ((c : Int) == 34) = false := by simp; omega
        by_cases h92 : c = 92
        · rw [if_neg (by omega)] at hr
          have he92 : ((c : Int) != 92) = false := by rw [h92]; rfl
          by_cases hp1 : pos + 1 < q.size
          · rw [if_neg (by omega)] at hr
            obtain ⟨d, hdv⟩ : ∃ d, bt q (pos + 1) = d := ⟨_, rfl⟩
            have hbt1 : ((q[pos + 1]).toNat : Nat) = d := by rw [← hdv]; exact bt_at q (pos + 1) hp1
            rw [hdv] at hr
            by_cases h120 : d = 120
            · rw [if_neg (by omega)] at hr
              have he120 : ((d : Int) != 120) = false := by rw [h120]; rfl
              by_cases hp3 : pos + 3 < q.size
              · obtain ⟨x, hxv⟩ : ∃ x, bt q (pos + 2) = x := ⟨_, rfl⟩
                have hbt2 : ((q[pos + 2]).toNat : Nat) = x := by rw [← hxv]; exact bt_at q (pos + 2) (by omega)
                obtain ⟨y, hyv⟩ : ∃ y, bt q (pos + 3) = y := ⟨_, rfl⟩
                have hbt3 : ((q[pos + 3]).toNat : Nat) = y := by rw [← hyv]; exact bt_at q (pos + 3) hp3
                have hx256 := bt_lt q (pos + 2)
                have hy256 := bt_lt q (pos + 3)
                rw [hxv] at hr hx256
                rw [hyv] at hr hy256
                have CX := Hid.mk' (reffig_any x hx256)
                have CY := Hid.mk' (reffig_any y hy256)
                clear hbv hdv hxv hyv h34 h92 h120
                cases hx : isHx x with
                | false =>
                  rw [if_pos (Or.inr (Or.inl hx))] at hr
                  have HU := Hid.mk' (un_none q hr.symm)
                  rw [figI_neg x hx] at CX
                  clear hr
                  go_wp2_with fail
                  refine (CX.out _).mono ?_; rintro e w' ⟨rfl, rfl⟩
                  go_wp2_with fail
                  go_ret2
                  exact ⟨ret_sb HU.out.1.symm HU.out.2.symm, hbel⟩
                | true =>
                  rw [figI_ok x hx] at CX
                  have hfx := figV_lt x
                  cases hy : isHx y with
                  | false =>
                    rw [if_pos (Or.inr (Or.inr hy))] at hr
                    have HU := Hid.mk' (un_none q hr.symm)
                    rw [figI_neg y hy] at CY
                    clear hr
                    generalize figV x = fx at *
                    go_wp2_with fail
                    refine (CX.out _).mono ?_; rintro e w' ⟨rfl, rfl⟩
                    go_wp2_with fail
                    refine (CY.out _).mono ?_; rintro e w' ⟨rfl, rfl⟩
                    go_wp2_with fail
                    go_ret2
                    exact ⟨ret_sb HU.out.1.symm HU.out.2.symm, hbel⟩
                  | true =>
                    rw [figI_ok y hy] at CY
                    have hfy := figV_lt y
                    rw [if_neg (by rw [hx, hy]; simp; omega)] at hr
                    have HU := Hid.mk' hr
                    clear hr hx hy
                    generalize figV x = fx at *
                    generalize figV y = fy at *
                    go_wp2_with fail
                    refine (CX.out _).mono ?_; rintro e w' ⟨rfl, rfl⟩
                    go_wp2_with fail
                    refine (CY.out _).mono ?_; rintro e w' ⟨rfl, rfl⟩
                    go_wp2_with fail
                    have m1 : IntKind.i64.wrap (16 * (fx : Int)) = 16 * (fx : Int) := by simp only [IntKind.wrap, IntKind.bits, IntKind.signed]; first | omega | (simp; omega)
                    have m2 : IntKind.i64.wrap (16 * (fx : Int) + (fy : Int)) = ((16 * fx + fy : Nat) : Int) := by simp only [IntKind.wrap, IntKind.bits, IntKind.signed]; first | omega | (simp; omega)
                    have m3 : IntKind.u8.wrap ((16 * fx + fy : Nat) : Int) = ((16 * fx + fy : Nat) : Int) := by simp only [IntKind.wrap, IntKind.bits, IntKind.signed]; first | omega | (simp; omega)
                    have n2 : IntKind.i64.wrap ((pos : Int) + 2) = (pos : Int) + 2 := by simp only [IntKind.wrap, IntKind.bits, IntKind.signed]; first | omega | (simp; omega)
                    have n3 : IntKind.i64.wrap ((pos : Int) + 3) = (pos : Int) + 3 := by simp only [IntKind.wrap, IntKind.bits, IntKind.signed]; first | omega | (simp; omega)
                    have j2 : 0 ≤ (pos : Int) + 2 ∧ (pos : Int) + 2 < (q.size : Int) := by omega
                    have j3 : 0 ≤ (pos : Int) + 3 ∧ (pos : Int) + 3 < (q.size : Int) := by omega
                    have k2 : ((pos : Int) + 2).toNat < q.size := by omega
                    have k3 : ((pos : Int) + 3).toNat < q.size := by omega
                    have z2 : ((q[((pos : Int) + 2).toNat]'k2).toNat : Nat) = x := by rw [← hbt2]; congr 1
                    have z3 : ((q[((pos : Int) + 3).toNat]'k3).toNat : Nat) = y := by rw [← hbt3]; congr 1
                    have CX2 := CX.out
                    have CY2 := CY.out
                    rw [← z2] at CX2
                    rw [← z3] at CY2
                    have CX3 := Hid.mk' CX2
                    have CY3 := Hid.mk' CY2
                    clear CX2 CY2 CX CY z2 z3 hbt2 hbt3 hbt hbt1
                    generalize 16 * fx + fy = v at *
                    have hcv := fun t => run_convert_bytes_arg (P := Tryd.prog) (w'.alloc (.cells #[.int .u8 (v : Int)] t)).drew 43 5 Tryd.underlying43 Tryd.underlying5 w'.heap.size 0 1 1 [(v : Int)] rfl (fun i hi => by
                      obtain rfl : i = 0 := by simp at hi; omega
                      exact (Bx.fresh w' t #[.int .u8 (v : Int)]).read rfl) 9 Tryd.underlying9
                    rw [show strOfNums [(v : Int)] = mkN [v] from by unfold mkN; exact strOf_map [v]] at hcv
                    have hsz3 : (mkN [v]).size = 1 := by rw [mkN_size]; rfl
                    have HE2 := Hid.mk' (mkN_app l [v])
                    have hsum : ¬ 9223372036854775807 < (mkN l).size + 1 := by omega
                    generalize mkN [v] = F3 at *
                    generalize mkN l = F0 at *
                    go_region_with ((go_at_call 27; first | (with_reducible refine (CX3.out _).mono ?_; rintro e w2 ⟨rfl, rfl⟩) | (with_reducible refine (CY3.out _).mono ?_; rintro e w2 ⟨rfl, rfl⟩)))
                    all_goals
                      have hbel3 := fun o => (hbel.alloc hbel.size o).drew
                      go_wp2_with fail
                      go_roundw
                      case rel => first | exact ⟨pos + 4, g, l ++ [v], by rw [HE2.out], by go_num, hbel3 _, by rw [List.length_append]; simp only [List.length_cons, List.length_nil]; omega, by omega, by omega, HU⟩ | ((repeat apply Exists.intro); exact ⟨⟨pos + 4, g, l ++ [v], by rw [HE2.out], by go_num, hbel3 _, by rw [List.length_append]; simp only [List.length_cons, List.length_nil]; omega, by omega, by omega, HU⟩, rfl⟩)
                      case measure => simp [intOf]; omega
              · rw [if_pos (Or.inl (by omega))] at hr
                have HU := Hid.mk' (un_none q hr.symm)
                clear hr hbv hdv h34 h92 h120
                go_wp2_with fail
                go_ret2
                exact ⟨ret_sb HU.out.1.symm HU.out.2.symm, hbel⟩
            · rw [if_pos h120] at hr
              have he120 : ((d : Int) != 120) = true := by simp; omega
              have hx := byte_ext q (pos + 1) hp1
              rw [hdv] at hx
              have HU := Hid.mk' hr
              have HE2 := Hid.mk' (mkN_app l [d])
              have hsz3 : (mkN [d]).size = 1 := by rw [mkN_size]; rfl
              generalize mkN [d] = F3 at *
              clear hr hbv hdv h34 h92 h120
              go_wp2_with fail
              go_roundw
              case rel => exact ⟨pos + 2, g, l ++ [d], by rw [HE2.out], by go_num, hbel, by rw [List.length_append]; simp only [List.length_cons, List.length_nil]; omega, by omega, by omega, HU⟩
              case measure => simp [intOf]; omega
          · rw [if_pos (by omega)] at hr
            have HU := Hid.mk' (un_none q hr.symm)
            clear hr hbv h34 h92
            go_wp2_with fail
            go_ret2
            exact ⟨ret_sb HU.out.1.symm HU.out.2.symm, hbel⟩
        · rw [if_pos h92] at hr
          have he92 : ((c : Int) != 92) = true := by simp; omega
          have hx := byte_ext q pos hp
          rw [hbv] at hx
          have HU := Hid.mk' hr
          have HE2 := Hid.mk' (mkN_app l [c])
          have hsz3 : (mkN [c]).size = 1 := by rw [mkN_size]; rfl
          generalize mkN [c] = F3 at *
          clear hr hbv h34 h92
          go_wp2_with fail
          go_roundw
          case rel => exact ⟨pos + 1, g, l ++ [c], by rw [HE2.out], by go_num, hbel, by rw [List.length_append]; simp only [List.length_cons, List.length_nil]; omega, by omega, by omega, HU⟩
          case measure => simp [intOf]; omega
    · have hend : unF q f pos l = none := by
        cases f with
        | zero => rfl
        | succ g => rw [unF, if_pos hp]
      have HU := Hid.mk' (un_none q (hrun.out.symm.trans hend))
      clear hend hrun
      go_wp2_with fail
      go_ret2
      exact ⟨ret_sb HU.out.1.symm HU.out.2.symm, hbel⟩
end Go.Proofs.YtnhonjhpggnglaaDoor
