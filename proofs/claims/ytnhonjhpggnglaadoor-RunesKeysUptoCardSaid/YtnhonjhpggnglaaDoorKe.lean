/- Layer 1 (runes): which texts may be keys, by definition; the statement on keys and values. -/
import Derived.Test.YtnhonjhpggnglaaDoorKd
import Derived.Test.YtnhonjhpggnglaaDoorAl
namespace Go.Proofs.YtnhonjhpggnglaaDoor
open Go.RowKit

theorem runes_cell (s : ByteArray) (w : World) (n : Nat) (i r : Nat) (h : (runesL s.size s.data.toList)[i]? = some r) :
    (w.alloc (.cells (Conv.runesFrom s s.size 0 #[] ++ Array.replicate n (Value.int IntKind.i32 0)) 21)).cell? ⟨w.heap.size, i, none⟩ = some (.int .i32 (r : Int)) := by
  refine (Bx.fresh w 21 _).read ?_
  rw [runesFrom_eq, rest_zero]
  have hi : i < (runesL s.size s.data.toList).length := (List.getElem?_eq_some_iff.1 h).1
  rw [Array.getElem?_append_left (by simp; exact hi)]
  simp [h]

set_option maxHeartbeats 2000000 in
theorem refkey_any (s : ByteArray) (hs : s.size ≤ 1048576) (w : World) (hT : Tb w) : Calls Tryd.prog 7 #[.string s] w fun e w' => e = .returned (.bool (keyD s)) ∧ Below w.heap.size w w' := by
  have hrun := runes_cnt s
  have hcl := cntF_le s s.size 0
  rw [show cntF s s.size 0 = cnt s from rfl] at hcl
  have hcv : ∀ w, (convert 9 26 (.string s)).run Tryd.prog w = _ := fun w => run_runes_of_string (P := Tryd.prog) w 9 26 21 s Tryd.underlying9 Tryd.underlying26 Tryd.underlying21 (by rw [hrun]; omega)
  rw [hrun] at hcv
  have hlen := runesL_len s.size s.data.toList
  rw [← cnt_eq] at hlen
  have CB := fun w hT => Hid.mk' (refbad_any s (by unfold maxLen; omega) w hT)
  have bel : ∀ o, Below w.heap.size w (w.alloc o).drew := fun o => ((Below.refl _ _).alloc (Nat.le_refl _) _).drew
  have cells := fun i r h => runes_cell s w (grownCap w (cnt s) 0 21 - cnt s) i r h
  by_cases h0 : s.size = 0
  · have hc0 : cnt s = 0 := by omega
    have HK := Hid.mk' (show keyD s = false by unfold keyD; rw [decide_eq_false (by omega)]; rfl)
    rw [hc0] at hcv
    clear cells CB hrun hlen
    go_enter Tryd.func7, Tryd.ntmps7
    go_wp2_with fail
    go_ret
    exact ⟨ret_bool HK.out.symm, bel _⟩
  · have hc1 : 1 ≤ cnt s := by
      unfold cnt
      obtain ⟨g, hg⟩ : ∃ g, s.size = g + 1 := ⟨s.size - 1, by omega⟩
      rw [hg, cntF, if_pos (by omega)]; omega
    have hz : (((cnt s : Nat) : Int) == 0) = false := by simp; omega
    by_cases h24 : 24 < s.size
    · have HK := Hid.mk' (show keyD s = false by unfold keyD; rw [decide_eq_false (by omega)]; rfl)
      clear cells CB hrun hlen
      generalize cnt s = n at *
      go_enter Tryd.func7, Tryd.ntmps7
      go_wp2_with fail
      go_ret
      exact ⟨ret_bool HK.out.symm, bel _⟩
    · have hD : keyD s = (vL s.size s.data.toList && (letterB ((runesL s.size s.data.toList).getD 0 0) && (runesL s.size s.data.toList).all kOk)) := by unfold keyD; rw [decide_eq_true (by omega)]; rfl
      generalize hL : runesL s.size s.data.toList = L at *
      generalize cnt s = n at *
      subst hlen
      generalize hv : vL s.size s.data.toList = v at *
      have hcw := hcv w
      clear hcv
      generalize (Conv.runesFrom s s.size 0 #[] ++ Array.replicate (grownCap w L.length 0 21 - L.length) (Value.int IntKind.i32 0)) = cs at *
      generalize grownCap w L.length 0 21 = cap at *
      have hT1 : Tb (w.alloc (.cells cs 21)).drew := hT.next (bel _)
      have hbel := bel (.cells cs 21)
      have CB1 := CB _ hT1
      have cells1 : ∀ w1, Below (w.alloc (.cells cs 21)).drew.heap.size (w.alloc (.cells cs 21)).drew w1 → ∀ i (r : Nat), L[i]? = some r → w1.cell? ⟨w.heap.size, i, none⟩ = some (.int .i32 (r : Int)) := fun w1 hb i r h => by
        have h1 : (w.alloc (.cells cs 21)).drew.cell? ⟨w.heap.size, i, none⟩ = some (.int .i32 (r : Int)) := cells i r h
        rw [hb.cell (World.block_lt_of_cell? _ _ h1)]; exact h1
      clear CB hT hT1 bel hv hL hrun cells
      cases v with
      | false =>
        rw [Bool.false_and] at hD
        have HK := Hid.mk' hD
        clear hD cells1
        generalize L.length = n at *
        go_enter Tryd.func7, Tryd.ntmps7
        go_wp2_with fail
        refine (CB1.out).mono ?_; rintro e w1 ⟨rfl, hb1⟩
        go_wp2_with fail
        go_ret
        exact ⟨ret_bool HK.out.symm, hbel.trans (hb1.mono hbel.size)⟩
      | true =>
        rw [Bool.true_and] at hD
        have hx0 : L[0]? = some (L.getD 0 0) := by rw [List.getD_eq_getElem?_getD, List.getElem?_eq_getElem (by omega)]; rfl
        have c0 := fun w1 hb => cells1 w1 hb 0 _ hx0
        have CL := Hid.mk' (refletter_any (L.getD 0 0))
        have hi0 : (0 : Int) < ((L.length : Nat) : Int) := by omega
        generalize L.getD 0 0 = r0 at *
        cases hl0 : letterB r0 with
        | false =>
          rw [hl0] at hD CL
          rw [Bool.false_and] at hD
          have HK := Hid.mk' hD
          clear hD cells1 hx0 hl0
          generalize L.length = n at *
          go_enter Tryd.func7, Tryd.ntmps7
          go_wp2_with fail
          refine (CB1.out).mono ?_; rintro e w1 ⟨rfl, hb1⟩
          have e0 := c0 w1 hb1
          clear c0
          go_wp2_with fail
          refine (CL.out _).mono ?_; rintro e w' ⟨rfl, rfl⟩
          go_wp2_with fail
          go_ret
          exact ⟨ret_bool HK.out.symm, hbel.trans (hb1.mono hbel.size)⟩
        | true =>
          rw [hl0] at hD CL
          rw [Bool.true_and] at hD
          have HK := Hid.mk' hD
          clear hD hx0 hl0
          go_enter Tryd.func7, Tryd.ntmps7
          go_wp2_with fail
          refine (CB1.out).mono ?_; rintro e w1 ⟨rfl, hb1⟩
          have e0 := c0 w1 hb1
          have cells2 := Hid.mk' (cells1 w1 hb1)
          clear c0 cells1
          go_wp2_with fail
          refine (CL.out _).mono ?_; rintro e w' ⟨rfl, rfl⟩
          have belw : Below w.heap.size w w1 := hbel.trans (hb1.mono hbel.size)
          clear hb1 hbel CB1 CL e0 hcw
          go_wp2_with fail
          go_loopw [4] (fun i wr => ∃ k : Nat, i = .int .i64 k ∧ k ≤ L.length ∧ wr = w1 ∧ Hid ((L.drop k).all kOk = L.all kOk)) (fun i _ => L.length - (intOf i).toNat)
          case atStart => exact ⟨0, rfl, by omega, rfl, Hid.mk' rfl⟩
          case round =>
            obtain ⟨k, rfl, hk, rfl, hall⟩ := hrel
            by_cases hlt : k < L.length
            · have hx : L[k]? = some L[k] := List.getElem?_eq_getElem hlt
              have e1 := cells2.out k _ hx
              have hd : L.drop k = L[k] :: L.drop (k + 1) := List.drop_eq_getElem_cons hlt
              have ha := hall.out
              rw [hd, List.all_cons] at ha
              have CL := Hid.mk' (refletter_any L[k])
              generalize L[k] = r at *
              have hki : (k : Int) < (L.length : Int) := by omega
              clear hx hd hall cells2
              obtain ⟨z, hz⟩ : ∃ z : Int, (r : Int) = z := ⟨_, rfl⟩
              rw [hz] at e1 CL
              cases hlr : letterB r with
              | true =>
                rw [hlr] at CL
                rw [show kOk r = true from by unfold kOk; rw [hlr]; rfl, Bool.true_and] at ha
                have HA := Hid.mk' ha
                clear ha hlr hz
                generalize L.length = n at *
                go_wp2_with fail
                refine (CL.out _).mono ?_; rintro e w' ⟨rfl, rfl⟩
                go_wp2_with fail
                go_roundw
                case rel => exact ⟨k + 1, by go_num, by omega, by first | trivial | rfl, HA⟩
                case measure => simp [intOf]; omega
              | false =>
                rw [hlr] at CL
                have hk1 : kOk r = behindB r := by unfold kOk; rw [hlr]; rfl
                rw [hk1] at ha
                have hb : behindB r = decide (48 ≤ z ∧ z ≤ 57 ∨ z = 45 ∨ z = 95) := by unfold behindB; rw [Bool.eq_iff_iff, decide_eq_true_eq, decide_eq_true_eq]; omega
                rw [hb] at ha
                clear hb hk1 hlr hz
                have hcase : (48 ≤ z ∧ z ≤ 57) ∨ z = 45 ∨ z = 95 ∨ (z < 48 ∧ z ≠ 45) ∨ (57 < z ∧ z ≠ 95) := by omega
                rcases hcase with hc | rfl | rfl | hc | hc
                · rw [decide_eq_true (Or.inl hc), Bool.true_and] at ha
                  have HA := Hid.mk' ha
                  clear ha
                  generalize L.length = n at *
                  go_wp2_with fail
                  refine (CL.out _).mono ?_; rintro e w' ⟨rfl, rfl⟩
                  go_wp2_with fail
                  go_roundw
                  case rel => exact ⟨k + 1, by go_num, by omega, by first | trivial | rfl, HA⟩
                  case measure => simp [intOf]; omega
                · rw [decide_eq_true (Or.inr (Or.inl rfl)), Bool.true_and] at ha
                  have HA := Hid.mk' ha
                  clear ha
                  generalize L.length = n at *
                  go_wp2_with fail
                  refine (CL.out _).mono ?_; rintro e w' ⟨rfl, rfl⟩
                  go_wp2_with fail
                  go_roundw
                  case rel => exact ⟨k + 1, by go_num, by omega, by first | trivial | rfl, HA⟩
                  case measure => simp [intOf]; omega
                · rw [decide_eq_true (Or.inr (Or.inr rfl)), Bool.true_and] at ha
                  have HA := Hid.mk' ha
                  clear ha
                  generalize L.length = n at *
                  go_wp2_with fail
                  refine (CL.out _).mono ?_; rintro e w' ⟨rfl, rfl⟩
                  go_wp2_with fail
                  go_roundw
                  case rel => exact ⟨k + 1, by go_num, by omega, by first | trivial | rfl, HA⟩
                  case measure => simp [intOf]; omega
                · rw [decide_eq_false (by omega), Bool.false_and] at ha
                  have HA := Hid.mk' (HK.out.trans ha.symm)
                  have hne : (z != 45) = true := by simp; exact hc.2
                  have hne2 : (z != 95) = true := by simp; omega
                  clear ha
                  generalize L.length = n at *
                  go_wp2_with fail
                  refine (CL.out _).mono ?_; rintro e w' ⟨rfl, rfl⟩
                  go_wp2_with fail
                  go_ret
                  exact ⟨ret_bool HA.out.symm, belw⟩
                · rw [decide_eq_false (by omega), Bool.false_and] at ha
                  have HA := Hid.mk' (HK.out.trans ha.symm)
                  have hne : (z != 45) = true := by simp; omega
                  have hne2 : (z != 95) = true := by simp; exact hc.2
                  clear ha
                  generalize L.length = n at *
                  go_wp2_with fail
                  refine (CL.out _).mono ?_; rintro e w' ⟨rfl, rfl⟩
                  go_wp2_with fail
                  go_ret
                  exact ⟨ret_bool HA.out.symm, belw⟩
                  all_goals (exfalso; rename_i hh; simp at hh; omega)
            · have ha := hall.out
              rw [List.drop_of_length_le (by omega)] at ha
              have HA := Hid.mk' (HK.out.trans ha.symm)
              clear ha hall cells2
              generalize L.length = n at *
              go_wp2_with fail
              go_ret
              exact ⟨ret_bool HA.out.symm, belw⟩

set_option maxHeartbeats 1000000 in
theorem keyslaw (s : ByteArray) (hs : s.size ≤ 1048576) (w : World) (hT : Tb w) :
    Calls Tryd.prog 3 #[.string s] w fun e w' => e = .returned (.bool true) ∧ Below w.heap.size w w' := by
  have hm : s.size ≤ maxLen := by unfold maxLen; omega
  have C1 := Hid.mk' (key_any s hm)
  have C2 := Hid.mk' (refkey_any s hs)
  have C3 := Hid.mk' (val_any s hm)
  have C4 := Hid.mk' (refval_any s hm)
  rw [key_same] at C1
  generalize keyD s = b at *
  generalize valB s = c at *
  have hbb : (b == b) = true := by simp
  have hcc : (c == c) = true := by simp
  clear hs hm
  go_enter Tryd.func3, Tryd.ntmps3
  go_wp2_with fail
  refine (C1.out _).mono ?_; rintro e w1 ⟨rfl, hb1⟩
  go_wp2_with fail
  refine (C2.out _ (hT.next hb1)).mono ?_; rintro e w2 ⟨rfl, hb2⟩
  have below2 := bnext hb1 hb2
  clear hb1 hb2
  go_wp2_with fail
  refine (C3.out _).mono ?_; rintro e w3 ⟨rfl, hb3⟩
  have below3 := bnext below2 hb3
  clear below2 hb3
  go_wp2_with fail
  refine (C4.out _ (hT.next below3)).mono ?_; rintro e w4 ⟨rfl, hb4⟩
  have below4 := bnext below3 hb4
  clear below3 hb4
  go_wp2_with fail
  refine (alive1_any _).mono ?_; rintro e w7 ⟨rfl, hb7⟩
  go_wp2_with fail
  go_ret
  exact ⟨rfl, bnext below4 hb7⟩
end Go.Proofs.YtnhonjhpggnglaaDoor
