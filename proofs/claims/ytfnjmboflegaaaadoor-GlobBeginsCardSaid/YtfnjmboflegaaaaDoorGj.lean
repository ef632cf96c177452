/- Layer 38 (glob): a rune is read, by the code. -/
import Derived.Test.YtfnjmboflegaaaaDoorGi
namespace Go.Proofs.YtfnjmboflegaaaaDoor
open Go.RowKit

def exM (g : Nat → Bool) : Nat → Bool
  | 0 => false
  | m + 1 => g m || exM g m
def sK (n : Nat) (f g : Nat → Bool) (m : Nat) : Nat → Bool := fun k => if m ≤ k ∧ k ≤ n then g k else f k
theorem sK_top (n : Nat) (f g : Nat → Bool) : sK n f g (n + 1) = f := by
  funext k; unfold sK; rw [if_neg (by omega)]
theorem sK_low (n : Nat) (f g : Nat → Bool) (m k : Nat) (h : k < m) : sK n f g m k = f k := by unfold sK; rw [if_neg (by omega)]
theorem sK_next (n : Nat) (f g : Nat → Bool) (i : Nat) (b : Bool) (hb : g i = b) (hi : i ≤ n) : (fun k => if k = i then b else sK n f g (i + 1) k) = sK n f g i := by
  funext k
  unfold sK
  by_cases h : k = i
  · subst h; rw [if_pos rfl, if_pos ⟨Nat.le_refl _, hi⟩, hb]
  · rw [if_neg h]
    by_cases h2 : i + 1 ≤ k ∧ k ≤ n
    · rw [if_pos h2, if_pos (by omega)]
    · rw [if_neg h2, if_neg (by omega)]
theorem PtO.shut {w : World} {pv : Value} {q : List (Prt × Value)} (h : PtO w pv q) : ∃ g cap, ∀ k (hk : k < q.length), pv = .slice (some ⟨g, 0, none⟩) q.length cap ∧ q.length ≤ cap := by
  rcases h.1.2 with ⟨_, h0⟩ | ⟨g, cap, cur, rfl, _, _, hle, _⟩
  · exact ⟨0, 0, fun k hk => by omega⟩
  · exact ⟨g, cap, fun k hk => ⟨rfl, hle⟩⟩
set_option maxRecDepth 100000 in
set_option maxHeartbeats 16000000 in
theorem step_any (s : ByteArray) (pv : Value) (q : List (Prt × Value)) (hq : q.length ≤ 100) (hsp : ∀ x ∈ q, x.1.sp.length ≤ 200) (B : Nat) (f : Nat → Bool) (r : Int) (w : World) (h : PtO w pv q) (hb : Bx w B 44 (arrB f)) :
    Calls Tryd.prog 20 #[.agg #[.string s, pv], .pointer (some ⟨B, 0, none⟩), .int .i32 r] w fun e w' => e = .returned (.bool (exM (stepF (psq q) f r) (q.length + 1))) ∧ BPost w B (gK (psq q) (sK q.length f (stepF (psq q) f r) 0) q.length) w' := by
  obtain ⟨pa, pc, rfl⟩ := own_form h.1
  have hBw := hb.inside
  have START := Hid.mk' (show BPost w B (sK q.length f (stepF (psq q) f r) (q.length + 1)) (w.alloc (.cells #[.string s, .slice pa q.length pc] 24)) from ⟨by rw [sK_top]; exact hb.past _, gb_alloc _ _ _⟩)
  have START2 := Hid.mk' (Bx.fresh w 24 #[.string s, .slice pa q.length pc])
  have HH := Hid.mk' (And.intro h hb)
  have HSP := Hid.mk' hsp
  clear h hb hsp
  obtain ⟨G, hG⟩ : ∃ G : Nat → Bool, G = stepF (psq q) f r := ⟨_, rfl⟩
  rw [← hG] at START ⊢
  have HG := Hid.mk' hG
  clear hG
  have hql : (q.length : Int) ≤ 100 := by omega
  go_enter Tryd.func20, Tryd.ntmps20
  go_wp2_with fail
  go_loopw [7, 8] (fun bv iv wr => ∃ (m : Nat) (z : Int) (sm : Bool), iv = .int .i64 z ∧ z = (m : Int) - 1 ∧ bv = .bool sm ∧ m ≤ q.length + 1 ∧ Hid (exM G (q.length + 1) = (sm || exM G m)) ∧ Bx wr w.heap.size 24 #[.string s, .slice pa q.length pc] ∧ Hid (BPost w B (sK q.length f G m) wr)) (fun _ iv _ => (intOf iv + 1).toNat)
  case atStart => exact ⟨q.length + 1, _, false, rfl, by omega, rfl, Nat.le_refl _, (by rw [Bool.false_or]; rfl), START2.out, START⟩
  case round =>
    clear START START2
    obtain ⟨m, z, sm, rfl, hz, rfl, hm, HE, hbp, HP⟩ := hrel
    have hsz := HP.out.2.size
    cases m with
    | zero =>
      have hz' : z = -1 := by omega
      subst hz'
      have E := Hid.mk' (show exM G (q.length + 1) = sm by rw [HE.out]; simp [exM])
      obtain ⟨o0, o1⟩ := And.intro (hbp.read (i := 0) rfl) (hbp.read (i := 1) rfl)
      have C := Hid.mk' (pass_any s (.slice pa q.length pc) q hq B _ wr (HH.out.1.kept HP.out.2 HH.out.2 (by decide) (by decide)) HP.out.1)
      have HW := Hid.mk' HP.out.2
      clear HE HP hz hm
      go_wp2_with fail
      refine C.out.mono ?_; rintro e W2 ⟨rfl, hP⟩
      have HP2 := Hid.mk' hP
      clear hP
      go_wp2_with fail
      go_ret
      exact ⟨ret_bool E.out.symm, HP2.out.1, gb_trans HW.out HP2.out.2⟩
    | succ i =>
      have hz' : z = (i : Int) := by omega
      subst hz'
      clear hz
      have hin : i ≤ q.length := by omega
      have hpt := HH.out.1.kept HP.out.2 HH.out.2 (by decide) (by decide)
      have hpv := hpt.shut
      have ri := HP.out.1.read (arr_at _ i (by omega))
      rw [sK_low _ _ _ _ _ (Nat.lt_succ_self i)] at ri
      have fi := HP.out.1.open_ i
      obtain ⟨o0, o1⟩ := And.intro (hbp.read (i := 0) rfl) (hbp.read (i := 1) rfl)
      have hnB : wr.heap.size ≠ B := by have := HP.out.1.inside; omega
      have HPT := Hid.mk' hpt
      have HBP := Hid.mk' hbp
      clear hbp hpt hpv

      cases hfi : f i with
      | false =>
        rw [hfi] at ri
        have HF := Hid.mk' (show (f i && rowAt (psq q) i) = false by rw [hfi]; rfl)
        clear hfi
        by_cases h0 : i = 0
        · have hi0 : ¬ (0 : Int) < (i : Int) := by omega
          have H0 := Hid.mk' h0
          clear h0
          cases sm with
          | false =>
            have hv : G i = false := by rw [HG.out]; unfold stepF; rw [HF.out, H0.out]; rfl
            have HV := Hid.mk' hv
            clear hv
            go_wp2_with fail
            have B2 := HP.out.1.put i (.bool false)
            rw [arr_set, sK_next _ _ _ _ _ HV.out hin] at B2
            go_roundw
            case rel => exact ⟨i, _, _, rfl, by go_num, rfl, by omega, Hid.mk' (by rw [HE.out, exM, HV.out]; simp), HBP.out.beside (p := ⟨B, i, none⟩) (by show B ≠ w.heap.size; omega) _, ⟨B2, gb_trans HP.out.2 (gb_set _ _ _ _)⟩⟩
            case measure => first | (simp [intOf]; done) | (simp [intOf]; omega)
          | true =>
            have hv : G i = false := by rw [HG.out]; unfold stepF; rw [HF.out, H0.out]; rfl
            have HV := Hid.mk' hv
            clear hv
            go_wp2_with fail
            have B2 := HP.out.1.put i (.bool false)
            rw [arr_set, sK_next _ _ _ _ _ HV.out hin] at B2
            go_roundw
            case rel => exact ⟨i, _, _, rfl, by go_num, rfl, by omega, Hid.mk' (by rw [HE.out, exM, HV.out]; simp), HBP.out.beside (p := ⟨B, i, none⟩) (by show B ≠ w.heap.size; omega) _, ⟨B2, gb_trans HP.out.2 (gb_set _ _ _ _)⟩⟩
            case measure => first | (simp [intOf]; done) | (simp [intOf]; omega)
        · obtain ⟨k, hk⟩ : ∃ k, i = k + 1 := ⟨i - 1, by omega⟩
          have hi0 : (0 : Int) < (i : Int) := by omega
          have hkq : k < q.length := by omega
          have rk0 := HP.out.1.read (arr_at _ k (by omega))
          rw [sK_low _ _ _ _ _ (by omega)] at rk0
          have hkk : (i - 1) = k := by omega
          have HKK := Hid.mk' (And.intro hk hkk)
          have rk : wr.cell? ⟨B, (i - 1), none⟩ = some (.bool (f k)) := by rw [hkk]; exact rk0
          clear hk hkk rk0
          cases hfk : f k with
          | false =>
            rw [hfk] at rk
            have HFK := Hid.mk' hfk
            clear hfk
            cases sm with
            | false =>
              have hv : G i = false := by rw [HG.out]; unfold stepF; rw [HF.out, HKK.out.1]; simp [HFK.out]
              have HV := Hid.mk' hv
              clear hv
              go_wp2_with fail
              have B2 := HP.out.1.put i (.bool false)
              rw [arr_set, sK_next _ _ _ _ _ HV.out hin] at B2
              go_roundw
              case rel => exact ⟨i, _, _, rfl, by go_num, rfl, by omega, Hid.mk' (by rw [HE.out, exM, HV.out]; simp), HBP.out.beside (p := ⟨B, i, none⟩) (by show B ≠ w.heap.size; omega) _, ⟨B2, gb_trans HP.out.2 (gb_set _ _ _ _)⟩⟩
              case measure => first | (simp [intOf]; done) | (simp [intOf]; omega)
            | true =>
              have hv : G i = false := by rw [HG.out]; unfold stepF; rw [HF.out, HKK.out.1]; simp [HFK.out]
              have HV := Hid.mk' hv
              clear hv
              go_wp2_with fail
              have B2 := HP.out.1.put i (.bool false)
              rw [arr_set, sK_next _ _ _ _ _ HV.out hin] at B2
              go_roundw
              case rel => exact ⟨i, _, _, rfl, by go_num, rfl, by omega, Hid.mk' (by rw [HE.out, exM, HV.out]; simp), HBP.out.beside (p := ⟨B, i, none⟩) (by show B ≠ w.heap.size; omega) _, ⟨B2, gb_trans HP.out.2 (gb_set _ _ _ _)⟩⟩
              case measure => first | (simp [intOf]; done) | (simp [intOf]; omega)
          | true =>
            rw [hfk] at rk
            have HFK := Hid.mk' hfk
            clear hfk
            obtain ⟨g, cap, hv, hle, c0, c1, c2⟩ := HPT.out.at k hkq
            cases hv
            obtain ⟨xa, xc, hx⟩ := own_form (HPT.out.2 _ (List.getElem_mem hkq))
            rw [hx] at c2
            have hC := tells_any q[k].1 q[k].2 r (HSP.out _ (List.getElem_mem hkq)) wr (HPT.out.2 _ (List.getElem_mem hkq))
            rw [hx] at hC
            have hte := tell_at q k r hkq
            generalize q[k] = x at *
            obtain ⟨⟨row, nt, sp⟩, xv⟩ := x
            dsimp only at *
            rw [← HKK.out.2] at c0 c1 c2
            cases ht : Prt.tells ⟨row, nt, sp⟩ r with
            | false =>
              rw [ht] at hC hte
              have C := Hid.mk' hC
              have HT := Hid.mk' hte
              clear hC hte ht hx
              cases sm with
              | false =>
                have hv : G i = false := by rw [HG.out]; unfold stepF; rw [HF.out, HKK.out.1]; simp [HFK.out, HT.out]
                have HV := Hid.mk' hv
                clear hv
                go_wp2_with fail
                refine C.out.mono ?_; rintro e W2 ⟨rfl, hb2⟩
                have ri2 := (HP.out.1.next hb2).read (arr_at _ i (by omega))
                have fi2 := (HP.out.1.next hb2).open_ i
                have H2 := Hid.mk' (And.intro (HP.out.1.next hb2) (And.intro (gb_trans HP.out.2 (gb_below hb2 (some B))) (HBP.out.next hb2)))
                clear hb2
                go_wp2_with fail
                have B2 := H2.out.1.put i (.bool false)
                rw [arr_set, sK_next _ _ _ _ _ HV.out hin] at B2
                go_roundw
                case rel => exact ⟨i, _, _, rfl, by go_num, rfl, by omega, Hid.mk' (by rw [HE.out, exM, HV.out]; simp), H2.out.2.2.beside (p := ⟨B, i, none⟩) (by show B ≠ w.heap.size; omega) _, ⟨B2, gb_trans H2.out.2.1 (gb_set _ _ _ _)⟩⟩
                case measure => first | (simp [intOf]; done) | (simp [intOf]; omega)
              | true =>
                have hv : G i = false := by rw [HG.out]; unfold stepF; rw [HF.out, HKK.out.1]; simp [HFK.out, HT.out]
                have HV := Hid.mk' hv
                clear hv
                go_wp2_with fail
                refine C.out.mono ?_; rintro e W2 ⟨rfl, hb2⟩
                have ri2 := (HP.out.1.next hb2).read (arr_at _ i (by omega))
                have fi2 := (HP.out.1.next hb2).open_ i
                have H2 := Hid.mk' (And.intro (HP.out.1.next hb2) (And.intro (gb_trans HP.out.2 (gb_below hb2 (some B))) (HBP.out.next hb2)))
                clear hb2
                go_wp2_with fail
                have B2 := H2.out.1.put i (.bool false)
                rw [arr_set, sK_next _ _ _ _ _ HV.out hin] at B2
                go_roundw
                case rel => exact ⟨i, _, _, rfl, by go_num, rfl, by omega, Hid.mk' (by rw [HE.out, exM, HV.out]; simp), H2.out.2.2.beside (p := ⟨B, i, none⟩) (by show B ≠ w.heap.size; omega) _, ⟨B2, gb_trans H2.out.2.1 (gb_set _ _ _ _)⟩⟩
                case measure => first | (simp [intOf]; done) | (simp [intOf]; omega)
            | true =>
              rw [ht] at hC hte
              have C := Hid.mk' hC
              have HT := Hid.mk' hte
              clear hC hte ht hx
              cases sm with
              | false =>
                have hv : G i = true := by rw [HG.out]; unfold stepF; rw [HF.out, HKK.out.1]; simp [HFK.out, HT.out]
                have HV := Hid.mk' hv
                clear hv
                go_wp2_with fail
                refine C.out.mono ?_; rintro e W2 ⟨rfl, hb2⟩
                have ri2 := (HP.out.1.next hb2).read (arr_at _ i (by omega))
                have fi2 := (HP.out.1.next hb2).open_ i
                have H2 := Hid.mk' (And.intro (HP.out.1.next hb2) (And.intro (gb_trans HP.out.2 (gb_below hb2 (some B))) (HBP.out.next hb2)))
                clear hb2
                go_wp2_with fail
                have B2 := H2.out.1.put i (.bool true)
                rw [arr_set, sK_next _ _ _ _ _ HV.out hin] at B2
                go_roundw
                case rel => exact ⟨i, _, _, rfl, by go_num, rfl, by omega, Hid.mk' (by rw [HE.out, exM, HV.out]; simp), H2.out.2.2.beside (p := ⟨B, i, none⟩) (by show B ≠ w.heap.size; omega) _, ⟨B2, gb_trans H2.out.2.1 (gb_set _ _ _ _)⟩⟩
                case measure => first | (simp [intOf]; done) | (simp [intOf]; omega)
              | true =>
                have hv : G i = true := by rw [HG.out]; unfold stepF; rw [HF.out, HKK.out.1]; simp [HFK.out, HT.out]
                have HV := Hid.mk' hv
                clear hv
                go_wp2_with fail
                refine C.out.mono ?_; rintro e W2 ⟨rfl, hb2⟩
                have ri2 := (HP.out.1.next hb2).read (arr_at _ i (by omega))
                have fi2 := (HP.out.1.next hb2).open_ i
                have H2 := Hid.mk' (And.intro (HP.out.1.next hb2) (And.intro (gb_trans HP.out.2 (gb_below hb2 (some B))) (HBP.out.next hb2)))
                clear hb2
                go_wp2_with fail
                have B2 := H2.out.1.put i (.bool true)
                rw [arr_set, sK_next _ _ _ _ _ HV.out hin] at B2
                go_roundw
                case rel => exact ⟨i, _, _, rfl, by go_num, rfl, by omega, Hid.mk' (by rw [HE.out, exM, HV.out]; simp), H2.out.2.2.beside (p := ⟨B, i, none⟩) (by show B ≠ w.heap.size; omega) _, ⟨B2, gb_trans H2.out.2.1 (gb_set _ _ _ _)⟩⟩
                case measure => first | (simp [intOf]; done) | (simp [intOf]; omega)
      | true =>
        rw [hfi] at ri
        by_cases hiq : i < q.length
        · obtain ⟨g0, cap0, hv0, hle0, d0, _, _⟩ := HPT.out.at i hiq
          cases hv0
          have hrow := row_at q i hiq
          generalize q[i].1.row = row0 at *
          have hiqz : (i : Int) < (q.length : Int) := by omega
          cases row0 with
          | false =>
            have HF := Hid.mk' (show (f i && rowAt (psq q) i) = false by rw [hfi, hrow]; rfl)
            clear hfi hrow
            by_cases h0 : i = 0
            · have hi0 : ¬ (0 : Int) < (i : Int) := by omega
              have H0 := Hid.mk' h0
              clear h0
              cases sm with
              | false =>
                have hv : G i = false := by rw [HG.out]; unfold stepF; rw [HF.out, H0.out]; rfl
                have HV := Hid.mk' hv
                clear hv
                go_wp2_with fail
                have B2 := HP.out.1.put i (.bool false)
                rw [arr_set, sK_next _ _ _ _ _ HV.out hin] at B2
                go_roundw
                case rel => exact ⟨i, _, _, rfl, by go_num, rfl, by omega, Hid.mk' (by rw [HE.out, exM, HV.out]; simp), HBP.out.beside (p := ⟨B, i, none⟩) (by show B ≠ w.heap.size; omega) _, ⟨B2, gb_trans HP.out.2 (gb_set _ _ _ _)⟩⟩
                case measure => first | (simp [intOf]; done) | (simp [intOf]; omega)
              | true =>
                have hv : G i = false := by rw [HG.out]; unfold stepF; rw [HF.out, H0.out]; rfl
                have HV := Hid.mk' hv
                clear hv
                go_wp2_with fail
                have B2 := HP.out.1.put i (.bool false)
                rw [arr_set, sK_next _ _ _ _ _ HV.out hin] at B2
                go_roundw
                case rel => exact ⟨i, _, _, rfl, by go_num, rfl, by omega, Hid.mk' (by rw [HE.out, exM, HV.out]; simp), HBP.out.beside (p := ⟨B, i, none⟩) (by show B ≠ w.heap.size; omega) _, ⟨B2, gb_trans HP.out.2 (gb_set _ _ _ _)⟩⟩
                case measure => first | (simp [intOf]; done) | (simp [intOf]; omega)
            · obtain ⟨k, hk⟩ : ∃ k, i = k + 1 := ⟨i - 1, by omega⟩
              have hi0 : (0 : Int) < (i : Int) := by omega
              have hkq : k < q.length := by omega
              have rk0 := HP.out.1.read (arr_at _ k (by omega))
              rw [sK_low _ _ _ _ _ (by omega)] at rk0
              have hkk : (i - 1) = k := by omega
              have HKK := Hid.mk' (And.intro hk hkk)
              have rk : wr.cell? ⟨B, (i - 1), none⟩ = some (.bool (f k)) := by rw [hkk]; exact rk0
              clear hk hkk rk0
              cases hfk : f k with
              | false =>
                rw [hfk] at rk
                have HFK := Hid.mk' hfk
                clear hfk
                cases sm with
                | false =>
                  have hv : G i = false := by rw [HG.out]; unfold stepF; rw [HF.out, HKK.out.1]; simp [HFK.out]
                  have HV := Hid.mk' hv
                  clear hv
                  go_wp2_with fail
                  have B2 := HP.out.1.put i (.bool false)
                  rw [arr_set, sK_next _ _ _ _ _ HV.out hin] at B2
                  go_roundw
                  case rel => exact ⟨i, _, _, rfl, by go_num, rfl, by omega, Hid.mk' (by rw [HE.out, exM, HV.out]; simp), HBP.out.beside (p := ⟨B, i, none⟩) (by show B ≠ w.heap.size; omega) _, ⟨B2, gb_trans HP.out.2 (gb_set _ _ _ _)⟩⟩
                  case measure => first | (simp [intOf]; done) | (simp [intOf]; omega)
                | true =>
                  have hv : G i = false := by rw [HG.out]; unfold stepF; rw [HF.out, HKK.out.1]; simp [HFK.out]
                  have HV := Hid.mk' hv
                  clear hv
                  go_wp2_with fail
                  have B2 := HP.out.1.put i (.bool false)
                  rw [arr_set, sK_next _ _ _ _ _ HV.out hin] at B2
                  go_roundw
                  case rel => exact ⟨i, _, _, rfl, by go_num, rfl, by omega, Hid.mk' (by rw [HE.out, exM, HV.out]; simp), HBP.out.beside (p := ⟨B, i, none⟩) (by show B ≠ w.heap.size; omega) _, ⟨B2, gb_trans HP.out.2 (gb_set _ _ _ _)⟩⟩
                  case measure => first | (simp [intOf]; done) | (simp [intOf]; omega)
              | true =>
                rw [hfk] at rk
                have HFK := Hid.mk' hfk
                clear hfk
                obtain ⟨g, cap, hv, hle, c0, c1, c2⟩ := HPT.out.at k hkq
                cases hv
                obtain ⟨xa, xc, hx⟩ := own_form (HPT.out.2 _ (List.getElem_mem hkq))
                rw [hx] at c2
                have hC := tells_any q[k].1 q[k].2 r (HSP.out _ (List.getElem_mem hkq)) wr (HPT.out.2 _ (List.getElem_mem hkq))
                rw [hx] at hC
                have hte := tell_at q k r hkq
                generalize q[k] = x at *
                obtain ⟨⟨row, nt, sp⟩, xv⟩ := x
                dsimp only at *
                rw [← HKK.out.2] at c0 c1 c2
                cases ht : Prt.tells ⟨row, nt, sp⟩ r with
                | false =>
                  rw [ht] at hC hte
                  have C := Hid.mk' hC
                  have HT := Hid.mk' hte
                  clear hC hte ht hx
                  cases sm with
                  | false =>
                    have hv : G i = false := by rw [HG.out]; unfold stepF; rw [HF.out, HKK.out.1]; simp [HFK.out, HT.out]
                    have HV := Hid.mk' hv
                    clear hv
                    go_wp2_with fail
                    refine C.out.mono ?_; rintro e W2 ⟨rfl, hb2⟩
                    have ri2 := (HP.out.1.next hb2).read (arr_at _ i (by omega))
                    have fi2 := (HP.out.1.next hb2).open_ i
                    have H2 := Hid.mk' (And.intro (HP.out.1.next hb2) (And.intro (gb_trans HP.out.2 (gb_below hb2 (some B))) (HBP.out.next hb2)))
                    clear hb2
                    go_wp2_with fail
                    have B2 := H2.out.1.put i (.bool false)
                    rw [arr_set, sK_next _ _ _ _ _ HV.out hin] at B2
                    go_roundw
                    case rel => exact ⟨i, _, _, rfl, by go_num, rfl, by omega, Hid.mk' (by rw [HE.out, exM, HV.out]; simp), H2.out.2.2.beside (p := ⟨B, i, none⟩) (by show B ≠ w.heap.size; omega) _, ⟨B2, gb_trans H2.out.2.1 (gb_set _ _ _ _)⟩⟩
                    case measure => first | (simp [intOf]; done) | (simp [intOf]; omega)
                  | true =>
                    have hv : G i = false := by rw [HG.out]; unfold stepF; rw [HF.out, HKK.out.1]; simp [HFK.out, HT.out]
                    have HV := Hid.mk' hv
                    clear hv
                    go_wp2_with fail
                    refine C.out.mono ?_; rintro e W2 ⟨rfl, hb2⟩
                    have ri2 := (HP.out.1.next hb2).read (arr_at _ i (by omega))
                    have fi2 := (HP.out.1.next hb2).open_ i
                    have H2 := Hid.mk' (And.intro (HP.out.1.next hb2) (And.intro (gb_trans HP.out.2 (gb_below hb2 (some B))) (HBP.out.next hb2)))
                    clear hb2
                    go_wp2_with fail
                    have B2 := H2.out.1.put i (.bool false)
                    rw [arr_set, sK_next _ _ _ _ _ HV.out hin] at B2
                    go_roundw
                    case rel => exact ⟨i, _, _, rfl, by go_num, rfl, by omega, Hid.mk' (by rw [HE.out, exM, HV.out]; simp), H2.out.2.2.beside (p := ⟨B, i, none⟩) (by show B ≠ w.heap.size; omega) _, ⟨B2, gb_trans H2.out.2.1 (gb_set _ _ _ _)⟩⟩
                    case measure => first | (simp [intOf]; done) | (simp [intOf]; omega)
                | true =>
                  rw [ht] at hC hte
                  have C := Hid.mk' hC
                  have HT := Hid.mk' hte
                  clear hC hte ht hx
                  cases sm with
                  | false =>
                    have hv : G i = true := by rw [HG.out]; unfold stepF; rw [HF.out, HKK.out.1]; simp [HFK.out, HT.out]
                    have HV := Hid.mk' hv
                    clear hv
                    go_wp2_with fail
                    refine C.out.mono ?_; rintro e W2 ⟨rfl, hb2⟩
                    have ri2 := (HP.out.1.next hb2).read (arr_at _ i (by omega))
                    have fi2 := (HP.out.1.next hb2).open_ i
                    have H2 := Hid.mk' (And.intro (HP.out.1.next hb2) (And.intro (gb_trans HP.out.2 (gb_below hb2 (some B))) (HBP.out.next hb2)))
                    clear hb2
                    go_wp2_with fail
                    have B2 := H2.out.1.put i (.bool true)
                    rw [arr_set, sK_next _ _ _ _ _ HV.out hin] at B2
                    go_roundw
                    case rel => exact ⟨i, _, _, rfl, by go_num, rfl, by omega, Hid.mk' (by rw [HE.out, exM, HV.out]; simp), H2.out.2.2.beside (p := ⟨B, i, none⟩) (by show B ≠ w.heap.size; omega) _, ⟨B2, gb_trans H2.out.2.1 (gb_set _ _ _ _)⟩⟩
                    case measure => first | (simp [intOf]; done) | (simp [intOf]; omega)
                  | true =>
                    have hv : G i = true := by rw [HG.out]; unfold stepF; rw [HF.out, HKK.out.1]; simp [HFK.out, HT.out]
                    have HV := Hid.mk' hv
                    clear hv
                    go_wp2_with fail
                    refine C.out.mono ?_; rintro e W2 ⟨rfl, hb2⟩
                    have ri2 := (HP.out.1.next hb2).read (arr_at _ i (by omega))
                    have fi2 := (HP.out.1.next hb2).open_ i
                    have H2 := Hid.mk' (And.intro (HP.out.1.next hb2) (And.intro (gb_trans HP.out.2 (gb_below hb2 (some B))) (HBP.out.next hb2)))
                    clear hb2
                    go_wp2_with fail
                    have B2 := H2.out.1.put i (.bool true)
                    rw [arr_set, sK_next _ _ _ _ _ HV.out hin] at B2
                    go_roundw
                    case rel => exact ⟨i, _, _, rfl, by go_num, rfl, by omega, Hid.mk' (by rw [HE.out, exM, HV.out]; simp), H2.out.2.2.beside (p := ⟨B, i, none⟩) (by show B ≠ w.heap.size; omega) _, ⟨B2, gb_trans H2.out.2.1 (gb_set _ _ _ _)⟩⟩
                    case measure => first | (simp [intOf]; done) | (simp [intOf]; omega)
          | true =>
            have HF := Hid.mk' (show (f i && rowAt (psq q) i) = true by rw [hfi, hrow]; rfl)
            clear hfi hrow
            by_cases h0 : i = 0
            · have hi0 : ¬ (0 : Int) < (i : Int) := by omega
              have H0 := Hid.mk' h0
              clear h0
              cases sm with
              | false =>
                have hv : G i = true := by rw [HG.out]; unfold stepF; rw [HF.out, H0.out]; rfl
                have HV := Hid.mk' hv
                clear hv
                go_wp2_with fail
                have B2 := HP.out.1.put i (.bool true)
                rw [arr_set, sK_next _ _ _ _ _ HV.out hin] at B2
                go_roundw
                case rel => exact ⟨i, _, _, rfl, by go_num, rfl, by omega, Hid.mk' (by rw [HE.out, exM, HV.out]; simp), HBP.out.beside (p := ⟨B, i, none⟩) (by show B ≠ w.heap.size; omega) _, ⟨B2, gb_trans HP.out.2 (gb_set _ _ _ _)⟩⟩
                case measure => first | (simp [intOf]; done) | (simp [intOf]; omega)
              | true =>
                have hv : G i = true := by rw [HG.out]; unfold stepF; rw [HF.out, H0.out]; rfl
                have HV := Hid.mk' hv
                clear hv
                go_wp2_with fail
                have B2 := HP.out.1.put i (.bool true)
                rw [arr_set, sK_next _ _ _ _ _ HV.out hin] at B2
                go_roundw
                case rel => exact ⟨i, _, _, rfl, by go_num, rfl, by omega, Hid.mk' (by rw [HE.out, exM, HV.out]; simp), HBP.out.beside (p := ⟨B, i, none⟩) (by show B ≠ w.heap.size; omega) _, ⟨B2, gb_trans HP.out.2 (gb_set _ _ _ _)⟩⟩
                case measure => first | (simp [intOf]; done) | (simp [intOf]; omega)
            · obtain ⟨k, hk⟩ : ∃ k, i = k + 1 := ⟨i - 1, by omega⟩
              have hi0 : (0 : Int) < (i : Int) := by omega
              have hkq : k < q.length := by omega
              have rk0 := HP.out.1.read (arr_at _ k (by omega))
              rw [sK_low _ _ _ _ _ (by omega)] at rk0
              have hkk : (i - 1) = k := by omega
              have HKK := Hid.mk' (And.intro hk hkk)
              have rk : wr.cell? ⟨B, (i - 1), none⟩ = some (.bool (f k)) := by rw [hkk]; exact rk0
              clear hk hkk rk0
              cases hfk : f k with
              | false =>
                rw [hfk] at rk
                have HFK := Hid.mk' hfk
                clear hfk
                cases sm with
                | false =>
                  have hv : G i = true := by rw [HG.out]; unfold stepF; rw [HF.out, HKK.out.1]; simp [HFK.out]
                  have HV := Hid.mk' hv
                  clear hv
                  go_wp2_with fail
                  have B2 := HP.out.1.put i (.bool true)
                  rw [arr_set, sK_next _ _ _ _ _ HV.out hin] at B2
                  go_roundw
                  case rel => exact ⟨i, _, _, rfl, by go_num, rfl, by omega, Hid.mk' (by rw [HE.out, exM, HV.out]; simp), HBP.out.beside (p := ⟨B, i, none⟩) (by show B ≠ w.heap.size; omega) _, ⟨B2, gb_trans HP.out.2 (gb_set _ _ _ _)⟩⟩
                  case measure => first | (simp [intOf]; done) | (simp [intOf]; omega)
                | true =>
                  have hv : G i = true := by rw [HG.out]; unfold stepF; rw [HF.out, HKK.out.1]; simp [HFK.out]
                  have HV := Hid.mk' hv
                  clear hv
                  go_wp2_with fail
                  have B2 := HP.out.1.put i (.bool true)
                  rw [arr_set, sK_next _ _ _ _ _ HV.out hin] at B2
                  go_roundw
                  case rel => exact ⟨i, _, _, rfl, by go_num, rfl, by omega, Hid.mk' (by rw [HE.out, exM, HV.out]; simp), HBP.out.beside (p := ⟨B, i, none⟩) (by show B ≠ w.heap.size; omega) _, ⟨B2, gb_trans HP.out.2 (gb_set _ _ _ _)⟩⟩
                  case measure => first | (simp [intOf]; done) | (simp [intOf]; omega)
              | true =>
                rw [hfk] at rk
                have HFK := Hid.mk' hfk
                clear hfk
                obtain ⟨g, cap, hv, hle, c0, c1, c2⟩ := HPT.out.at k hkq
                cases hv
                obtain ⟨xa, xc, hx⟩ := own_form (HPT.out.2 _ (List.getElem_mem hkq))
                rw [hx] at c2
                have hC := tells_any q[k].1 q[k].2 r (HSP.out _ (List.getElem_mem hkq)) wr (HPT.out.2 _ (List.getElem_mem hkq))
                rw [hx] at hC
                have hte := tell_at q k r hkq
                generalize q[k] = x at *
                obtain ⟨⟨row, nt, sp⟩, xv⟩ := x
                dsimp only at *
                rw [← HKK.out.2] at c0 c1 c2
                cases ht : Prt.tells ⟨row, nt, sp⟩ r with
                | false =>
                  rw [ht] at hC hte
                  have C := Hid.mk' hC
                  have HT := Hid.mk' hte
                  clear hC hte ht hx
                  cases sm with
                  | false =>
                    have hv : G i = true := by rw [HG.out]; unfold stepF; rw [HF.out, HKK.out.1]; simp [HFK.out, HT.out]
                    have HV := Hid.mk' hv
                    clear hv
                    go_wp2_with fail
                    refine C.out.mono ?_; rintro e W2 ⟨rfl, hb2⟩
                    have ri2 := (HP.out.1.next hb2).read (arr_at _ i (by omega))
                    have fi2 := (HP.out.1.next hb2).open_ i
                    have H2 := Hid.mk' (And.intro (HP.out.1.next hb2) (And.intro (gb_trans HP.out.2 (gb_below hb2 (some B))) (HBP.out.next hb2)))
                    clear hb2
                    go_wp2_with fail
                    have B2 := H2.out.1.put i (.bool true)
                    rw [arr_set, sK_next _ _ _ _ _ HV.out hin] at B2
                    go_roundw
                    case rel => exact ⟨i, _, _, rfl, by go_num, rfl, by omega, Hid.mk' (by rw [HE.out, exM, HV.out]; simp), H2.out.2.2.beside (p := ⟨B, i, none⟩) (by show B ≠ w.heap.size; omega) _, ⟨B2, gb_trans H2.out.2.1 (gb_set _ _ _ _)⟩⟩
                    case measure => first | (simp [intOf]; done) | (simp [intOf]; omega)
                  | true =>
                    have hv : G i = true := by rw [HG.out]; unfold stepF; rw [HF.out, HKK.out.1]; simp [HFK.out, HT.out]
                    have HV := Hid.mk' hv
                    clear hv
                    go_wp2_with fail
                    refine C.out.mono ?_; rintro e W2 ⟨rfl, hb2⟩
                    have ri2 := (HP.out.1.next hb2).read (arr_at _ i (by omega))
                    have fi2 := (HP.out.1.next hb2).open_ i
                    have H2 := Hid.mk' (And.intro (HP.out.1.next hb2) (And.intro (gb_trans HP.out.2 (gb_below hb2 (some B))) (HBP.out.next hb2)))
                    clear hb2
                    go_wp2_with fail
                    have B2 := H2.out.1.put i (.bool true)
                    rw [arr_set, sK_next _ _ _ _ _ HV.out hin] at B2
                    go_roundw
                    case rel => exact ⟨i, _, _, rfl, by go_num, rfl, by omega, Hid.mk' (by rw [HE.out, exM, HV.out]; simp), H2.out.2.2.beside (p := ⟨B, i, none⟩) (by show B ≠ w.heap.size; omega) _, ⟨B2, gb_trans H2.out.2.1 (gb_set _ _ _ _)⟩⟩
                    case measure => first | (simp [intOf]; done) | (simp [intOf]; omega)
                | true =>
                  rw [ht] at hC hte
                  have C := Hid.mk' hC
                  have HT := Hid.mk' hte
                  clear hC hte ht hx
                  cases sm with
                  | false =>
                    have hv : G i = true := by rw [HG.out]; unfold stepF; rw [HF.out, HKK.out.1]; simp [HFK.out, HT.out]
                    have HV := Hid.mk' hv
                    clear hv
                    go_wp2_with fail
                    refine C.out.mono ?_; rintro e W2 ⟨rfl, hb2⟩
                    have ri2 := (HP.out.1.next hb2).read (arr_at _ i (by omega))
                    have fi2 := (HP.out.1.next hb2).open_ i
                    have H2 := Hid.mk' (And.intro (HP.out.1.next hb2) (And.intro (gb_trans HP.out.2 (gb_below hb2 (some B))) (HBP.out.next hb2)))
                    clear hb2
                    go_wp2_with fail
                    have B2 := H2.out.1.put i (.bool true)
                    rw [arr_set, sK_next _ _ _ _ _ HV.out hin] at B2
                    go_roundw
                    case rel => exact ⟨i, _, _, rfl, by go_num, rfl, by omega, Hid.mk' (by rw [HE.out, exM, HV.out]; simp), H2.out.2.2.beside (p := ⟨B, i, none⟩) (by show B ≠ w.heap.size; omega) _, ⟨B2, gb_trans H2.out.2.1 (gb_set _ _ _ _)⟩⟩
                    case measure => first | (simp [intOf]; done) | (simp [intOf]; omega)
                  | true =>
                    have hv : G i = true := by rw [HG.out]; unfold stepF; rw [HF.out, HKK.out.1]; simp [HFK.out, HT.out]
                    have HV := Hid.mk' hv
                    clear hv
                    go_wp2_with fail
                    refine C.out.mono ?_; rintro e W2 ⟨rfl, hb2⟩
                    have ri2 := (HP.out.1.next hb2).read (arr_at _ i (by omega))
                    have fi2 := (HP.out.1.next hb2).open_ i
                    have H2 := Hid.mk' (And.intro (HP.out.1.next hb2) (And.intro (gb_trans HP.out.2 (gb_below hb2 (some B))) (HBP.out.next hb2)))
                    clear hb2
                    go_wp2_with fail
                    have B2 := H2.out.1.put i (.bool true)
                    rw [arr_set, sK_next _ _ _ _ _ HV.out hin] at B2
                    go_roundw
                    case rel => exact ⟨i, _, _, rfl, by go_num, rfl, by omega, Hid.mk' (by rw [HE.out, exM, HV.out]; simp), H2.out.2.2.beside (p := ⟨B, i, none⟩) (by show B ≠ w.heap.size; omega) _, ⟨B2, gb_trans H2.out.2.1 (gb_set _ _ _ _)⟩⟩
                    case measure => first | (simp [intOf]; done) | (simp [intOf]; omega)
        · have hiqz : ¬ (i : Int) < (q.length : Int) := by omega
          have HF := Hid.mk' (show (f i && rowAt (psq q) i) = false by unfold rowAt psq; simp [Nat.not_lt.1 hiq])
          clear hfi hiq
          by_cases h0 : i = 0
          · have hi0 : ¬ (0 : Int) < (i : Int) := by omega
            have H0 := Hid.mk' h0
            clear h0
            cases sm with
            | false =>
              have hv : G i = false := by rw [HG.out]; unfold stepF; rw [HF.out, H0.out]; rfl
              have HV := Hid.mk' hv
              clear hv
              go_wp2_with fail
              have B2 := HP.out.1.put i (.bool false)
              rw [arr_set, sK_next _ _ _ _ _ HV.out hin] at B2
              go_roundw
              case rel => exact ⟨i, _, _, rfl, by go_num, rfl, by omega, Hid.mk' (by rw [HE.out, exM, HV.out]; simp), HBP.out.beside (p := ⟨B, i, none⟩) (by show B ≠ w.heap.size; omega) _, ⟨B2, gb_trans HP.out.2 (gb_set _ _ _ _)⟩⟩
              case measure => first | (simp [intOf]; done) | (simp [intOf]; omega)
            | true =>
              have hv : G i = false := by rw [HG.out]; unfold stepF; rw [HF.out, H0.out]; rfl
              have HV := Hid.mk' hv
              clear hv
              go_wp2_with fail
              have B2 := HP.out.1.put i (.bool false)
              rw [arr_set, sK_next _ _ _ _ _ HV.out hin] at B2
              go_roundw
              case rel => exact ⟨i, _, _, rfl, by go_num, rfl, by omega, Hid.mk' (by rw [HE.out, exM, HV.out]; simp), HBP.out.beside (p := ⟨B, i, none⟩) (by show B ≠ w.heap.size; omega) _, ⟨B2, gb_trans HP.out.2 (gb_set _ _ _ _)⟩⟩
              case measure => first | (simp [intOf]; done) | (simp [intOf]; omega)
          · obtain ⟨k, hk⟩ : ∃ k, i = k + 1 := ⟨i - 1, by omega⟩
            have hi0 : (0 : Int) < (i : Int) := by omega
            have hkq : k < q.length := by omega
            have rk0 := HP.out.1.read (arr_at _ k (by omega))
            rw [sK_low _ _ _ _ _ (by omega)] at rk0
            have hkk : (i - 1) = k := by omega
            have HKK := Hid.mk' (And.intro hk hkk)
            have rk : wr.cell? ⟨B, (i - 1), none⟩ = some (.bool (f k)) := by rw [hkk]; exact rk0
            clear hk hkk rk0
            cases hfk : f k with
            | false =>
              rw [hfk] at rk
              have HFK := Hid.mk' hfk
              clear hfk
              cases sm with
              | false =>
                have hv : G i = false := by rw [HG.out]; unfold stepF; rw [HF.out, HKK.out.1]; simp [HFK.out]
                have HV := Hid.mk' hv
                clear hv
                go_wp2_with fail
                have B2 := HP.out.1.put i (.bool false)
                rw [arr_set, sK_next _ _ _ _ _ HV.out hin] at B2
                go_roundw
                case rel => exact ⟨i, _, _, rfl, by go_num, rfl, by omega, Hid.mk' (by rw [HE.out, exM, HV.out]; simp), HBP.out.beside (p := ⟨B, i, none⟩) (by show B ≠ w.heap.size; omega) _, ⟨B2, gb_trans HP.out.2 (gb_set _ _ _ _)⟩⟩
                case measure => first | (simp [intOf]; done) | (simp [intOf]; omega)
              | true =>
                have hv : G i = false := by rw [HG.out]; unfold stepF; rw [HF.out, HKK.out.1]; simp [HFK.out]
                have HV := Hid.mk' hv
                clear hv
                go_wp2_with fail
                have B2 := HP.out.1.put i (.bool false)
                rw [arr_set, sK_next _ _ _ _ _ HV.out hin] at B2
                go_roundw
                case rel => exact ⟨i, _, _, rfl, by go_num, rfl, by omega, Hid.mk' (by rw [HE.out, exM, HV.out]; simp), HBP.out.beside (p := ⟨B, i, none⟩) (by show B ≠ w.heap.size; omega) _, ⟨B2, gb_trans HP.out.2 (gb_set _ _ _ _)⟩⟩
                case measure => first | (simp [intOf]; done) | (simp [intOf]; omega)
            | true =>
              rw [hfk] at rk
              have HFK := Hid.mk' hfk
              clear hfk
              obtain ⟨g, cap, hv, hle, c0, c1, c2⟩ := HPT.out.at k hkq
              cases hv
              obtain ⟨xa, xc, hx⟩ := own_form (HPT.out.2 _ (List.getElem_mem hkq))
              rw [hx] at c2
              have hC := tells_any q[k].1 q[k].2 r (HSP.out _ (List.getElem_mem hkq)) wr (HPT.out.2 _ (List.getElem_mem hkq))
              rw [hx] at hC
              have hte := tell_at q k r hkq
              generalize q[k] = x at *
              obtain ⟨⟨row, nt, sp⟩, xv⟩ := x
              dsimp only at *
              rw [← HKK.out.2] at c0 c1 c2
              cases ht : Prt.tells ⟨row, nt, sp⟩ r with
              | false =>
                rw [ht] at hC hte
                have C := Hid.mk' hC
                have HT := Hid.mk' hte
                clear hC hte ht hx
                cases sm with
                | false =>
                  have hv : G i = false := by rw [HG.out]; unfold stepF; rw [HF.out, HKK.out.1]; simp [HFK.out, HT.out]
                  have HV := Hid.mk' hv
                  clear hv
                  go_wp2_with fail
                  refine C.out.mono ?_; rintro e W2 ⟨rfl, hb2⟩
                  have ri2 := (HP.out.1.next hb2).read (arr_at _ i (by omega))
                  have fi2 := (HP.out.1.next hb2).open_ i
                  have H2 := Hid.mk' (And.intro (HP.out.1.next hb2) (And.intro (gb_trans HP.out.2 (gb_below hb2 (some B))) (HBP.out.next hb2)))
                  clear hb2
                  go_wp2_with fail
                  have B2 := H2.out.1.put i (.bool false)
                  rw [arr_set, sK_next _ _ _ _ _ HV.out hin] at B2
                  go_roundw
                  case rel => exact ⟨i, _, _, rfl, by go_num, rfl, by omega, Hid.mk' (by rw [HE.out, exM, HV.out]; simp), H2.out.2.2.beside (p := ⟨B, i, none⟩) (by show B ≠ w.heap.size; omega) _, ⟨B2, gb_trans H2.out.2.1 (gb_set _ _ _ _)⟩⟩
                  case measure => first | (simp [intOf]; done) | (simp [intOf]; omega)
                | true =>
                  have hv : G i = false := by rw [HG.out]; unfold stepF; rw [HF.out, HKK.out.1]; simp [HFK.out, HT.out]
                  have HV := Hid.mk' hv
                  clear hv
                  go_wp2_with fail
                  refine C.out.mono ?_; rintro e W2 ⟨rfl, hb2⟩
                  have ri2 := (HP.out.1.next hb2).read (arr_at _ i (by omega))
                  have fi2 := (HP.out.1.next hb2).open_ i
                  have H2 := Hid.mk' (And.intro (HP.out.1.next hb2) (And.intro (gb_trans HP.out.2 (gb_below hb2 (some B))) (HBP.out.next hb2)))
                  clear hb2
                  go_wp2_with fail
                  have B2 := H2.out.1.put i (.bool false)
                  rw [arr_set, sK_next _ _ _ _ _ HV.out hin] at B2
                  go_roundw
                  case rel => exact ⟨i, _, _, rfl, by go_num, rfl, by omega, Hid.mk' (by rw [HE.out, exM, HV.out]; simp), H2.out.2.2.beside (p := ⟨B, i, none⟩) (by show B ≠ w.heap.size; omega) _, ⟨B2, gb_trans H2.out.2.1 (gb_set _ _ _ _)⟩⟩
                  case measure => first | (simp [intOf]; done) | (simp [intOf]; omega)
              | true =>
                rw [ht] at hC hte
                have C := Hid.mk' hC
                have HT := Hid.mk' hte
                clear hC hte ht hx
                cases sm with
                | false =>
                  have hv : G i = true := by rw [HG.out]; unfold stepF; rw [HF.out, HKK.out.1]; simp [HFK.out, HT.out]
                  have HV := Hid.mk' hv
                  clear hv
                  go_wp2_with fail
                  refine C.out.mono ?_; rintro e W2 ⟨rfl, hb2⟩
                  have ri2 := (HP.out.1.next hb2).read (arr_at _ i (by omega))
                  have fi2 := (HP.out.1.next hb2).open_ i
                  have H2 := Hid.mk' (And.intro (HP.out.1.next hb2) (And.intro (gb_trans HP.out.2 (gb_below hb2 (some B))) (HBP.out.next hb2)))
                  clear hb2
                  go_wp2_with fail
                  have B2 := H2.out.1.put i (.bool true)
                  rw [arr_set, sK_next _ _ _ _ _ HV.out hin] at B2
                  go_roundw
                  case rel => exact ⟨i, _, _, rfl, by go_num, rfl, by omega, Hid.mk' (by rw [HE.out, exM, HV.out]; simp), H2.out.2.2.beside (p := ⟨B, i, none⟩) (by show B ≠ w.heap.size; omega) _, ⟨B2, gb_trans H2.out.2.1 (gb_set _ _ _ _)⟩⟩
                  case measure => first | (simp [intOf]; done) | (simp [intOf]; omega)
                | true =>
                  have hv : G i = true := by rw [HG.out]; unfold stepF; rw [HF.out, HKK.out.1]; simp [HFK.out, HT.out]
                  have HV := Hid.mk' hv
                  clear hv
                  go_wp2_with fail
                  refine C.out.mono ?_; rintro e W2 ⟨rfl, hb2⟩
                  have ri2 := (HP.out.1.next hb2).read (arr_at _ i (by omega))
                  have fi2 := (HP.out.1.next hb2).open_ i
                  have H2 := Hid.mk' (And.intro (HP.out.1.next hb2) (And.intro (gb_trans HP.out.2 (gb_below hb2 (some B))) (HBP.out.next hb2)))
                  clear hb2
                  go_wp2_with fail
                  have B2 := H2.out.1.put i (.bool true)
                  rw [arr_set, sK_next _ _ _ _ _ HV.out hin] at B2
                  go_roundw
                  case rel => exact ⟨i, _, _, rfl, by go_num, rfl, by omega, Hid.mk' (by rw [HE.out, exM, HV.out]; simp), H2.out.2.2.beside (p := ⟨B, i, none⟩) (by show B ≠ w.heap.size; omega) _, ⟨B2, gb_trans H2.out.2.1 (gb_set _ _ _ _)⟩⟩
                  case measure => first | (simp [intOf]; done) | (simp [intOf]; omega)
end Go.Proofs.YtfnjmboflegaaaaDoor
