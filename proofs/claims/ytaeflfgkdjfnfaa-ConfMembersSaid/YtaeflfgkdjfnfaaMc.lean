/- Layer 21 (conf): the statement ConfMembers' walk. -/
import Derived.Test.YtaeflfgkdjfnfaaMb
import Derived.Test.YtaeflfgkdjfnfaaE7
namespace Go.Proofs.Ytaeflfgkdjfnfaa
open Go.RowKit
attribute [local irreducible] wpQuiet

set_option maxRecDepth 100000 in
set_option maxHeartbeats 16000000 in
theorem memlaw (c : Cf) (n : Int) (v : Value) (gs : List (List Int)) (w : World) (h : RR w v gs) : Calls Try.prog 6 #[.agg c.cells, .int .i64 n, v] w fun e w' => e = .returned (.bool true) ∧ Below w.heap.size w w' := by
  have hb : Below w.heap.size w (w.alloc (.cells c.cells 39)) := (Below.refl _ _).alloc (Nat.le_refl _) _
  have hx := Bx.fresh w 39 c.cells
  have HB := Lib.hid hb
  have HX := Lib.hid hx
  have HR := Lib.hid (h.next hb)
  have CAL := Lib.hid (fun y W => law_always c y W)
  have CLD := Lib.hid (fun u g hl W hI => cf_leader c u g hl W hI)
  have CMB := Lib.hid (fun u g hl W hI => cf_members c u g hl W hI)
  have CMAY := Lib.hid (fun hl hs W hI => cf_may c n v gs hl hs W hI)
  have CLAW := Lib.hid (fun hl hs W hI => law_may_any c n v gs hl hs W hI)
  have HCELL := Lib.hid (fun W (hW : Below (w.alloc (.cells c.cells 39)).heap.size (w.alloc (.cells c.cells 39)) W) y h1 h2 => cell_out (m := y) (hx.next hW) h1 h2)
  have HOUTN := Lib.hid (fun (y : Int) (hy : y < 0 ∨ 5 ≤ y) => out_no (c := c) hy)
  clear hb hx
  obtain ⟨a, cap, rfl, _⟩ := id h
  clear h
  generalize mayB c n gs = MB at *
  generalize c.out = OUT at *
  generalize c.always = AL at *
  obtain ⟨e, o0, o1, o2, o3, o4, j0, j1, j2, j3, j4⟩ := c
  unfold Cf.cells at *
  dsimp only at *
  by_cases hbig : 20 < gs.length
  · have hb2 : (20 : Int) < (gs.length : Int) := by omega
    go_enter Try.func6, Try.ntmps6
    go_wp2_with fail
    go_ret
    exact ⟨rfl, HB.out⟩
  · have hb2 : ¬ (20 : Int) < (gs.length : Int) := by omega
    go_enter Try.func6, Try.ntmps6
    go_wp2_with fail
    generalize hW0 : w.alloc (.cells #[.int .i64 e, .bool o0, .bool o1, .bool o2, .bool o3, .bool o4, .int .i64 j0, .int .i64 j1, .int .i64 j2, .int .i64 j3, .int .i64 j4] 39) = W0 at *
    clear hW0
    go_loopw [7] (fun iv wr => ∃ (i : Nat), iv = .int .i64 i ∧ i ≤ gs.length ∧ Hid ((∀ t (ht : t < gs.length), t < i → (gs[t]).length ≤ 20) ∧ Below W0.heap.size W0 wr)) (fun iv _ => gs.length - (intOf iv).toNat)
    case atStart => exact ⟨0, rfl, Nat.zero_le _, Lib.hid ⟨fun t _ ht => absurd ht (Nat.not_lt_zero _), Below.refl _ _⟩⟩
    case round =>
      obtain ⟨i, rfl, hil, HS⟩ := hrel
      by_cases hlt : i < gs.length
      · have hi1 : (i : Int) < (gs.length : Int) := by omega
        obtain ⟨a', cap', hv, hc⟩ := HR.out.next HS.out.2
        obtain ⟨b, off, ha, hcell⟩ := hc (fun e => by rw [e] at hlt; simp at hlt)
        subst ha
        cases hv
        obtain ⟨u, x0, hu⟩ := hcell i hlt
        have HNX : Hid (gs[i].length ≤ 20 → ∀ t (ht : t < gs.length), t < i + 1 → (gs[t]).length ≤ 20) := Lib.hid (fun e t ht hti => by
          by_cases h3 : t < i
          · exact HS.out.1 t ht h3
          · have : t = i := by omega
            subst this
            exact e)
        clear hcell hc
        generalize gs[i] = g at *
        obtain ⟨ua, uc, rfl, _⟩ := id hu
        have HU := Lib.hid x0
        have HG := Lib.hid hu
        clear hu
        by_cases hgb : 20 < g.length
        · have hgb2 : (20 : Int) < (g.length : Int) := by omega
          go_wp2_with fail
          go_ret
          exact ⟨rfl, bnext HB.out HS.out.2⟩
        · have hgb2 : ¬ (20 : Int) < (g.length : Int) := by omega
          have hgl : g.length ≤ 20 := by omega
          have HNX2 := Lib.hid (HNX.out hgl)
          clear HNX hgb
          go_wp2_with fail
          rename World => wo
          go_loopw [8, 9, 10, 11] (fun av lv sv kv wi => ∃ (k : Nat) (sm : Bool) (ld : Int) (v8 : Value), kv = .int .i64 k ∧ v8 = av ∧ lv = .int .i64 ld ∧ sv = .bool sm ∧ k ≤ g.length ∧ Hid (IO wi wo.heap.size v8 (kept OUT (g.take k)) ∧ (ld, sm) = fst AL (g.take k) ∧ Below wo.heap.size wo wi)) (fun _ _ _ kv _ => g.length - (intOf kv).toNat)
          case atStart => exact ⟨0, false, 0, _, rfl, rfl, rfl, rfl, Nat.zero_le _, Lib.hid ⟨⟨rfl, .inl ⟨rfl, rfl⟩⟩, rfl, Below.refl _ _⟩⟩
          case round =>
            obtain ⟨k, sm, ld, v8, rfl, rfl, rfl, rfl, hkl, HT⟩ := hrel
            rename World => wi
            by_cases hltk : k < g.length
            · skip
              have hi2 : (k : Int) < (g.length : Int) := by omega
              obtain ⟨ua', uc', hv', hc'⟩ := (HG.out.next HT.out.2.2)
              obtain ⟨ub, uo, ha', hcell'⟩ := hc' (fun e => by rw [e] at hltk; simp at hltk)
              subst ha'
              cases hv'
              have hy0 := hcell' k hltk
              have hu0 := cell_nxe HT.out.2.2 HU.out
              have HBX := Lib.hid (HX.out.next (bnext HS.out.2 HT.out.2.2))
              have CA := Lib.hid (CAL.out g[k])
              have HKT := Lib.hid (kept_take OUT g k hltk)
              have HFS := Lib.hid (fst_snoc AL g k hltk)
              have HOFF := Lib.hid (fst_off AL (g.take k))
              have HCO := Lib.hid (fun (h1 : 0 ≤ g[k]) (h2 : g[k] < 5) => HCELL.out wi (bnext HS.out.2 HT.out.2.2) g[k] h1 h2)
              have HNO := Lib.hid (HOUTN.out g[k])
              have HKL := Lib.hid (show (kept OUT (g.take k)).length ≤ 1000 by have := kept_le OUT (g.take k); rw [List.length_take] at this; omega)
              have HQ := Lib.hid HT.out.2.1
              rw [← HQ.out] at HFS HOFF
              clear hcell' hc'
              generalize g[k] = y at *
              generalize kept OUT (g.take k) = K0 at *
              generalize AL y = q at *
              dsimp only at HFS HOFF
              rcases (show y < 0 ∨ (0 ≤ y ∧ 5 ≤ y) ∨ (0 ≤ y ∧ y < 5) from by omega) with hy | ⟨hy, hy2⟩ | ⟨hy, hy2⟩
              · skip
                have d1 : decide (0 ≤ y) = false := by rw [decide_eq_false_iff_not]; omega
                have hpo := HNO.out (.inl hy)
                have HN : Hid (IO wi wo.heap.size v8 (kept OUT (g.take (k + 1))) ∧ Below wo.heap.size wo wi) := Lib.hid ⟨by rw [HKT.out, if_pos (hpo), List.append_nil]; exact HT.out.1, HT.out.2.2⟩
                clear HKT HNO HCO hpo hy
                cases sm with
                | true =>
                  have HF2 : Hid ((ld, true) = fst AL (g.take (k + 1))) := Lib.hid (by rw [HFS.out, if_pos rfl])
                  clear HFS HOFF CA
                  go_wp2_with fail
                  go_roundw
                  case rel => exact ⟨k + 1, true, ld, v8, by go_num, rfl, rfl, rfl, by omega, Lib.hid ⟨HN.out.1, HF2.out, HN.out.2⟩⟩
                  case measure => simp [intOf]; omega
                | false =>
                  have hld := HOFF.out rfl
                  subst hld
                  obtain ⟨x0, x1, x2, x3, x4, x5, x6, x7, x8, x9, x10⟩ := (HX.out.next (bnext HS.out.2 HN.out.2)).reads11
                  cases q with
                  | true =>
                    have HF2 : Hid ((y, true) = fst AL (g.take (k + 1))) := Lib.hid (by rw [HFS.out, if_neg (by simp), if_pos rfl])
                    clear HFS HOFF
                    go_wp2_with fail
                    refine (CA.out _).mono ?_; rintro _ w9 ⟨rfl, hb9⟩
                    have HN9 := Lib.hid (show IO w9 wo.heap.size v8 (kept OUT (g.take (k + 1))) ∧ Below wo.heap.size wo w9 from ⟨HN.out.1.next hb9, bnext HN.out.2 hb9⟩)
                    clear hb9 x0 x1 x2 x3 x4 x5 x6 x7 x8 x9 x10
                    go_wp2_with fail
                    go_roundw
                    case rel => exact ⟨k + 1, true, y, v8, by go_num, rfl, rfl, rfl, by omega, Lib.hid ⟨HN9.out.1, HF2.out, HN9.out.2⟩⟩
                    case measure => simp [intOf]; omega
                  | false =>
                    have HF2 : Hid (((0 : Int), false) = fst AL (g.take (k + 1))) := Lib.hid (by rw [HFS.out, if_neg (by simp), if_neg (by simp)])
                    clear HFS HOFF
                    go_wp2_with fail
                    refine (CA.out _).mono ?_; rintro _ w9 ⟨rfl, hb9⟩
                    have HN9 := Lib.hid (show IO w9 wo.heap.size v8 (kept OUT (g.take (k + 1))) ∧ Below wo.heap.size wo w9 from ⟨HN.out.1.next hb9, bnext HN.out.2 hb9⟩)
                    clear hb9 x0 x1 x2 x3 x4 x5 x6 x7 x8 x9 x10
                    go_wp2_with fail
                    go_roundw
                    case rel => exact ⟨k + 1, false, 0, v8, by go_num, rfl, rfl, rfl, by omega, Lib.hid ⟨HN9.out.1, HF2.out, HN9.out.2⟩⟩
                    case measure => simp [intOf]; omega
              · skip
                have d1 : decide (0 ≤ y) = true := by rw [decide_eq_true_eq]; omega
                have d2 : decide (y < 5) = false := by rw [decide_eq_false_iff_not]; omega
                have hpo := HNO.out (.inr hy2)
                have HN : Hid (IO wi wo.heap.size v8 (kept OUT (g.take (k + 1))) ∧ Below wo.heap.size wo wi) := Lib.hid ⟨by rw [HKT.out, if_pos (hpo), List.append_nil]; exact HT.out.1, HT.out.2.2⟩
                clear HKT HNO HCO hpo hy hy2
                cases sm with
                | true =>
                  have HF2 : Hid ((ld, true) = fst AL (g.take (k + 1))) := Lib.hid (by rw [HFS.out, if_pos rfl])
                  clear HFS HOFF CA
                  go_wp2_with fail
                  go_roundw
                  case rel => exact ⟨k + 1, true, ld, v8, by go_num, rfl, rfl, rfl, by omega, Lib.hid ⟨HN.out.1, HF2.out, HN.out.2⟩⟩
                  case measure => simp [intOf]; omega
                | false =>
                  have hld := HOFF.out rfl
                  subst hld
                  obtain ⟨x0, x1, x2, x3, x4, x5, x6, x7, x8, x9, x10⟩ := (HX.out.next (bnext HS.out.2 HN.out.2)).reads11
                  cases q with
                  | true =>
                    have HF2 : Hid ((y, true) = fst AL (g.take (k + 1))) := Lib.hid (by rw [HFS.out, if_neg (by simp), if_pos rfl])
                    clear HFS HOFF
                    go_wp2_with fail
                    refine (CA.out _).mono ?_; rintro _ w9 ⟨rfl, hb9⟩
                    have HN9 := Lib.hid (show IO w9 wo.heap.size v8 (kept OUT (g.take (k + 1))) ∧ Below wo.heap.size wo w9 from ⟨HN.out.1.next hb9, bnext HN.out.2 hb9⟩)
                    clear hb9 x0 x1 x2 x3 x4 x5 x6 x7 x8 x9 x10
                    go_wp2_with fail
                    go_roundw
                    case rel => exact ⟨k + 1, true, y, v8, by go_num, rfl, rfl, rfl, by omega, Lib.hid ⟨HN9.out.1, HF2.out, HN9.out.2⟩⟩
                    case measure => simp [intOf]; omega
                  | false =>
                    have HF2 : Hid (((0 : Int), false) = fst AL (g.take (k + 1))) := Lib.hid (by rw [HFS.out, if_neg (by simp), if_neg (by simp)])
                    clear HFS HOFF
                    go_wp2_with fail
                    refine (CA.out _).mono ?_; rintro _ w9 ⟨rfl, hb9⟩
                    have HN9 := Lib.hid (show IO w9 wo.heap.size v8 (kept OUT (g.take (k + 1))) ∧ Below wo.heap.size wo w9 from ⟨HN.out.1.next hb9, bnext HN.out.2 hb9⟩)
                    clear hb9 x0 x1 x2 x3 x4 x5 x6 x7 x8 x9 x10
                    go_wp2_with fail
                    go_roundw
                    case rel => exact ⟨k + 1, false, 0, v8, by go_num, rfl, rfl, rfl, by omega, Lib.hid ⟨HN9.out.1, HF2.out, HN9.out.2⟩⟩
                    case measure => simp [intOf]; omega
              · have xo := HCO.out hy hy2
                cases ho : OUT y with
                | true =>
                  rw [ho] at xo
                  have HN : Hid (IO wi wo.heap.size v8 (kept OUT (g.take (k + 1))) ∧ Below wo.heap.size wo wi) := Lib.hid ⟨by rw [HKT.out, if_pos (ho), List.append_nil]; exact HT.out.1, HT.out.2.2⟩
                  clear HKT HNO HCO ho
                  cases sm with
                  | true =>
                    have HF2 : Hid ((ld, true) = fst AL (g.take (k + 1))) := Lib.hid (by rw [HFS.out, if_pos rfl])
                    clear HFS HOFF CA
                    go_wp2_with fail
                    go_roundw
                    case rel => exact ⟨k + 1, true, ld, v8, by go_num, rfl, rfl, rfl, by omega, Lib.hid ⟨HN.out.1, HF2.out, HN.out.2⟩⟩
                    case measure => simp [intOf]; omega
                  | false =>
                    have hld := HOFF.out rfl
                    subst hld
                    obtain ⟨x0, x1, x2, x3, x4, x5, x6, x7, x8, x9, x10⟩ := (HX.out.next (bnext HS.out.2 HN.out.2)).reads11
                    cases q with
                    | true =>
                      have HF2 : Hid ((y, true) = fst AL (g.take (k + 1))) := Lib.hid (by rw [HFS.out, if_neg (by simp), if_pos rfl])
                      clear HFS HOFF
                      go_wp2_with fail
                      refine (CA.out _).mono ?_; rintro _ w9 ⟨rfl, hb9⟩
                      have HN9 := Lib.hid (show IO w9 wo.heap.size v8 (kept OUT (g.take (k + 1))) ∧ Below wo.heap.size wo w9 from ⟨HN.out.1.next hb9, bnext HN.out.2 hb9⟩)
                      clear hb9 x0 x1 x2 x3 x4 x5 x6 x7 x8 x9 x10
                      go_wp2_with fail
                      go_roundw
                      case rel => exact ⟨k + 1, true, y, v8, by go_num, rfl, rfl, rfl, by omega, Lib.hid ⟨HN9.out.1, HF2.out, HN9.out.2⟩⟩
                      case measure => simp [intOf]; omega
                    | false =>
                      have HF2 : Hid (((0 : Int), false) = fst AL (g.take (k + 1))) := Lib.hid (by rw [HFS.out, if_neg (by simp), if_neg (by simp)])
                      clear HFS HOFF
                      go_wp2_with fail
                      refine (CA.out _).mono ?_; rintro _ w9 ⟨rfl, hb9⟩
                      have HN9 := Lib.hid (show IO w9 wo.heap.size v8 (kept OUT (g.take (k + 1))) ∧ Below wo.heap.size wo w9 from ⟨HN.out.1.next hb9, bnext HN.out.2 hb9⟩)
                      clear hb9 x0 x1 x2 x3 x4 x5 x6 x7 x8 x9 x10
                      go_wp2_with fail
                      go_roundw
                      case rel => exact ⟨k + 1, false, 0, v8, by go_num, rfl, rfl, rfl, by omega, Lib.hid ⟨HN9.out.1, HF2.out, HN9.out.2⟩⟩
                      case measure => simp [intOf]; omega
                | false =>
                  rw [ho] at xo
                  have HK1 : Hid (kept OUT (g.take (k + 1)) = K0 ++ [y]) := Lib.hid (by rw [HKT.out, if_neg (by rw [ho]; simp)])
                  have HTA : Hid (IO wi wo.heap.size v8 K0 ∧ Below wo.heap.size wo wi) := Lib.hid ⟨HT.out.1, HT.out.2.2⟩
                  clear HKT HNO HCO ho
                  go_wp2_with (at_builtin; refine wpList_appI (W0 := wo) rfl (.tmp 59) (.tmp 61) rfl v8 K0 y rfl rfl HTA.out (by have := HKL.out; omega) ?_)
                  intro v' w' HA
                  have HN : Hid (IO w' wo.heap.size v' (kept OUT (g.take (k + 1))) ∧ Below wo.heap.size wo w') := Lib.hid (by rw [HK1.out]; exact HA.out)
                  clear HA HTA HK1 xo
                  cases sm with
                  | true =>
                    have HF2 : Hid ((ld, true) = fst AL (g.take (k + 1))) := Lib.hid (by rw [HFS.out, if_pos rfl])
                    clear HFS HOFF CA
                    go_wp2_with fail
                    go_roundw
                    case rel => exact ⟨k + 1, true, ld, v', by go_num, rfl, rfl, rfl, by omega, Lib.hid ⟨HN.out.1, HF2.out, HN.out.2⟩⟩
                    case measure => simp [intOf]; omega
                  | false =>
                    have hld := HOFF.out rfl
                    subst hld
                    obtain ⟨x0, x1, x2, x3, x4, x5, x6, x7, x8, x9, x10⟩ := (HX.out.next (bnext HS.out.2 HN.out.2)).reads11
                    cases q with
                    | true =>
                      have HF2 : Hid ((y, true) = fst AL (g.take (k + 1))) := Lib.hid (by rw [HFS.out, if_neg (by simp), if_pos rfl])
                      clear HFS HOFF
                      go_wp2_with fail
                      refine (CA.out _).mono ?_; rintro _ w9 ⟨rfl, hb9⟩
                      have HN9 := Lib.hid (show IO w9 wo.heap.size v' (kept OUT (g.take (k + 1))) ∧ Below wo.heap.size wo w9 from ⟨HN.out.1.next hb9, bnext HN.out.2 hb9⟩)
                      clear hb9 x0 x1 x2 x3 x4 x5 x6 x7 x8 x9 x10
                      go_wp2_with fail
                      go_roundw
                      case rel => exact ⟨k + 1, true, y, v', by go_num, rfl, rfl, rfl, by omega, Lib.hid ⟨HN9.out.1, HF2.out, HN9.out.2⟩⟩
                      case measure => simp [intOf]; omega
                    | false =>
                      have HF2 : Hid (((0 : Int), false) = fst AL (g.take (k + 1))) := Lib.hid (by rw [HFS.out, if_neg (by simp), if_neg (by simp)])
                      clear HFS HOFF
                      go_wp2_with fail
                      refine (CA.out _).mono ?_; rintro _ w9 ⟨rfl, hb9⟩
                      have HN9 := Lib.hid (show IO w9 wo.heap.size v' (kept OUT (g.take (k + 1))) ∧ Below wo.heap.size wo w9 from ⟨HN.out.1.next hb9, bnext HN.out.2 hb9⟩)
                      clear hb9 x0 x1 x2 x3 x4 x5 x6 x7 x8 x9 x10
                      go_wp2_with fail
                      go_roundw
                      case rel => exact ⟨k + 1, false, 0, v', by go_num, rfl, rfl, rfl, by omega, Lib.hid ⟨HN9.out.1, HF2.out, HN9.out.2⟩⟩
                      case measure => simp [intOf]; omega

            · skip
              obtain rfl : k = g.length := by omega
              have hi2 : ¬ (g.length : Int) < (g.length : Int) := by omega
              have hu0 := cell_nxe HT.out.2.2 HU.out
              have HLD : Hid (fst AL g = (ld, sm)) := Lib.hid (by rw [HT.out.2.1, List.take_length])
              have HV8 : Hid (IN wi v8 (kept OUT g)) := Lib.hid (by have := HT.out.1.in_; rw [List.take_length] at this; exact this)
              have HBW := Lib.hid (bnext HS.out.2 HT.out.2.2)
              have HGI := Lib.hid (HG.out.next HT.out.2.2)
              have HXI := Lib.hid (HX.out.next HBW.out)
              have m0 : ∀ d os, (Go.Sort.grow (Go.redrawn wi d) os).cell? ⟨w.heap.size, 0, none⟩ = some (.int .i64 e) := fun d os => Go.cell_regrown (HXI.out.read rfl) d os
              have m1 : ∀ d os, (Go.Sort.grow (Go.redrawn wi d) os).cell? ⟨w.heap.size, 1, none⟩ = some (.bool o0) := fun d os => Go.cell_regrown (HXI.out.read rfl) d os
              have m2 : ∀ d os, (Go.Sort.grow (Go.redrawn wi d) os).cell? ⟨w.heap.size, 2, none⟩ = some (.bool o1) := fun d os => Go.cell_regrown (HXI.out.read rfl) d os
              have m3 : ∀ d os, (Go.Sort.grow (Go.redrawn wi d) os).cell? ⟨w.heap.size, 3, none⟩ = some (.bool o2) := fun d os => Go.cell_regrown (HXI.out.read rfl) d os
              have m4 : ∀ d os, (Go.Sort.grow (Go.redrawn wi d) os).cell? ⟨w.heap.size, 4, none⟩ = some (.bool o3) := fun d os => Go.cell_regrown (HXI.out.read rfl) d os
              have m5 : ∀ d os, (Go.Sort.grow (Go.redrawn wi d) os).cell? ⟨w.heap.size, 5, none⟩ = some (.bool o4) := fun d os => Go.cell_regrown (HXI.out.read rfl) d os
              have m6 : ∀ d os, (Go.Sort.grow (Go.redrawn wi d) os).cell? ⟨w.heap.size, 6, none⟩ = some (.int .i64 j0) := fun d os => Go.cell_regrown (HXI.out.read rfl) d os
              have m7 : ∀ d os, (Go.Sort.grow (Go.redrawn wi d) os).cell? ⟨w.heap.size, 7, none⟩ = some (.int .i64 j1) := fun d os => Go.cell_regrown (HXI.out.read rfl) d os
              have m8 : ∀ d os, (Go.Sort.grow (Go.redrawn wi d) os).cell? ⟨w.heap.size, 8, none⟩ = some (.int .i64 j2) := fun d os => Go.cell_regrown (HXI.out.read rfl) d os
              have m9 : ∀ d os, (Go.Sort.grow (Go.redrawn wi d) os).cell? ⟨w.heap.size, 9, none⟩ = some (.int .i64 j3) := fun d os => Go.cell_regrown (HXI.out.read rfl) d os
              have m10 : ∀ d os, (Go.Sort.grow (Go.redrawn wi d) os).cell? ⟨w.heap.size, 10, none⟩ = some (.int .i64 j4) := fun d os => Go.cell_regrown (HXI.out.read rfl) d os
              have m11 : ∀ d os, (Go.Sort.grow (Go.redrawn wi d) os).cell? ⟨b, off + i, none⟩ = some (.slice ua g.length uc) := fun d os => Go.cell_regrown hu0 d os
              have CL1 := Lib.hid (fun d os => Calls.regrown_of (d := d) (os := os) (CLD.out (.slice ua g.length uc) g (by omega) (Go.Sort.grow (Go.redrawn wi d) os) (HGI.out.next (Go.below_regrown wi d os))))
              rw [HLD.out] at CL1
              dsimp only at CL1
              clear HT
              go_wp2_with fail
              refine Go.wp_region_quiet_below (by kernel_rfl) (by kernel_rfl) ?_
              repeat (quiet_step (first | with_reducible exact CL1.out _ _))
              refine wpQuiet_nil ?_
              intro _ hw'
              obtain ⟨⟨dq, osq⟩, hw''⟩ := hw'
              subst hw''
              have hbq := Go.below_regrown wi dq osq
              have HU9 := Lib.hid (cell_nxe hbq hu0)
              have HP9 := Lib.hid (And.intro (HV8.out.next hbq) (And.intro (HGI.out.next hbq) (And.intro (HXI.out.next hbq) (bnext HBW.out hbq))))
              clear hbq hu0 m0 m1 m2 m3 m4 m5 m6 m7 m8 m9 m10 m11 CL1 HV8 HGI HXI HBW
              generalize Go.Sort.grow (Go.redrawn wi dq) osq = W9 at *
              have hnl : (ld != ld) = false := by simp
              have hns : (sm != sm) = false := by simp
              go_wp2_with fail
              have HS0 : Hid ((fun W : World => (W.cell? ⟨w.heap.size, 0, none⟩ = some (.int .i64 e) ∧ W.cell? ⟨w.heap.size, 1, none⟩ = some (.bool o0) ∧ W.cell? ⟨w.heap.size, 2, none⟩ = some (.bool o1) ∧ W.cell? ⟨w.heap.size, 3, none⟩ = some (.bool o2) ∧ W.cell? ⟨w.heap.size, 4, none⟩ = some (.bool o3) ∧ W.cell? ⟨w.heap.size, 5, none⟩ = some (.bool o4) ∧ W.cell? ⟨w.heap.size, 6, none⟩ = some (.int .i64 j0) ∧ W.cell? ⟨w.heap.size, 7, none⟩ = some (.int .i64 j1) ∧ W.cell? ⟨w.heap.size, 8, none⟩ = some (.int .i64 j2) ∧ W.cell? ⟨w.heap.size, 9, none⟩ = some (.int .i64 j3) ∧ W.cell? ⟨w.heap.size, 10, none⟩ = some (.int .i64 j4)) ∧ W.cell? ⟨b, off + i, none⟩ = some (.slice ua g.length uc)) W9.drew) := Lib.hid ⟨(HP9.out.2.2.1.drawn 1).reads11, HU9.out⟩
              have HD9 : Hid (IN W9.drew v8 (kept OUT g) ∧ IN W9.drew (.slice ua g.length uc) g ∧ Bx W9.drew w.heap.size 39 #[.int .i64 e, .bool o0, .bool o1, .bool o2, .bool o3, .bool o4, .int .i64 j0, .int .i64 j1, .int .i64 j2, .int .i64 j3, .int .i64 j4] ∧ Below W0.heap.size W0 W9.drew) := Lib.hid ⟨HP9.out.1.next ((Below.refl _ _).drew), HP9.out.2.1.next ((Below.refl _ _).drew), HP9.out.2.2.1, HP9.out.2.2.2.drew⟩
              go_region_held3 (fun W : World => (W.cell? ⟨w.heap.size, 0, none⟩ = some (.int .i64 e) ∧ W.cell? ⟨w.heap.size, 1, none⟩ = some (.bool o0) ∧ W.cell? ⟨w.heap.size, 2, none⟩ = some (.bool o1) ∧ W.cell? ⟨w.heap.size, 3, none⟩ = some (.bool o2) ∧ W.cell? ⟨w.heap.size, 4, none⟩ = some (.bool o3) ∧ W.cell? ⟨w.heap.size, 5, none⟩ = some (.bool o4) ∧ W.cell? ⟨w.heap.size, 6, none⟩ = some (.int .i64 j0) ∧ W.cell? ⟨w.heap.size, 7, none⟩ = some (.int .i64 j1) ∧ W.cell? ⟨w.heap.size, 8, none⟩ = some (.int .i64 j2) ∧ W.cell? ⟨w.heap.size, 9, none⟩ = some (.int .i64 j3) ∧ W.cell? ⟨w.heap.size, 10, none⟩ = some (.int .i64 j4)) ∧ W.cell? ⟨b, off + i, none⟩ = some (.slice ua g.length uc))
                (first | assumption | exact HS0.out | exact HS7.out | exact HS6.out)
                (first
                  | (go_at_call 30; refine (iequal_yes v6 v8 (kept OUT g) (by have := kept_le OUT g; omega) w6 HA6.out.1 HA6.out.2.1).mono ?_; rintro _ w7 ⟨rfl, hb7⟩; have HA7 := Lib.hid (And.intro (HA6.out.2.2.1.next hb7) (And.intro (cell_nxe hb7 HA6.out.2.2.2.1) (bnext HA6.out.2.2.2.2 hb7))); have HS7 := Lib.hid (And.intro HA7.out.1.reads11 HA7.out.2.1); clear hb7)
                  | (go_at_call 31; refine (CMB.out (.slice ua g.length uc) g (by omega) _ HD9.out.2.1).mono ?_; rintro _ w6 ⟨v6, rfl, hI6, hb6⟩; have HA6 := Lib.hid (And.intro hI6 (And.intro (HD9.out.1.next hb6) (And.intro (HD9.out.2.2.1.next hb6) (And.intro (cell_nxe hb6 HS0.out.2) (bnext HD9.out.2.2.2 hb6))))); have HS6 := Lib.hid (And.intro HA6.out.2.2.1.reads11 HA6.out.2.2.2.1); clear hI6 hb6)
                  | fail)
              have HF := Lib.hid HA7.out.2.2
              clear HA6 HA7 HS6 HS7 HS0 HD9 HP9 HU9
              go_wp2_with fail
              go_roundw
              case rel => exact ⟨i + 1, by go_num, by omega, Lib.hid ⟨HNX2.out, HF.out⟩⟩
              case measure => simp [intOf]; omega
      · skip
        obtain rfl : i = gs.length := by omega
        have hi1 : ¬ (gs.length : Int) < (gs.length : Int) := by omega
        have hall : ∀ g ∈ gs, g.length ≤ 1000 := fun g hg => by
          obtain ⟨t, ht, rfl⟩ := List.mem_iff_getElem.1 hg
          have := HS.out.1 t ht (by omega)
          omega
        have HRR := Lib.hid (HR.out.next HS.out.2)
        have HXX := Lib.hid (HX.out.next HS.out.2)
        have m0 : ∀ d os, (Go.Sort.grow (Go.redrawn wr d) os).cell? ⟨w.heap.size, 0, none⟩ = some (.int .i64 e) := fun d os => Go.cell_regrown (HXX.out.read rfl) d os
        have m1 : ∀ d os, (Go.Sort.grow (Go.redrawn wr d) os).cell? ⟨w.heap.size, 1, none⟩ = some (.bool o0) := fun d os => Go.cell_regrown (HXX.out.read rfl) d os
        have m2 : ∀ d os, (Go.Sort.grow (Go.redrawn wr d) os).cell? ⟨w.heap.size, 2, none⟩ = some (.bool o1) := fun d os => Go.cell_regrown (HXX.out.read rfl) d os
        have m3 : ∀ d os, (Go.Sort.grow (Go.redrawn wr d) os).cell? ⟨w.heap.size, 3, none⟩ = some (.bool o2) := fun d os => Go.cell_regrown (HXX.out.read rfl) d os
        have m4 : ∀ d os, (Go.Sort.grow (Go.redrawn wr d) os).cell? ⟨w.heap.size, 4, none⟩ = some (.bool o3) := fun d os => Go.cell_regrown (HXX.out.read rfl) d os
        have m5 : ∀ d os, (Go.Sort.grow (Go.redrawn wr d) os).cell? ⟨w.heap.size, 5, none⟩ = some (.bool o4) := fun d os => Go.cell_regrown (HXX.out.read rfl) d os
        have m6 : ∀ d os, (Go.Sort.grow (Go.redrawn wr d) os).cell? ⟨w.heap.size, 6, none⟩ = some (.int .i64 j0) := fun d os => Go.cell_regrown (HXX.out.read rfl) d os
        have m7 : ∀ d os, (Go.Sort.grow (Go.redrawn wr d) os).cell? ⟨w.heap.size, 7, none⟩ = some (.int .i64 j1) := fun d os => Go.cell_regrown (HXX.out.read rfl) d os
        have m8 : ∀ d os, (Go.Sort.grow (Go.redrawn wr d) os).cell? ⟨w.heap.size, 8, none⟩ = some (.int .i64 j2) := fun d os => Go.cell_regrown (HXX.out.read rfl) d os
        have m9 : ∀ d os, (Go.Sort.grow (Go.redrawn wr d) os).cell? ⟨w.heap.size, 9, none⟩ = some (.int .i64 j3) := fun d os => Go.cell_regrown (HXX.out.read rfl) d os
        have m10 : ∀ d os, (Go.Sort.grow (Go.redrawn wr d) os).cell? ⟨w.heap.size, 10, none⟩ = some (.int .i64 j4) := fun d os => Go.cell_regrown (HXX.out.read rfl) d os
        have C1 := Lib.hid (fun d os => Calls.regrown_of (d := d) (os := os) (CMAY.out (by omega) hall (Go.Sort.grow (Go.redrawn wr d) os) (HRR.out.next (Go.below_regrown wr d os))))
        have C2 := Lib.hid (fun d os => Calls.regrown_of (d := d) (os := os) (CLAW.out (by omega) hall (Go.Sort.grow (Go.redrawn wr d) os) (HRR.out.next (Go.below_regrown wr d os))))
        have C3 := Lib.hid (fun d os => Calls.regrown_of (d := d) (os := os) (alive21_any (Go.Sort.grow (Go.redrawn wr d) os)))
        have hmb : (MB == MB) = true := by simp
        clear hall
        go_wp2_with fail
        refine Go.wp_region_quiet_below (by kernel_rfl) (by kernel_rfl) ?_
        repeat (quiet_step (first | with_reducible exact C1.out _ _ | with_reducible exact C2.out _ _ | with_reducible exact C3.out _ _))
        refine wpQuiet_nil ?_
        intro _ hw'
        obtain ⟨⟨dq, osq⟩, hw''⟩ := hw'
        subst hw''
        have HF := Lib.hid (bnext (bnext HB.out HS.out.2) (Go.below_regrown wr dq osq))
        clear m0 m1 m2 m3 m4 m5 m6 m7 m8 m9 m10
        go_wp2_with fail
        go_ret
        exact ⟨rfl, HF.out⟩
theorem memlaw' (v : Value) (n : Int) (vg : Value) (w : World) (hv : ConfV v) (h : ∃ gs, RR w vg gs) : Calls Try.prog 6 #[v, .int .i64 n, vg] w fun e w' => e = .returned (.bool true) ∧ Below w.heap.size w w' := by
  obtain ⟨e, o0, o1, o2, o3, o4, j0, j1, j2, j3, j4, rfl, _⟩ := hv
  obtain ⟨gs, h⟩ := h
  exact memlaw ⟨e, o0, o1, o2, o3, o4, j0, j1, j2, j3, j4⟩ n vg gs w h
end Go.Proofs.Ytaeflfgkdjfnfaa
