/- Layer 38 (glob): a class, by definition: a hat. -/
import Derived.Test.YtfnjmboflegaaaaDoorGn
import Derived.Deep.RegionLaw
namespace Go.Proofs.YtfnjmboflegaaaaDoor
open Go.RowKit

set_option maxRecDepth 100000 in
set_option maxHeartbeats 8000000 in
theorem rclass_hat (v : Value) (t0 : List Int) (hl : (94 :: t0).length ≤ 200) (w : World) (h : RS w v (94 :: t0)) :
    Calls Tryd.prog 27 #[v] w (RClsPost w (94 :: t0)) := by
  obtain ⟨i0, hi, hz0, hz1, hz2⟩ := info_parts rspan_info
  have HI := Hid.mk' (And.intro hi (And.intro hz0 (And.intro hz1 hz2)))
  clear hi hz0 hz1 hz2
  have e0 : Below w.heap.size w ((w.alloc (.cells #[.int .i64 0, .slice none 0 0] 51)).alloc (.cells #[.int .i64 1, .slice none 0 0] 51)) := ((Below.refl _ _).alloc (Nat.le_refl _) _).alloc (by simp) _
  have eZ : Below w.heap.size w ((w.alloc (.cells #[.int .i64 0, .slice none 0 0] 51)).alloc (.cells #[.int .i64 0, .slice none 0 0] 51)) := ((Below.refl _ _).alloc (Nat.le_refl _) _).alloc (by simp) _
  have hb0 : Bx ((w.alloc (.cells #[.int .i64 0, .slice none 0 0] 51)).alloc (.cells #[.int .i64 1, .slice none 0 0] 51)) w.heap.size 51 #[.int .i64 0, .slice none 0 0] := (Bx.fresh w _ _).past _
  have hb1 : Bx ((w.alloc (.cells #[.int .i64 0, .slice none 0 0] 51)).alloc (.cells #[.int .i64 1, .slice none 0 0] 51)) (w.heap.size + 1) 51 #[.int .i64 1, .slice none 0 0] := Bx.fresh' (w.alloc _) (by simp) _ _
  have hr0 := h.next eZ
  have hlen := fun w' => h.len w'
  obtain ⟨p0, hx0, hc0, _⟩ := hr0.at 0 (by simp)
  simp only [List.getElem_cons_zero] at hc0
  rw [show ((0 : Nat) : Int) = 0 from rfl] at hx0
  have hj0 : idxB (94 :: t0) = (idxB ((94 :: t0).drop 1)).map (· + 1) := by simp [idxB]
  have hcls : ∀ n, 1 ≤ n → n ≤ (94 :: t0).length → clsS ((94 :: t0).take n) = match spF (((94 :: t0).take n).drop 1) with | none => none | some sp => if sp = [] then none else some ⟨false, decide (1 = 1), sp⟩ := by
    intro n h1 h2
    cases n with | zero => omega | succ n => rfl
  obtain ⟨l, hlx⟩ : ∃ l, l = (94 :: t0) := ⟨_, rfl⟩
  rw [← hlx] at hlen hj0 hcls hl h ⊢
  have hpos : (0 : Int) < (l.length : Int) := by rw [hlx]; simp
  have hjl : 1 ≤ l.length := by rw [hlx]; simp
  have HR := Hid.mk' h
  have HJ := Hid.mk' hj0
  have HC := Hid.mk' hcls
  have HB := Hid.mk' (And.intro hb0 (And.intro hb1 e0))
  clear h hr0 e0 eZ hb0 hb1 hj0 hcls
  clear hlx
  go_enter Tryd.func27, Tryd.ntmps27
  go_wp2_with fail
  clear hx0 hc0 hpos
  go_loop [7] (fun iv => ∃ k : Nat, iv = .int .i64 k ∧ 1 ≤ k ∧ k ≤ l.length ∧ Hid (idxB l = (idxB (l.drop k)).map (· + k))) (fun iv => l.length - (intOf iv).toNat)
  case atStart => exact ⟨1, rfl, Nat.le_refl _, hjl, HJ⟩
  case round =>
    obtain ⟨n, rfl, hjn, hnl, HX⟩ := hrel
    by_cases hlt : n < l.length
    · have hr := HR.out.next HB.out.2.2
      obtain ⟨p1, hx1, hc1, hp1⟩ := hr.at n hlt
      have hxx := HX.out
      rw [idx_drop l n hlt] at hxx
      generalize l[n] = c at *
      have hi : (n : Int) < (l.length : Int) := by omega
      clear hr
      by_cases hc : c = 93
      · rw [if_pos hc] at hxx
        have HN := Hid.mk' (show idxB l = some n by rw [hxx]; simp)
        have t3 : (c != 93) = false := by simp [hc]
        clear hxx hc HX
        by_cases hnj : n = 1
        · have HNN := Hid.mk' (show clsS (l.take n) = none by
            rw [HC.out n hjn hnl]
            rw [List.drop_of_length_le (by simp; omega)]; rfl)
          have t4 : ((n : Int) == 1) = true := by rw [hnj]; rfl
          clear hnj
          obtain ⟨o0, o1⟩ := HB.out.2.1.reads2
          obtain ⟨z0, z1⟩ := HB.out.1.reads2
          obtain ⟨y0, y1⟩ := HB.out.1.opens2
          go_wp2_with fail
          have bR : Bx ((w.alloc (.cells #[.int .i64 1, .slice none 0 0] 51)).alloc (.cells #[.int .i64 1, .slice none 0 0] 51)) w.heap.size 51 #[.int .i64 1, .slice none 0 0] := (Bx.fresh w _ _).past _
          have bB : Below w.heap.size w ((w.alloc (.cells #[.int .i64 1, .slice none 0 0] 51)).alloc (.cells #[.int .i64 1, .slice none 0 0] 51)) := ((Below.refl _ _).alloc (Nat.le_refl _) _).alloc (by simp) _
          obtain ⟨q0, q1⟩ := bR.reads2
          exact bodyPost_ret (v := .tuple #[.agg #[.int .i64 1, .slice none 0 0], .int .i64 0, .bool false]) (by simp [results, Tryd.results27, go_sem, q0, q1]) rfl ⟨_, _, _, _, _, false, rfl, bB, .inl ⟨rfl, .inr ⟨_, HN.out, HNN.out⟩⟩⟩
        · have hnj2 : ((1 : Nat) : Int) < (n : Int) := by omega
          have hbl : (l.take n).length = n := by simp; omega
          have START := Hid.mk' (show RI w 1 (l.take n) 1 [] none 0 ((w.alloc (.cells #[.int .i64 0, .slice none 0 0] 51)).alloc (.cells #[.int .i64 1, .slice none 0 0] 51)) from ⟨by omega, by simp; omega, HB.out.1, HB.out.2.1, World.ownsRow_nil _ _ _ _, HB.out.2.2, by simp⟩)
          have HBL := Hid.mk' hbl
          clear hbl hnj
          have t4 : ((n : Int) == 1) = false := by rw [beq_eq_false_iff_ne]; omega
          go_wp2_with fail
          clear hx1 hc1 hp1
          go_loopw [8] (fun kv wr => ∃ (k : Nat) (done : List (Int × Int)) (sa : Option Addr) (sc : Nat), kv = .int .i64 k ∧ Hid (RI w 1 (l.take n) k done sa sc wr)) (fun kv _ => n - (intOf kv).toNat)
          case atStart => exact ⟨1, [], none, 0, rfl, START⟩
          case round =>
            clear START
            obtain ⟨k, done, sa, sc, rfl, HS⟩ := hrel
            have hkl := HS.out.k_le
            have hdl := HS.out.len
            rw [HBL.out] at hkl hdl
            have hbb := HS.out.bel.size
            by_cases hkn : k < n
            · have hr := HR.out.next HS.out.bel
              obtain ⟨p1, hx1, hc1, hp1⟩ := hr.at k (by omega)
              have hkz : (k : Int) < (n : Int) := by omega
              have hd : (l.take n).drop k = l[k] :: (l.take n).drop (k + 1) := by rw [List.drop_eq_getElem_cons (by simp; omega)]; simp
              generalize l[k] = a at *
              have hdl1 : ((l.take n).drop (k + 1)).length = n - (k + 1) := by simp; omega
              by_cases h3 : 2 < (a :: (l.take n).drop (k + 1)).length ∧ ((l.take n).drop (k + 1)).head? = some 45
              · have hk3 : k + 2 < n := by have := h3.1; simp only [List.length_cons, hdl1] at this; omega
                have h45 : l[k + 1] = 45 := by
                  have h6 := h3.2
                  rw [List.head?_drop, List.getElem?_take, if_pos (by omega), List.getElem?_eq_getElem (by omega)] at h6
                  exact Option.some.inj h6
                obtain ⟨p2, hx2, hc2, hp2⟩ := hr.at (k + 1) (by omega)
                obtain ⟨p3, hx3, hc3, hp3⟩ := hr.at (k + 2) (by omega)
                have hd3 : (l.take n).drop k = a :: 45 :: l[k + 2] :: (l.take n).drop (k + 2 + 1) := by
                  rw [hd, List.drop_eq_getElem_cons (i := k + 1) (by simp; omega), List.drop_eq_getElem_cons (i := k + 1 + 1) (by simp; omega)]
                  simp [h45]
                rw [h45] at hc2
                generalize l[k + 2] = c at *
                have he := spF_span a c ((l.take n).drop (k + 2 + 1))
                rw [← hd3] at he
                rw [show ((k + 1 : Nat) : Int) = (k : Int) + 1 from by omega] at hx2
                rw [show ((k + 2 : Nat) : Int) = (k : Int) + 2 from by omega] at hx3
                have h2z : (k : Int) + 2 < (n : Int) := by omega
                have hw2 : IntKind.i64.wrap ((k : Int) + 2) = (k : Int) + 2 := IntWalk.i64_in _ (by omega)
                have hin0 := HS.out.part.inside
                clear h3 hd hd3 h45 hr
                by_cases hca : c < a
                · rw [if_pos hca] at he
                  have HNN := Hid.mk' (show clsS (l.take n) = none by rw [HC.out n hjn hnl, HS.out.eq, he]; rfl)
                  clear he
                  go_wp2_with fail
                  go_quiet (fail)
                  have HQ := Hid.mk' (HS.out.drawn nq)
                  clear HS hc1 hc2 hc3
                  generalize wr.drewN nq = wq at *
                  obtain ⟨o0, o1⟩ := HQ.out.part.reads2
                  obtain ⟨z0, z1⟩ := HQ.out.zero.reads2
                  obtain ⟨y0, y1⟩ := HQ.out.zero.opens2
                  go_wp2_with fail
                  have bR : Bx ((wq.setCell ⟨w.heap.size, 0, none⟩ (.int .i64 1)).setCell ⟨w.heap.size, 1, none⟩ (.slice sa done.length sc)) w.heap.size 51 #[.int .i64 1, .slice sa done.length sc] := (HQ.out.zero.put 0 _).put 1 _
                  have hg : wq.grownBy ((wq.setCell ⟨w.heap.size, 0, none⟩ (.int .i64 1)).setCell ⟨w.heap.size, 1, none⟩ (.slice sa done.length sc)) (some w.heap.size) := gb_trans (gb_set wq w.heap.size 0 _) (gb_set _ w.heap.size 1 _)
                  obtain ⟨q0, q1⟩ := bR.reads2
                  exact bodyPost_ret (v := .tuple #[.agg #[.int .i64 1, .slice sa done.length sc], .int .i64 0, .bool false]) (by simp [results, Tryd.results27, go_sem, q0, q1]) rfl ⟨_, _, _, _, _, false, rfl, below_gb HQ.out.bel hg (Nat.le_refl _), .inl ⟨rfl, .inr ⟨n, HN.out, HNN.out⟩⟩⟩
                · rw [if_neg hca] at he
                  have HE := Hid.mk' he
                  clear he
                  go_wp2_with fail
                  go_quiet (fail)
                  have HQ := Hid.mk' (HS.out.drawn nq)
                  have hc1q : (wr.drewN nq).cell? p1 = some (.int .i32 a) := hc1
                  have hc3q : (wr.drewN nq).cell? p3 = some (.int .i32 c) := hc3
                  have hp1q : p1.block < (wr.drewN nq).heap.size := hp1
                  have hp3q : p3.block < (wr.drewN nq).heap.size := hp3
                  have hbq : w.heap.size ≤ (wr.drewN nq).heap.size := hbb
                  clear HS hc1 hc2 hc3 hp1 hp2 hp3 hbb hin0
                  generalize wr.drewN nq = wq at *
                  have HO := Hid.mk' (show ((wq.alloc (.cells #[.int .i32 a, .int .i32 c] 54)).drew).ownsRow w.heap.size 54 2 (.slice sa done.length sc) done.length (flatS done) from own_next HQ.out.own ((Below.refl _ _).alloc (Nat.le_refl _) _).drew)
                  have HBN := Hid.mk' (show Bx ((wq.alloc (.cells #[.int .i32 a, .int .i32 c] 54)).drew) wq.heap.size 54 #[.int .i32 a, .int .i32 c] from (Bx.fresh wq _ _).drawn 1)
                  have hin := HQ.out.part.inside
                  obtain ⟨o0, o1⟩ := HQ.out.part.reads2
                  obtain ⟨f0, f1⟩ := HQ.out.part.opens2
                  go_wp2_with fail
                  go_region_law (refine step_append_lies _ (by rfl) (.tmp 74) (.tmp 85) 49 (by rfl) w.heap.size 54 i0 _ 2 8 Tryd.underlying49 HI.out.1 HI.out.2.1 HI.out.2.2.1 HI.out.2.2.2 rfl (by decide) (.slice sa done.length sc) done.length (flatS done) (by rfl) (HO.out) ⟨wq.heap.size, 0, none⟩ 1 1 [.int .i32 a, .int .i32 c] (by rfl) (by rfl) (World.news_of_block (cs := #[.int .i32 a, .int .i32 c]) (t := 54) (fr := (0, 0)) HBN.out) (by simp [Value.oneCell']) (by omega) (by simp only [maxLen]; omega) (by omega) (by simp; omega) (wq.heap.size + 1) (by simp) ?_; intro gg cap w2 hown2 hgr2 hat hlt2; obtain ⟨d0, d1⟩ := (HQ.out.after _ hgr2).2.reads2; obtain ⟨d2, d3⟩ := (HQ.out.after _ hgr2).2.opens2)
                  all_goals
                    have E := Hid.mk' (HQ.out.add a c (k + 2 + 1) gg cap hgr2 hown2 (by omega) (by rw [HBL.out]; omega) HE.out)
                    clear hown2 hgr2 hat hlt2 HO HBN d0 d1 d2 d3
                    go_wp2_with fail
                    go_roundw
                    case rel => first | exact ⟨k + 2 + 1, _, _, _, by go_num, E⟩ | ((repeat apply Exists.intro); exact ⟨k + 2 + 1, _, _, _, by go_num, E⟩)
                    case measure => simp [intOf]; omega

              · have he := spF_one a _ h3
                rw [← hd] at he
                have HE := Hid.mk' he
                by_cases h2 : k + 2 < n
                · obtain ⟨p2, hx2, hc2, hp2⟩ := hr.at (k + 1) (by omega)
                  rw [show ((k + 1 : Nat) : Int) = (k : Int) + 1 from by omega] at hx2
                  have t5 : (l[k + 1] == 45) = false := by
                    rw [beq_eq_false_iff_ne]
                    intro e5
                    apply h3
                    refine ⟨by simp only [List.length_cons, hdl1]; omega, ?_⟩
                    rw [List.head?_drop, List.getElem?_take, if_pos (by omega), List.getElem?_eq_getElem (by omega), e5]
                  generalize l[k + 1] = b5 at *
                  have h2z : (k : Int) + 2 < (n : Int) := by omega
                  clear he h3 hd hr h2
                  have HO := Hid.mk' (show ((wr.alloc (.cells #[.int .i32 a, .int .i32 a] 54)).drew).ownsRow w.heap.size 54 2 (.slice sa done.length sc) done.length (flatS done) from own_next HS.out.own ((Below.refl _ _).alloc (Nat.le_refl _) _).drew)
                  have HBN := Hid.mk' (show Bx ((wr.alloc (.cells #[.int .i32 a, .int .i32 a] 54)).drew) wr.heap.size 54 #[.int .i32 a, .int .i32 a] from (Bx.fresh wr _ _).drawn 1)
                  have hin := HS.out.part.inside
                  obtain ⟨o0, o1⟩ := HS.out.part.reads2
                  obtain ⟨f0, f1⟩ := HS.out.part.opens2
                  go_wp2_with fail
                  go_region_law (refine step_append_lies _ (by rfl) (.tmp 91) (.tmp 101) 49 (by rfl) w.heap.size 54 i0 _ 2 8 Tryd.underlying49 HI.out.1 HI.out.2.1 HI.out.2.2.1 HI.out.2.2.2 rfl (by decide) (.slice sa done.length sc) done.length (flatS done) (by rfl) (HO.out) ⟨wr.heap.size, 0, none⟩ 1 1 [.int .i32 a, .int .i32 a] (by rfl) (by rfl) (World.news_of_block (cs := #[.int .i32 a, .int .i32 a]) (t := 54) (fr := (0, 0)) HBN.out) (by simp [Value.oneCell']) (by omega) (by simp only [maxLen]; omega) (by omega) (by simp; omega) (wr.heap.size + 1) (by simp) ?_; intro gg cap w2 hown2 hgr2 hat hlt2; obtain ⟨d0, d1⟩ := (HS.out.after _ hgr2).2.reads2; obtain ⟨d2, d3⟩ := (HS.out.after _ hgr2).2.opens2)
                  all_goals
                    have E := Hid.mk' (HS.out.add a a (k + 1) gg cap hgr2 hown2 (by omega) (by rw [HBL.out]; omega) HE.out)
                    clear hown2 hgr2 hat hlt2 HO HBN d0 d1 d2 d3
                    go_wp2_with fail
                    go_roundw
                    case rel => first | exact ⟨k + 1, _, _, _, by go_num, E⟩ | ((repeat apply Exists.intro); exact ⟨k + 1, _, _, _, by go_num, E⟩)
                    case measure => simp [intOf]; omega
                · have h2z : ¬ (k : Int) + 2 < (n : Int) := by omega
                  clear he h3 hd hr h2
                  have HO := Hid.mk' (show ((wr.alloc (.cells #[.int .i32 a, .int .i32 a] 54)).drew).ownsRow w.heap.size 54 2 (.slice sa done.length sc) done.length (flatS done) from own_next HS.out.own ((Below.refl _ _).alloc (Nat.le_refl _) _).drew)
                  have HBN := Hid.mk' (show Bx ((wr.alloc (.cells #[.int .i32 a, .int .i32 a] 54)).drew) wr.heap.size 54 #[.int .i32 a, .int .i32 a] from (Bx.fresh wr _ _).drawn 1)
                  have hin := HS.out.part.inside
                  obtain ⟨o0, o1⟩ := HS.out.part.reads2
                  obtain ⟨f0, f1⟩ := HS.out.part.opens2
                  go_wp2_with fail
                  go_region_law (refine step_append_lies _ (by rfl) (.tmp 91) (.tmp 101) 49 (by rfl) w.heap.size 54 i0 _ 2 8 Tryd.underlying49 HI.out.1 HI.out.2.1 HI.out.2.2.1 HI.out.2.2.2 rfl (by decide) (.slice sa done.length sc) done.length (flatS done) (by rfl) (HO.out) ⟨wr.heap.size, 0, none⟩ 1 1 [.int .i32 a, .int .i32 a] (by rfl) (by rfl) (World.news_of_block (cs := #[.int .i32 a, .int .i32 a]) (t := 54) (fr := (0, 0)) HBN.out) (by simp [Value.oneCell']) (by omega) (by simp only [maxLen]; omega) (by omega) (by simp; omega) (wr.heap.size + 1) (by simp) ?_; intro gg cap w2 hown2 hgr2 hat hlt2; obtain ⟨d0, d1⟩ := (HS.out.after _ hgr2).2.reads2; obtain ⟨d2, d3⟩ := (HS.out.after _ hgr2).2.opens2)
                  all_goals
                    have E := Hid.mk' (HS.out.add a a (k + 1) gg cap hgr2 hown2 (by omega) (by rw [HBL.out]; omega) HE.out)
                    clear hown2 hgr2 hat hlt2 HO HBN d0 d1 d2 d3
                    go_wp2_with fail
                    go_roundw
                    case rel => first | exact ⟨k + 1, _, _, _, by go_num, E⟩ | ((repeat apply Exists.intro); exact ⟨k + 1, _, _, _, by go_num, E⟩)
                    case measure => simp [intOf]; omega
            · have hkn' : k = n := by omega
              obtain ⟨o0, o1⟩ := HS.out.part.reads2
              obtain ⟨z0, z1⟩ := HS.out.zero.reads2
              obtain ⟨y0, y1⟩ := HS.out.zero.opens2
              have hkz : ¬ (k : Int) < (n : Int) := by omega
              have hsp : spF ((l.take n).drop 1) = some done := by rw [HS.out.eq, List.drop_of_length_le (by rw [HBL.out]; omega)]; simp [spF]
              have hdn : done ≠ [] := by intro e; rw [e] at hsp; have h5 := congrArg List.length (spF_ne _ hsp); rw [List.length_drop, HBL.out, List.length_nil] at h5; omega
              have HPOST := Hid.mk' (show clsS (l.take n) = some ⟨false, decide (1 = 1), done⟩ by rw [HC.out n hjn hnl, hsp]; simp only [if_neg hdn])
              have HK := Hid.mk' (show (1 : Int) = kdI ⟨false, decide (1 = 1), done⟩ by simp [kdI, hdn])
              clear hsp hdn hkn hkn'
              go_wp2_with fail
              have bR : Bx ((wr.setCell ⟨w.heap.size, 0, none⟩ (.int .i64 1)).setCell ⟨w.heap.size, 1, none⟩ (.slice sa done.length sc)) w.heap.size 51 #[.int .i64 1, .slice sa done.length sc] := (HS.out.zero.put 0 _).put 1 _
              have hg : wr.grownBy ((wr.setCell ⟨w.heap.size, 0, none⟩ (.int .i64 1)).setCell ⟨w.heap.size, 1, none⟩ (.slice sa done.length sc)) (some w.heap.size) := gb_trans (gb_set wr w.heap.size 0 _) (gb_set _ w.heap.size 1 _)
              obtain ⟨q0, q1⟩ := bR.reads2
              exact bodyPost_ret (v := .tuple #[.agg #[.int .i64 1, .slice sa done.length sc], .int .i64 ((n : Int) + 1), .bool true]) (by simp [results, Tryd.results27, go_sem, q0, q1]) rfl ⟨_, _, _, _, _, true, rfl, below_gb HS.out.bel hg (Nat.le_refl _), .inr ⟨n, _, HN.out, HPOST.out, rfl, rfl, HK.out, World.ownsRow.kept (own_down HS.out.own) hg (.inr (bx_apart HS.out.zero HS.out.own (by decide)))⟩⟩
      · rw [if_neg hc] at hxx
        have t3 : (c != 93) = true := by simp [hc]
        have HY := Hid.mk' (show idxB l = (idxB (l.drop (n + 1))).map (· + (n + 1)) by rw [hxx]; cases idxB (l.drop (n + 1)) <;> simp; omega)
        clear hxx hc HX
        go_wp2_with fail
        go_round
        case rel => exact ⟨n + 1, by go_num, by omega, by omega, HY⟩
        case measure => simp [intOf]; omega
    · have HN := Hid.mk' (show idxB l = none by rw [HX.out, idx_end l n (by omega)]; rfl)
      have hi : ¬ (n : Int) < (l.length : Int) := by omega
      have hi2 : (l.length : Int) ≤ (n : Int) := by omega
      obtain ⟨o0, o1⟩ := HB.out.2.1.reads2
      obtain ⟨z0, z1⟩ := HB.out.1.reads2
      obtain ⟨y0, y1⟩ := HB.out.1.opens2
      clear HX
      go_wp2_with fail
      have bR : Bx ((w.alloc (.cells #[.int .i64 1, .slice none 0 0] 51)).alloc (.cells #[.int .i64 1, .slice none 0 0] 51)) w.heap.size 51 #[.int .i64 1, .slice none 0 0] := (Bx.fresh w _ _).past _
      have bB : Below w.heap.size w ((w.alloc (.cells #[.int .i64 1, .slice none 0 0] 51)).alloc (.cells #[.int .i64 1, .slice none 0 0] 51)) := ((Below.refl _ _).alloc (Nat.le_refl _) _).alloc (by simp) _
      obtain ⟨q0, q1⟩ := bR.reads2
      exact bodyPost_ret (v := .tuple #[.agg #[.int .i64 1, .slice none 0 0], .int .i64 0, .bool false]) (by simp [results, Tryd.results27, go_sem, q0, q1]) rfl ⟨_, _, _, _, _, false, rfl, bB, .inl ⟨rfl, .inl HN.out⟩⟩

end Go.Proofs.YtfnjmboflegaaaaDoor
