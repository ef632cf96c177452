/- Layer 44 (hist): Share of the chapter's example. -/
import Derived.Test.YtljhnkcoknikgaaW7
namespace Go.Proofs.Ytljhnkcoknikgaa
open Go.RowKit
attribute [local go_sem] Oper.semAt_some

/-- The chapter's example. -/
def exL : List Int := [0, 1, 5, 7]
def exP : List (Int × Int) := [(0, 1), (1, 1), (3, 2)]
theorem ex_prs : prs (cntF exL) 0 24 = exP := by decide +kernel
theorem ex_len : lenF (cntF exL) = 4 := by decide +kernel
theorem add_le (s v : Int) : addV s v = cut (min (max s (-1125899906842624)) 1125899906842624 + min (max v (-1125899906842624)) 1125899906842624) := rfl
theorem stop_ex (pl : List (Int × Int)) (x : Int × Int) (ys : List (Int × Int)) (hys : pl ++ x :: ys = exP) (h1 : accP pl < 2) (h2 : 2 ≤ addV (accP pl) x.2) : highB x.1 = 1 := by
  match pl, hys, h1, h2 with
  | [], hys, h1, h2 =>
    simp [exP] at hys
    rw [hys.1] at h2
    exact absurd h2 (by decide +kernel)
  | [a], hys, h1, h2 =>
    simp [exP] at hys
    rw [hys.2.1]
    decide +kernel
  | [a, b], hys, h1, h2 =>
    simp [exP] at hys
    rw [hys.1, hys.2.1] at h1
    exact absurd h1 (by decide +kernel)
  | a :: b :: c :: t, hys, h1, h2 => simp [exP] at hys
/-- What Share's own boxes hold. -/
def SI (w : World) (n1 B : Nat) (pre : List Pr) (W : World) : Prop := Bx W B 3 #[.int .i64 2] ∧ Bx W (B + 1) 3 #[.int .i64 (accP (pre.map (·.1)))] ∧ Bx W (w.heap.size + 1) 3 #[.int .i64 0] ∧ Below w.heap.size w W ∧ n1 ≤ W.heap.size ∧ accP (pre.map (·.1)) < 2
theorem SI.own (w : World) (n1 B : Nat) (hn : w.heap.size ≤ n1) : OwnFrom n1 (SI w n1 B) := fun pre X Y row hs hg hr => by
  obtain ⟨b1, b2, b3, hb, hsz, hl⟩ := hs
  exact ⟨bx_own (β := Unit) _ _ _ _ () X Y row b1 hg hr, bx_own (β := Unit) _ _ _ _ () X Y row b2 hg hr, bx_own (β := Unit) _ _ _ _ () X Y row b3 hg hr, hb.grown hg hb.size (fun k e => Nat.le_trans hn (hr k e).1), Nat.le_trans hsz hg.size, hl⟩
def SX (w : World) (n1 : Nat) (c : Code) (q : List Pr) (W : World) : Prop := c = .ret ∧ ∃ pre x, q = pre ++ [x] ∧ accP (pre.map (·.1)) < 2 ∧ 2 ≤ addV (accP (pre.map (·.1))) x.1.2 ∧ Bx W (w.heap.size + 1) 3 #[.int .i64 (highB x.1.1)] ∧ Below w.heap.size w W ∧ n1 ≤ W.heap.size
theorem SX.own (w : World) (n1 : Nat) (hn : w.heap.size ≤ n1) (c : Code) : OwnFrom n1 (SX w n1 c) := fun q X Y row hs hg hr => by
  obtain ⟨h0, pre, x, h1, h2, h3, b1, hb, hsz⟩ := hs
  exact ⟨h0, pre, x, h1, h2, h3, bx_own (β := Unit) _ _ _ _ () X Y row b1 hg hr, hb.grown hg hb.size (fun k e => Nat.le_trans hn (hr k e).1), Nat.le_trans hsz hg.size⟩
set_option maxRecDepth 100000 in
set_option maxHeartbeats 8000000 in
theorem share_ex (cs : Array Value) (hC : HC cs (cntF exL)) (w : World) :
    Calls Try.prog 61 #[.agg cs, .int .i64 50] w fun e w' => e = .returned (.int .i64 1) ∧ Below w.heap.size w w' := by
  have CS := Lib.hid (fun W => some_any cs hC.size W)
  have CL := Lib.hid (fun W => (len_any cs (cntF exL) hC W))
  have CA := Lib.hid (fun a b W => add_any a b W)
  have CO := Lib.hid (fun i hi W => bounds_any i hi W)
  have HCC := Lib.hid hC
  have z1 : Bx ((w.alloc (.cells cs 24)).alloc (.cells #[.int .i64 0] 3)) w.heap.size 24 cs := (Bx.fresh _ _ _).past _
  have z2 : Bx ((w.alloc (.cells cs 24)).alloc (.cells #[.int .i64 0] 3)) (w.heap.size + 1) 3 #[.int .i64 0] := Bx.fresh' (w.alloc _) (by simp) _ _
  have hld := load_hist _ w.heap.size cs z1 hC.size
  have e0 : Below w.heap.size w ((w.alloc (.cells cs 24)).alloc (.cells #[.int .i64 0] 3)) := ((Below.refl _ _).alloc (Nat.le_refl _) _).alloc (by simp) _
  clear hC
  rw [ex_len] at CL
  refine (callsIn_wide (n := 5)).1 ?_
  refine callsIn_of_wp_marks Try.func61 rfl trivial ?_ rfl
  simp only [Try.ntmps61, List.size_toArray, List.length_cons, List.length_nil, Nat.reduceAdd, Nat.reduceSub, Array.replicate_succ, Array.replicate_zero, List.push_toArray, List.append_toArray, List.nil_append, List.cons_append]
  gi_wp2_with (refine wpListIn_load_row rfl 24 _ rfl w.heap.size rfl cs hld ?_)
  refine ⟨trivial, ?_⟩
  refine (callsIn_wide.2 (CL.out _)).mono ?_
  rintro e w2 ⟨rfl, hb2⟩
  have z3 := z1.next hb2
  have z4 := z2.next hb2
  have e1 := bnext e0 hb2
  have hsz2 : w.heap.size + 2 ≤ w2.heap.size := by have h := hb2.size; simp at h; omega
  clear hb2 hld z1 z2 e0
  have z5 := Bx.past (Bx.fresh w2 3 #[.int .i64 (wrap64 ((wrap64 (wrap64 (wrap64 (min 4 5629499534213 * min (max 50 0) 100) + 100) - 1)).tdiv 100))]) (.cells #[.int .i64 0] 3)
  have z6 : Bx ((w2.alloc (.cells #[.int .i64 (wrap64 ((wrap64 (wrap64 (wrap64 (min 4 5629499534213 * min (max 50 0) 100) + 100) - 1)).tdiv 100))] 3)).alloc (.cells #[.int .i64 0] 3)) (w2.heap.size + 1) 3 #[.int .i64 0] := Bx.fresh' (w2.alloc _) (by simp) _ _
  have z7 := Bx.past (Bx.past z3 (.cells #[.int .i64 (wrap64 ((wrap64 (wrap64 (wrap64 (min 4 5629499534213 * min (max 50 0) 100) + 100) - 1)).tdiv 100))] 3)) (.cells #[.int .i64 0] 3)
  have z8 := Bx.past (Bx.past z4 (.cells #[.int .i64 (wrap64 ((wrap64 (wrap64 (wrap64 (min 4 5629499534213 * min (max 50 0) 100) + 100) - 1)).tdiv 100))] 3)) (.cells #[.int .i64 0] 3)
  have e2 := (e1.alloc (o := .cells #[.int .i64 (wrap64 ((wrap64 (wrap64 (wrap64 (min 4 5629499534213 * min (max 50 0) 100) + 100) - 1)).tdiv 100))] 3) e1.size).alloc (o := .cells #[.int .i64 0] 3) (by simp; omega)
  have hs4 : ((w2.alloc (.cells #[.int .i64 (wrap64 ((wrap64 (wrap64 (wrap64 (min 4 5629499534213 * min (max 50 0) 100) + 100) - 1)).tdiv 100))] 3)).alloc (.cells #[.int .i64 0] 3)).heap.size = w2.heap.size + 2 := by simp
  have hld := load_hist _ w.heap.size cs z7 HCC.out.size
  gi_wp2_with (refine wpListIn_load_row rfl 24 _ rfl w.heap.size rfl cs hld ?_)
  generalize hW4 : (w2.alloc (.cells #[.int .i64 (wrap64 ((wrap64 (wrap64 (wrap64 (min 4 5629499534213 * min (max 50 0) 100) + 100) - 1)).tdiv 100))] 3)).alloc (.cells #[.int .i64 0] 3) = w4 at *
  refine ⟨trivial, ?_⟩
  refine (callsIn_wide.2 (CS.out _)).mono ?_
  rintro e w5 ⟨rfl, rfl⟩
  gi_wp2
  have hX : (wrap64 ((wrap64 (wrap64 (wrap64 (min 4 5629499534213 * min (max 50 0) 100) + 100) - 1)).tdiv 100)) = 2 := by decide +kernel
  rw [hX] at z5
  have m1 : min (4 : Int) 5629499534213 = 4 := by decide +kernel
  have m2 : max (50 : Int) 0 = 50 := by decide +kernel
  have m3 : min (50 : Int) 100 = 50 := by decide +kernel
  have m4 : wrap64 (4 * 50) = 200 := by decide +kernel
  have m5 : wrap64 (200 + 100) = 300 := by decide +kernel
  have m6 : wrap64 (300 - 1) = 299 := by decide +kernel
  have m7 : wrap64 ((299 : Int).tdiv 100) = 2 := by decide +kernel
  simp only [m1, m2, m3, m4, m5, m6, m7]
  clear hX m1 m2 m3 m4 m5 m6 m7 hW4
  have y1 := Bx.past z5 (.cells cs 24)
  have y2 := Bx.past z6 (.cells cs 24)
  have y3 := Bx.past z8 (.cells cs 24)
  have y4 : Bx (w4.alloc (.cells cs 24)) (w2.heap.size + 2) 24 cs := Bx.fresh' w4 hs4 _ _
  have e3 := e2.alloc (o := .cells cs 24) e2.size
  have hs5 : (w4.alloc (.cells cs 24)).heap.size = w2.heap.size + 3 := by simp [hs4]
  clear z3 z4 z5 z6 z7 z8 hld e2
  generalize w4.alloc (.cells cs 24) = w5 at *
  refine wpIn_rangeFunc_ownH rfl (by omega) (gf := 101) (lb := #[.pointer (some ⟨w2.heap.size + 2, 0, none⟩)]) rfl trivial (enters_of Try.func101 (by kernel_rfl) rfl)
    (some_stops 4 (by omega) cs (cntF exL) HCC.out (w2.heap.size + 2) 24 (Nat.le_refl _) w5 y4) (fun _ _ => trivial) (fun _ _ _ _ _ _ _ _ => trivial) (Below.refl _ _) (fun _ => rfl)
    (SI w w5.heap.size w2.heap.size)
    (SX w w5.heap.size)
    (SI.own w w5.heap.size w2.heap.size (by omega))
    (fun c => SX.own w w5.heap.size (by omega) c)
    ⟨y1, y2, y3, e3, Nat.le_refl _, by decide⟩
    (fun (x : Pr) a' W => a' = { tmps := #[.agg cs, .int .i64 50, .pointer (some ⟨w.heap.size, 0, none⟩), undef, .pointer (some ⟨w.heap.size + 1, 0, none⟩), .int .i64 4, .pointer (some ⟨w2.heap.size, 0, none⟩), .pointer (some ⟨w2.heap.size + 1, 0, none⟩), .int .i64 x.1.1, .int .i64 x.1.2, undef, undef, undef, .agg cs, .int .i64 4, .int .i64 4, .int .i64 4, .int .i64 50, .int .i64 50, .int .i64 50, .int .i64 200, .int .i64 300, .int .i64 299, .int .i64 2, .agg cs, .func (.func 101) #[] #[.pointer (some ⟨w2.heap.size + 2, 0, none⟩)], .int .i64 x.1.1, .int .i64 x.1.2, undef, undef, undef, undef, undef, undef, undef, undef, undef, undef, undef, undef, undef], defers := [] })
    (fun x a' => fun _ X Y row hs _ _ => hs) ?assign ?body ?done ?stop
  case assign =>
    rintro l pre x W K hI hK
    unfold encPr
    gi_wp2
    exact hK _ _ (KeepsFrom.refl _ _) trivial hI rfl
  case body =>
    rintro l pre x a' W hl ⟨r, hr⟩ ⟨b1, b2, b3, hb, hW, hac⟩ rfl hN
    have c1 := b1.read (i := 0) rfl
    have c2 := b2.read (i := 0) rfl
    have f2 := b2.open_ 0
    have c3 := b3.read (i := 0) rfl
    have f3 := b3.open_ 0
    have HS := Lib.hid (accP_snoc pre x)
    have hxi := x.2.1
    have CO1 := Lib.hid (fun W => CO.out x.1.1 (by omega) W)
    generalize hac' : accP (pre.map (·.1)) = s at *
    have HAC := Lib.hid hac'
    clear hac' hxi
    have HB := Lib.hid (And.intro b1 (And.intro b2 (And.intro b3 (And.intro hb hW))))
    clear b1 b2 b3 hb hW
    by_cases hge : 2 ≤ addV s x.1.2
    · have HGE := Lib.hid hge
      generalize hxv : x.1.2 = v at *
      generalize hxk : x.1.1 = i at *
      have HXX := Lib.hid (And.intro hxv hxk)
      clear hxv hxk
      have CA1 := Lib.hid (fun W => show Calls Try.prog 58 #[.int .i64 s, .int .i64 v] W fun e w' => e = .returned (.int .i64 (addV s v)) ∧ W = w' from CA.out s v W)
      generalize hzv : addV s v = z at *
      have HZ := Lib.hid hzv
      clear hzv
      generalize lowB i = lo at *
      generalize hhi : highB i = hi at *
      have HHI := Lib.hid hhi
      clear hhi
      generalize decide (0 ≤ i ∧ i < 24) = ok at *
      gi_wp2_with (refine ⟨trivial, ?_⟩; gi_at_call 58; refine (callsIn_wide.2 (CA1.out _)).mono ?_; rintro e w6 ⟨rfl, rfl⟩)
      refine ⟨trivial, ?_⟩
      refine (callsIn_wide.2 (CO1.out _)).mono ?_
      rintro e w7 ⟨rfl, hb7⟩
      have d3 := (HB.out.2.2.1.beside (p := ⟨w2.heap.size + 1, 0, none⟩) (by show w2.heap.size + 1 ≠ w.heap.size + 1; omega) (.int .i64 z)).next hb7
      have d4 := bnext (HB.out.2.2.2.1.setCell (p := ⟨w2.heap.size + 1, 0, none⟩) (by show w.heap.size ≤ w2.heap.size + 1; omega) (.int .i64 z)) hb7
      have HKO : Hid (KeepsFrom w5.heap.size W w7) := Lib.hid (((KeepsOthers.setCell W ⟨w2.heap.size + 1, 0, none⟩ (.int .i64 z)).trans (KeepsOthers.of_grownBy (gb_below hb7 none) (fun j o hj _ => by cases hj))).from _)
      have hs7 : w5.heap.size ≤ w7.heap.size := by have h := hb7.size; have h2 := HB.out.2.2.2.2; simp [World.setCell] at h; omega
      have HD := Lib.hid (And.intro d3 d4)
      have g3 := d3.read (i := 0) rfl
      have g4 := d3.open_ 0
      clear hb7 d3 d4 c1 c2 f2 c3 f3
      gi_wp2
      refine ⟨(HKO.out.trans ((KeepsOthers.setCell _ _ _).from _)), rfl, pre, x, rfl, ?_, ?_, ?_, HD.out.2.setCell (p := ⟨w.heap.size + 1, 0, none⟩) (by show w.heap.size ≤ w.heap.size + 1; omega) _, by simpa [World.setCell] using hs7⟩
      · rw [HAC.out]; exact hac
      · rw [HAC.out, HXX.out.1, HZ.out]; exact HGE.out
      · rw [HXX.out.2, HHI.out]
        exact HD.out.1.put 0 _
    · generalize hxv : x.1.2 = v at *
      generalize x.1.1 = i at *
      have CA1 := Lib.hid (fun W => show Calls Try.prog 58 #[.int .i64 s, .int .i64 v] W fun e w' => e = .returned (.int .i64 (addV s v)) ∧ W = w' from CA.out s v W)
      generalize addV s v = z at *
      have hz : ¬ 2 ≤ z := hge
      gi_wp2_with (refine ⟨trivial, ?_⟩; gi_at_call 58; refine (callsIn_wide.2 (CA1.out _)).mono ?_; rintro e w6 ⟨rfl, rfl⟩)
      gi_wp2
      have hnew : SI w w5.heap.size w2.heap.size (pre ++ [x]) (W.setCell ⟨w2.heap.size + 1, 0, none⟩ (.int .i64 z)) := by
        unfold SI
        rw [HS.out]
        refine ⟨HB.out.1.beside (p := ⟨w2.heap.size + 1, 0, none⟩) (by show w2.heap.size + 1 ≠ w2.heap.size; omega) _, HB.out.2.1.put 0 _, HB.out.2.2.1.beside (p := ⟨w2.heap.size + 1, 0, none⟩) (by show w2.heap.size + 1 ≠ w.heap.size + 1; omega) _, HB.out.2.2.2.1.setCell (p := ⟨w2.heap.size + 1, 0, none⟩) (by show w.heap.size ≤ w2.heap.size + 1; omega) _, by simpa [World.setCell] using HB.out.2.2.2.2, by omega⟩
      exact ⟨(KeepsOthers.setCell _ _ _).from _, trivial, hnew⟩
  case done =>
    rintro D xs W hD hS ⟨b1, b2, b3, hb, hW, hac⟩ hK
    exfalso
    have h : xs.map (·.1) = exP := by rw [← ex_prs]; exact hS
    rw [h] at hac
    revert hac
    decide +kernel
  case stop =>
    rintro D c q W hD hS ⟨rfl, pre, x, rfl, h1, h2, b3, hb, hW⟩ hK
    have hx : highB x.1.1 = 1 := by
      obtain ⟨ys, hys⟩ := hS
      rw [ex_prs, List.map_append, List.map_cons, List.map_nil, List.append_assoc] at hys
      exact stop_ex _ _ _ hys h1 h2
    rw [hx] at b3
    clear hx h1 h2 hS
    have c3 := b3.read (i := 0) rfl
    have HB := Lib.hid (And.intro hb b3)
    clear hb b3
    gi_wp2
    refine ⟨by simp, .inl ⟨_, _, rfl, run_takeDeferred (by exact hK), ?_⟩⟩
    have hbf : Below w.heap.size w (W.putObj D (.deferred none)) := HB.out.1.trans (belowK_b (w := w) (Nat.le_refl _) W D _ _ (by omega) hK rfl rfl)
    have hgp := grownBy_putObj' W D (.deferred none)
    have c4 : (W.putObj D (.deferred none)).cell? ⟨w.heap.size + 1, 0, none⟩ = some (.int .i64 1) := (bx_own (β := Unit) w5.heap.size _ _ _ () W _ (some D) HB.out.2 hgp (fun r e => by cases e; exact ⟨hD, _, hK, rfl⟩)).read (i := 0) rfl
    exact ⟨.int .i64 1, by simp [results, Try.results61, go_sem, c4], rfl, hbf⟩
end Go.Proofs.Ytljhnkcoknikgaa
