/- Layer 5 (vector): the law's Is, in memory. -/
import Derived.Test.YtaeflfgkdjfnfaaQg
import Derived.Test.YtaeflfgkdjfnfaaYh
namespace Go.Proofs.Ytaeflfgkdjfnfaa
open Go.RowKit
attribute [local go_sem] Oper.semAt_some
attribute [local irreducible] wpQuiet

/-- What the round holds. -/
structure IJ (w : World) (M m : Nat) (D : DataW Unit) (vl : Value) (l : List (Int × Int)) (pre : List Dt) (W : World) : Prop where
  b0 : Bx W w.heap.size 117 #[vl]
  b1 : Bx W (w.heap.size + 1) 4 #[.bool false]
  b2 : Bx W (w.heap.size + 1 + 1) 3 #[.int .i64 (pre.length : Int)]
  vm : VM W M m D
  bel : Below w.heap.size w W
  pref : pre.map (·.1) = l.take pre.length
  le : pre.length ≤ l.length
  ge : w.heap.size + 4 ≤ W.heap.size
theorem IJ.own {w : World} {M m : Nat} {D : DataW Unit} {vl : Value} {l : List (Int × Int)} {pre : List Dt} {X Y : World} {row : Option Nat} {n1 : Nat} (hn : w.heap.size ≤ n1) (hM : M < n1) (h : IJ w M m D vl l pre X) (hg : X.grownBy Y row) (hr : ∀ r, row = some r → n1 ≤ r ∧ ∃ o : Obj, X.heap[r]? = some o ∧ o.isCells = false) : IJ w M m D vl l pre Y :=
  ⟨bx_own (β := Unit) _ _ _ _ () X Y row h.b0 hg hr, bx_own (β := Unit) _ _ _ _ () X Y row h.b1 hg hr, bx_own (β := Unit) _ _ _ _ () X Y row h.b2 hg hr, World.ownsMap.kept h.vm hg (fun e => by obtain ⟨h, _⟩ := hr M e.symm; omega), h.bel.grown hg h.bel.size (fun k e => Nat.le_trans hn (hr k e).1), h.pref, h.le, Nat.le_trans h.ge hg.size⟩
theorem IJ.al {w : World} {M m : Nat} {D : DataW Unit} {vl : Value} {l : List (Int × Int)} {pre : List Dt} {X : World} (h : IJ w M m D vl l pre X) (o : Obj) : IJ w M m D vl l pre (X.alloc o) :=
  ⟨h.b0.past _, h.b1.past _, h.b2.past _, World.ownsMap.alloc h.vm _, h.bel.alloc h.bel.size _, h.pref, h.le, by rw [World.size_alloc]; exact Nat.le_succ_of_le h.ge⟩
theorem ko_dn (W : World) (n : Nat) : KeepsOthers W (W.drewN n) := KeepsOthers.of_grownBy (gb_below (below_dn W n) none) (fun j o hj _ => by cases hj)
theorem IJ.step {w : World} {M m : Nat} {D : DataW Unit} {vl : Value} {l : List (Int × Int)} {pre : List Dt} {W : World} {n : Nat} (h : IJ w M m D vl l pre W) (hM : M < w.heap.size) (x : Dt) (hx : l[pre.length]? = some x.1) :
    IJ w M m D vl l (pre ++ [x]) ((W.drewN n).setCell ⟨w.heap.size + 1 + 1, 0, none⟩ (.int .i64 ((pre.length : Int) + 1))) := by
  have hb := below_dn W n
  have hlt : pre.length < l.length := (List.getElem?_eq_some_iff.1 hx).1
  refine ⟨(h.b0.next hb).beside (p := ⟨w.heap.size + 1 + 1, 0, none⟩) (by show w.heap.size + 1 + 1 ≠ w.heap.size; omega) _, (h.b1.next hb).beside (p := ⟨w.heap.size + 1 + 1, 0, none⟩) (by show w.heap.size + 1 + 1 ≠ w.heap.size + 1; omega) _, ?_, ?_, (bnext h.bel hb).setCell (p := ⟨w.heap.size + 1 + 1, 0, none⟩) (by show w.heap.size ≤ w.heap.size + 1 + 1; omega) _, ?_, ?_, ?_⟩
  · have := (h.b2.next hb).put 0 (.int .i64 ((pre.length : Int) + 1))
    rw [List.length_append]
    simpa using this
  · exact World.ownsMap.kept (World.ownsMap.kept h.vm (gb_below hb none) (by simp)) (gb_set (W.drewN n) (w.heap.size + 1 + 1) 0 _) (fun e => by injection e with e; omega)
  · rw [List.map_append, List.length_append, h.pref]
    simp only [List.map_cons, List.map_nil, List.length_cons, List.length_nil, Nat.zero_add]
    rw [List.take_add_one, hx]
    rfl
  · rw [List.length_append]; simp; omega
  · have := h.ge; simpa using this
theorem pref_next {l : List (Int × Int)} {ys pre : List Dt} {x : Dt} (hy : ys.map (·.1) = l) (hp : pre ++ [x] <+: ys) : l[pre.length]? = some x.1 := by
  obtain ⟨t, rfl⟩ := hp
  rw [← hy]
  simp
set_option maxRecDepth 100000 in
set_option maxHeartbeats 8000000 in
theorem is_any (vl : Value) (l : List (Int × Int)) (hl5 : l.length ≤ 100000) (M m : Nat) (D : DataW Unit) (hm : m ≤ 100000) (w : World) (hV : VM w M m D) (hgd : Good D) (hD : DR w vl l) (hs : SR l) (heq : ∀ k, gI D k = getL l k) (hsz : Maps.size D = l.length) :
    Calls Try.prog 72 #[.map (some M), vl] w fun e w' => e = .returned (.bool true) ∧ Below w.heap.size w w' := by
  have HONE := Lib.hid (fun (ys : List Dt) (h1 : Lists D (ys.map (·.1))) (h2 : Up (ys.map (·.1))) => SR.one (h1.sr h2 hgd).1 hs (fun k => by rw [(h1.sr h2 hgd).2 k, heq k]))
  have HSZ := Lib.hid hsz
  have HDR := Lib.hid hD
  obtain ⟨a, cap, rfl, hx, hc⟩ := hD
  clear hx hc heq hsz
  have hnil : ∀ W, (binOp .eql 184 (.func (.func 177) #[] #[.pointer (some ⟨w.heap.size + 1 + 1 + 1, 0, none⟩)]) .nilFunc).run Try.prog W = .ok (.bool false) W := fun W => by kernel_rfl
  refine (callsIn_wide (n := 5)).1 ?_
  refine callsIn_of_wp_marks Try.func72 rfl trivial ?_ rfl
  simp only [Try.ntmps72, List.size_toArray, List.length_cons, List.length_nil, Nat.reduceAdd, Nat.reduceSub, Array.replicate_succ, Array.replicate_zero, List.push_toArray, List.append_toArray, List.nil_append, List.cons_append]
  gi_wp2_with (refine ⟨trivial, ?_⟩; gi_at_call 137; refine (callsIn_wide.2 (dotsfn_any M _)).mono ?_; rintro e w2 ⟨rfl, rfl⟩)
  obtain ⟨w3, hw3⟩ : ∃ w3, (((w.alloc (.cells #[.slice a l.length cap] 117)).alloc (.cells #[.bool false] 4)).alloc (.cells #[.int .i64 0] 3)).alloc (.cells #[.map (some M)] 116) = w3 := ⟨_, rfl⟩
  have hsz : w3.heap.size = w.heap.size + 4 := by rw [← hw3]; simp
  have e1 : Below w.heap.size w w3 := by rw [← hw3]; exact ((((Below.refl _ _).alloc (Nat.le_refl _) _).alloc (by simp) _).alloc (by simp; omega) _).alloc (by simp; omega) _
  have x0 : Bx w3 w.heap.size 117 #[.slice a l.length cap] := by rw [← hw3]; exact (((Bx.fresh w _ _).past _).past _).past _
  have x1 : Bx w3 (w.heap.size + 1) 4 #[.bool false] := by rw [← hw3]; exact ((Bx.fresh' (w.alloc _) (by simp) _ _).past _).past _
  have x2 : Bx w3 (w.heap.size + 1 + 1) 3 #[.int .i64 0] := by rw [← hw3]; exact (Bx.fresh' ((w.alloc _).alloc _) (by simp) _ _).past _
  have x3 : w3.cell? ⟨w.heap.size + 1 + 1 + 1, 0, none⟩ = some (.map (some M)) := by rw [← hw3]; exact (Bx.fresh' (((w.alloc _).alloc _).alloc _) (by simp) _ _).read rfl
  have hV3 : VM w3 M m D := World.ownsMap.kept hV (gb_below e1 none) (by simp)
  have hM : M < w.heap.size := World.ownsMap.lt hV
  have hlenv := World.ownsMap.len hV3 Try.underlying116 3
  rw [hw3]
  have J0 : IJ w M m D (.slice a l.length cap) l [] w3 := ⟨x0, x1, x2, hV3, e1, by simp, by simp, by omega⟩
  clear x0 x1 x2 hw3 hlenv hnil hV e1
  refine wpIn_rangeFunc_ownH rfl (by omega) (gf := 177) (lb := #[.pointer (some ⟨w.heap.size + 1 + 1 + 1, 0, none⟩)]) rfl trivial (enters_of Try.func177 (by kernel_rfl) rfl)
    (dotsp_stops 4 (by omega) (w.heap.size + 1 + 1 + 1) w3.heap.size M m D hm w3 (Nat.le_refl _) x3 hV3) KC.trans kc_b (Below.refl _ _) (fun _ => rfl)
    (fun (pre : List Dt) W => IJ w M m D (.slice a l.length cap) l pre W)
    (fun c (q : List Dt) (_ : World) => ∃ (pre : List Dt) (x : Dt), q = pre ++ [x] ∧ ¬ (l[pre.length]? = some x.1))
    (fun pre X Y row hs hg hr => IJ.own (n1 := w3.heap.size) (by omega) (by omega) hs hg hr)
    (fun c => ownFrom_pure _ _)
    J0
    (fun (x : Dt) a' W => ∃ g, w3.heap.size ≤ g ∧ Bx W g 123 #[.int .i64 x.1.1, .int .i64 x.1.2] ∧ a' = { tmps := #[.map (some M), .slice a l.length cap, undef, .pointer (some ⟨w.heap.size, 0, none⟩), .pointer (some ⟨w.heap.size + 1, 0, none⟩), .pointer (some ⟨w.heap.size + 1 + 1, 0, none⟩), .func (.func 177) #[] #[.pointer (some ⟨w.heap.size + 1 + 1 + 1, 0, none⟩)], .pointer (some ⟨g, 0, none⟩), .map (some M), .func (.func 177) #[] #[.pointer (some ⟨w.heap.size + 1 + 1 + 1, 0, none⟩)], .func (.func 177) #[] #[.pointer (some ⟨w.heap.size + 1 + 1 + 1, 0, none⟩)], .bool false, .func (.func 177) #[] #[.pointer (some ⟨w.heap.size + 1 + 1 + 1, 0, none⟩)], .agg #[.int .i64 x.1.1, .int .i64 x.1.2], undef, undef, undef, undef, undef, undef, undef, undef, undef, undef, undef, undef, undef, undef, undef, undef, undef, undef, undef, undef, undef, undef, undef, undef, undef, undef, undef, undef, undef, undef, undef, undef, undef, undef, undef, undef, undef], defers := [] })
    (fun x a' => fun s X Y row hs hg hr => by obtain ⟨g, h1, h2, h3⟩ := hs; exact ⟨g, h1, bx_own _ _ _ _ s X Y row h2 hg hr, h3⟩) ?assign ?body ?done ?stop
  case assign =>
    rintro l0 pre x W K hJ hK
    have hBW : w3.heap.size ≤ W.heap.size := by have := hJ.ge; omega
    unfold encDt
    gi_wp2
    exact hK _ _ ((KeepsOthers.alloc _ _).from _) (KC.of_below ((Below.refl _ _).alloc (Nat.le_refl _) _)) (hJ.al _) ⟨W.heap.size, hBW, Bx.fresh W _ _, rfl⟩
  case body =>
    rintro l0 pre x a' W hl ⟨r, hr⟩ hJ ⟨g, hg, bx, rfl⟩ hN
    have HJ := Lib.hid hJ
    obtain ⟨⟨xw, xn⟩, xi⟩ := x
    dsimp only at *
    have y0 := hJ.b0.read (i := 0) rfl
    have y1 := hJ.b1.read (i := 0) rfl
    have y2 := hJ.b2.read (i := 0) rfl
    have f1 := hJ.b1.open_ 0
    have f2 := hJ.b2.open_ 0
    obtain ⟨z0, z1⟩ := And.intro (bx.read (i := 0) rfl) (bx.read (i := 1) rfl)
    have HX := Lib.hid (HDR.out.next hJ.bel)
    have hle := hJ.le
    clear hJ bx
    by_cases hge : l.length ≤ pre.length
    · have HNO := Lib.hid (show ¬ (l[pre.length]? = some (xw, xn)) from fun e => by rw [List.getElem?_eq_none hge] at e; cases e)
      have d1 : decide ((l.length : Int) ≤ (pre.length : Int)) = true := by simp [hge]
      gi_wp2
      refine wpIn_region_quiet_round (by kernel_rfl) (by kernel_rfl) (by kernel_rfl) ?_
      repeat (quiet_step (fail))
      refine wpQuiet_nil ?_
      intro _ hw'
      obtain ⟨nq, hw''⟩ := hw'
      subst hw''
      gi_wp2
      exact ⟨((ko_dn W nq).trans (KeepsOthers.setCell _ _ _)).from _, pre, _, rfl, HNO.out⟩
    · have hlt : pre.length < l.length := by omega
      have d1 : decide ((l.length : Int) ≤ (pre.length : Int)) = false := by rw [decide_eq_false_iff_not]; omega
      obtain ⟨a', cap', hv, _, hc⟩ := id HX.out
      obtain ⟨b, off, ha, hcell⟩ := hc (fun e => by rw [e] at hlt; simp at hlt)
      subst ha
      cases hv
      obtain ⟨c0, c1⟩ := hcell pre.length hlt
      have HE := Lib.hid (show l[pre.length]? = some l[pre.length] from List.getElem?_eq_getElem hlt)
      clear hcell hc
      generalize l[pre.length] = p at *
      obtain ⟨lw, ln⟩ := p
      dsimp only at *
      have hi1 : (pre.length : Int) < (l.length : Int) := by omega
      by_cases h1 : xw = lw
      · have n1 : (xw != lw) = false := by simp [h1]
        by_cases h2 : xn = ln
        · have n2 : (xn != ln) = false := by simp [h2]
          have HEQ := Lib.hid (And.intro h1 h2)
          have hk1 : (pre.length : Int) + 1 ≤ 100000 := by omega
          clear h1 h2
          gi_wp2
          refine wpIn_region_quiet_round (by kernel_rfl) (by kernel_rfl) (by kernel_rfl) ?_
          repeat (quiet_step (fail))
          refine wpQuiet_nil ?_
          intro _ hw'
          obtain ⟨nq, hw''⟩ := hw'
          subst hw''
          gi_wp2
          have hst := HJ.out.step (n := nq) hM ⟨(xw, xn), xi⟩ (by show l[pre.length]? = some (xw, xn); rw [HE.out, HEQ.out.1, HEQ.out.2])
          refine ⟨((ko_dn W nq).trans (KeepsOthers.setCell _ _ _)).from _, (KC.of_below (below_dn W nq)).trans (KC.of_grownBy (gb_set (W.drewN nq) (w.heap.size + 1 + 1) 0 _) (fun j hj => by cases hj; omega)), hst⟩
        · have n2 : (xn != ln) = true := by simp [h2]
          have HNO := Lib.hid (show ¬ (l[pre.length]? = some (xw, xn)) from fun e => by rw [HE.out] at e; cases e; exact h2 rfl)
          clear h1 h2
          gi_wp2
          refine wpIn_region_quiet_round (by kernel_rfl) (by kernel_rfl) (by kernel_rfl) ?_
          repeat (quiet_step (fail))
          refine wpQuiet_nil ?_
          intro _ hw'
          obtain ⟨nq, hw''⟩ := hw'
          subst hw''
          gi_wp2
          exact ⟨((ko_dn W nq).trans (KeepsOthers.setCell _ _ _)).from _, pre, _, rfl, HNO.out⟩
      · have n1 : (xw != lw) = true := by simp [h1]
        have HNO := Lib.hid (show ¬ (l[pre.length]? = some (xw, xn)) from fun e => by rw [HE.out] at e; cases e; exact h1 rfl)
        clear h1
        gi_wp2
        refine wpIn_region_quiet_round (by kernel_rfl) (by kernel_rfl) (by kernel_rfl) ?_
        repeat (quiet_step (fail))
        refine wpQuiet_nil ?_
        intro _ hw'
        obtain ⟨nq, hw''⟩ := hw'
        subst hw''
        gi_wp2
        exact ⟨((ko_dn W nq).trans (KeepsOthers.setCell _ _ _)).from _, pre, _, rfl, HNO.out⟩
  case done =>
    rintro D2 xs W hD ⟨hS1, hS2, hS3⟩ hJ hK
    have HX := Lib.hid (HONE.out xs hS1 hS2)
    have HL := Lib.hid (show xs.length = l.length by have := congrArg List.length (HONE.out xs hS1 hS2); rwa [List.length_map] at this)
    have HJ := Lib.hid hJ
    have y0 := hJ.b0.read (i := 0) rfl
    have y1 := hJ.b1.read (i := 0) rfl
    have y2 := hJ.b2.read (i := 0) rfl
    have f1 := hJ.b1.open_ 0
    have hlv := World.ownsMap.len hJ.vm Try.underlying116 3
    rw [HSZ.out] at hlv
    rw [HL.out] at y2
    have hr1 := Lib.hid (hJ.b1.put 0 (.bool true))
    have hK2 := Lib.hid ((KeepsOthers.setCell W ⟨w.heap.size + 1, 0, none⟩ (.bool true)).same D2 _ hK rfl)
    have HB := Lib.hid (hJ.bel.setCell (p := ⟨w.heap.size + 1, 0, none⟩) (by show w.heap.size ≤ w.heap.size + 1; omega) (.bool true))
    clear hJ hS1 hS2 hS3
    gi_wp2
    refine ⟨by simp, .inl ⟨_, _, rfl, run_takeDeferred hK2.out, ?_⟩⟩
    have zz := cell_kept (hr1.out.read (i := 0) rfl) (grownBy_putObj' _ D2 (.deferred none)) (fun r e => by cases e; exact ⟨_, hK2.out, rfl⟩)
    refine ⟨.bool true, by simp [results, Try.results72, go_sem, zz], ?_⟩
    have hbf : Below w.heap.size w ((W.setCell ⟨w.heap.size + 1, 0, none⟩ (.bool true)).putObj D2 (.deferred none)) := HB.out.trans (belowK_b (w := w) (Nat.le_refl _) (W.setCell ⟨w.heap.size + 1, 0, none⟩ (.bool true)) D2 _ _ (by omega) hK2.out rfl rfl)
    first | exact hbf | exact ⟨rfl, hbf⟩
  case stop =>
    rintro D2 c q W hD ⟨ys, ⟨hy1, hy2⟩, hyp⟩ ⟨pre, x, rfl, hno⟩ hK
    exact absurd (pref_next (HONE.out ys hy1 hy2) hyp) hno
end Go.Proofs.Ytaeflfgkdjfnfaa
