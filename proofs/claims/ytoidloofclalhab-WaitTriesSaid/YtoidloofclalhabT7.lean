/- Layer 48 (wait): Tries, by the code. -/
import Derived.Test.YtoidloofclalhabT7a
namespace Go.Proofs.Ytoidloofclalhab
open Go.RowKit
attribute [local go_sem] Oper.semAt_some

def stdB (M t : Int) : Bool := decide (clampI M 1 1073741824 = 1 ∨ 1073741824 ≤ t)
theorem steady_any (F M s t : Int) (w : World) :
    Calls Try.prog 58 #[wv F M s, .int .i64 t] w fun e w' => e = .returned (.bool (stdB M t)) ∧ Below w.heap.size w w' := by
  have C := Lib.hid (fun W => within_any M 1 1073741824 W)
  have hr : stdB M t = decide (clampI M 1 1073741824 = 1 ∨ 1073741824 ≤ t) := rfl
  generalize clampI M 1 1073741824 = m at *
  generalize stdB M t = r at *
  have hb := (Below.refl w.heap.size w).alloc (Nat.le_refl _) (.cells #[.int .i64 F, .int .i64 M, .int .u32 s] 66)
  have HB := Lib.hid hb
  clear hb
  unfold wv
  by_cases h1 : m = 1
  · have d1 : (m == 1) = true := by simpa using h1
    have HR := Lib.hid (show r = true by rw [hr]; simp [h1])
    clear hr h1
    go_enter Try.func58, Try.ntmps58
    go_wp2_with fail
    refine (C.out _).mono ?_; rintro e w1 ⟨rfl, rfl⟩
    go_wp2_with fail
    go_ret
    exact ⟨by rw [HR.out]; rfl, HB.out⟩
  · have d1 : (m == 1) = false := by simpa using h1
    have HR := Lib.hid (show r = decide (1073741824 ≤ t) by rw [hr]; simp [h1])
    clear hr h1
    go_enter Try.func58, Try.ntmps58
    go_wp2_with fail
    refine (C.out _).mono ?_; rintro e w1 ⟨rfl, rfl⟩
    go_wp2_with fail
    go_ret
    exact ⟨by rw [HR.out]; rfl, HB.out⟩
/-- What Tries' own boxes hold. -/
structure TB (F M s most stop : Int) (w : World) (k : Int) (W : World) : Prop where
  b0 : Bx W w.heap.size 66 #[.int .i64 F, .int .i64 M, .int .u32 s]
  b1 : Bx W (w.heap.size + 1) 3 #[.int .i64 most]
  b2 : Bx W (w.heap.size + 1 + 1) 3 #[.int .i64 0]
  b3 : Bx W (w.heap.size + 1 + 1 + 1) 3 #[.int .i64 stop]
  b4 : Bx W (w.heap.size + 1 + 1 + 1 + 1) 3 #[.int .i64 k]
  bel : Below w.heap.size w W
theorem TB.facts {F M s most stop : Int} {w : World} {k : Int} {W : World} (h : TB F M s most stop w k W) :
    W.cell? ⟨w.heap.size, 0, none⟩ = some (.int .i64 F) ∧ W.cell? ⟨w.heap.size, 1, none⟩ = some (.int .i64 M) ∧ W.cell? ⟨w.heap.size, 2, none⟩ = some (.int .u32 s) ∧ W.cell? ⟨w.heap.size + 1, 0, none⟩ = some (.int .i64 most) ∧ W.cell? ⟨w.heap.size + 1 + 1, 0, none⟩ = some (.int .i64 0) ∧ W.cell? ⟨w.heap.size + 1 + 1 + 1, 0, none⟩ = some (.int .i64 stop) ∧ W.cell? ⟨w.heap.size + 1 + 1 + 1 + 1, 0, none⟩ = some (.int .i64 k) :=
  ⟨h.b0.read rfl, h.b0.read rfl, h.b0.read rfl, h.b1.read rfl, h.b2.read rfl, h.b3.read rfl, h.b4.read rfl⟩
theorem TB.next {F M s most stop : Int} {w : World} {k : Int} {W W' : World} (h : TB F M s most stop w k W) (hb : Below W.heap.size W W') : TB F M s most stop w k W' :=
  ⟨h.b0.next hb, h.b1.next hb, h.b2.next hb, h.b3.next hb, h.b4.next hb, bnext h.bel hb⟩
theorem TB.drew {F M s most stop : Int} {w : World} {k : Int} {W : World} (h : TB F M s most stop w k W) : TB F M s most stop w k W.drew :=
  ⟨h.b0.drawn 1, h.b1.drawn 1, h.b2.drawn 1, h.b3.drawn 1, h.b4.drawn 1, h.bel.drew⟩
theorem TB.own {F M s most stop : Int} {w : World} {k : Int} {X Y : World} {row : Option Nat} {n1 : Nat} (hn : w.heap.size ≤ n1) (h : TB F M s most stop w k X) (hg : X.grownBy Y row) (hr : ∀ r, row = some r → n1 ≤ r ∧ ∃ o : Obj, X.heap[r]? = some o ∧ o.isCells = false) : TB F M s most stop w k Y :=
  ⟨bx_own (β := Unit) _ _ _ _ () X Y row h.b0 hg hr, bx_own (β := Unit) _ _ _ _ () X Y row h.b1 hg hr, bx_own (β := Unit) _ _ _ _ () X Y row h.b2 hg hr, bx_own (β := Unit) _ _ _ _ () X Y row h.b3 hg hr, bx_own (β := Unit) _ _ _ _ () X Y row h.b4 hg hr, h.bel.grown hg h.bel.size (fun k e => Nat.le_trans hn (hr k e).1)⟩
theorem TB.more {F M s most stop : Int} {w : World} {k : Int} {W : World} (h : TB F M s most stop w k W) (k' : Int) : TB F M s most stop w k' (W.setCell ⟨w.heap.size + 1 + 1 + 1 + 1, 0, none⟩ (.int .i64 k')) :=
  ⟨h.b0.beside (p := ⟨w.heap.size + 1 + 1 + 1 + 1, 0, none⟩) (by show w.heap.size + 1 + 1 + 1 + 1 ≠ w.heap.size; omega) _, h.b1.beside (p := ⟨w.heap.size + 1 + 1 + 1 + 1, 0, none⟩) (by show w.heap.size + 1 + 1 + 1 + 1 ≠ w.heap.size + 1; omega) _, h.b2.beside (p := ⟨w.heap.size + 1 + 1 + 1 + 1, 0, none⟩) (by show w.heap.size + 1 + 1 + 1 + 1 ≠ w.heap.size + 1 + 1; omega) _,
    h.b3.beside (p := ⟨w.heap.size + 1 + 1 + 1 + 1, 0, none⟩) (by show w.heap.size + 1 + 1 + 1 + 1 ≠ w.heap.size + 1 + 1 + 1; omega) _, h.b4.put 0 _, h.bel.setCell (p := ⟨w.heap.size + 1 + 1 + 1 + 1, 0, none⟩) (by show w.heap.size ≤ w.heap.size + 1 + 1 + 1 + 1; omega) _⟩
/-- What a round answers by which all others are told. -/
def resI (F M s tick stop most : Int) (n : Nat) (x : Pt F M s tick) : Int := min ((n : Int) + (stop - atI F M s tick x.1 - 1).tdiv (ofI F M s x.1) + 1) most
theorem of_one (F M s t : Int) (h : clampI M 1 1073741824 = 1) : ofI F M s t = 1 := by
  have h1 := ofI_bd F M s t
  have h2 : bdI F M t ≤ 1 := by unfold bdI bndI; rw [h]; exact Int.min_le_right _ _
  omega
theorem at_one (F M s tick : Int) (h : clampI M 1 1073741824 = 1) : ∀ k : Nat, atI F M s tick k = tick + k
  | 0 => by show tick = tick + ((0 : Nat) : Int); omega
  | k + 1 => by
    show atI F M s tick k + ofI F M s k = _
    rw [at_one F M s tick h k, of_one F M s k h]
    omega
theorem ptsTo_last {F M s tick : Int} {pre : List (Pt F M s tick)} {x : Pt F M s tick} (h : ptsTo F M s tick (pre ++ [x])) : x.1 = pre.length := by
  unfold ptsTo at *
  rw [List.map_append, List.length_append] at h
  simp only [List.map_cons, List.map_nil, List.length_cons, List.length_nil, List.range_succ] at h
  have := (List.append_inj h (by simp)).2
  simpa using this
theorem res_is {F M s tick stop most : Int} {pre : List (Pt F M s tick)} {x : Pt F M s tick} (h : ptsTo F M s tick (pre ++ [x])) (hall : ∀ k < (pre ++ [x]).length, atI F M s tick k < stop) (hlt : (pre.length : Int) < most) (hmost : most ≤ 100) (hst : stdB M (x.1 : Int) = true) (ht : 0 ≤ tick) :
    ∃ K : Nat, resI F M s tick stop most pre.length x = K ∧ (K : Int) ≤ max most 0 ∧ (∀ k < K, atI F M s tick k < stop) ∧ ((K : Int) = max most 0 ∨ stop ≤ atI F M s tick K) := by
  have hx := ptsTo_last h
  have h1 : clampI M 1 1073741824 = 1 := by
    have := of_decide_eq_true hst
    omega
  have hk := hall pre.length (by simp)
  rw [at_one F M s tick h1] at hk
  have hr : resI F M s tick stop most pre.length x = min (stop - tick) most := by
    unfold resI
    rw [of_one F M s _ h1, Int.tdiv_one, at_one F M s tick h1, hx]
    congr 1
    omega
  refine ⟨(min (stop - tick) most).toNat, ?_, ?_, ?_, ?_⟩
  · rw [hr]; omega
  · omega
  · intro k hk2; rw [at_one F M s tick h1]; omega
  · rw [at_one F M s tick h1]; omega
theorem qfacts {stop xt xo L : Int} (h2 : 0 ≤ xt) (h3 : xt ≤ 1099511627776) (he : 0 ≤ stop ∧ stop ≤ 1099511627776) (hL : 0 ≤ L ∧ L < 100) (hb : 1 ≤ xo) :
    IntKind.i64.wrap (stop - xt) = stop - xt ∧ IntKind.i64.wrap (stop - xt - 1) = stop - xt - 1 ∧ IntKind.i64.wrap ((stop - xt - 1).tdiv xo) = (stop - xt - 1).tdiv xo ∧
    IntKind.i64.wrap (L + (stop - xt - 1).tdiv xo) = L + (stop - xt - 1).tdiv xo ∧ IntKind.i64.wrap (L + (stop - xt - 1).tdiv xo + 1) = L + (stop - xt - 1).tdiv xo + 1 ∧ ¬ xo = 0 := by
  have h := Int.natAbs_tdiv_le_natAbs (stop - xt - 1) xo
  generalize (stop - xt - 1).tdiv xo = q at *
  have hq : -1099511627780 ≤ q ∧ q ≤ 1099511627780 := by omega
  clear h
  exact ⟨IntWalk.i64_in _ (by omega), IntWalk.i64_in _ (by omega), IntWalk.i64_in _ (by omega), IntWalk.i64_in _ (by omega), IntWalk.i64_in _ (by omega), by omega⟩
def TriesE (F M s tick stop most : Int) (w : World) (e : Ending) (w' : World) : Prop :=
  ∃ K : Nat, e = .returned (.int .i64 K) ∧ (K : Int) ≤ max most 0 ∧ (∀ k < K, atI F M s tick k < stop) ∧ ((K : Int) = max most 0 ∨ stop ≤ atI F M s tick K) ∧ Below w.heap.size w w'
set_option maxRecDepth 100000 in
set_option maxHeartbeats 8000000 in
theorem tries_any (F M s fr to_ most : Int) (hs : 0 ≤ s ∧ s < 4294967296) (hmost : most ≤ 100) (w : World) :
    Calls Try.prog 43 #[wv F M s, .int .i64 fr, .int .i64 to_, .int .i64 most] w (TriesE F M s (clampI fr 0 1099511627776) (clampI to_ 0 1099511627776) most w) := by
  have ht := clamp_bd fr 0 1099511627776 (by omega)
  have he := clamp_bd to_ 0 1099511627776 (by omega)
  have CA := Lib.hid (fun W => all_any F M s fr to_ W)
  have CW := Lib.hid (fun W => within_any to_ 0 1099511627776 W)
  have CS := Lib.hid (fun t W => steady_any F M s t W)
  have CO := Lib.hid (fun t W => of_any F M s t hs W)
  generalize clampI fr 0 1099511627776 = tick at *
  generalize clampI to_ 0 1099511627776 = stop at *
  unfold wv at *
  refine (callsIn_wide (n := 5)).1 ?_
  refine callsIn_of_wp_marks Try.func43 rfl trivial ?_ rfl
  simp only [Try.ntmps43, List.size_toArray, List.length_cons, List.length_nil, Nat.reduceAdd, Nat.reduceSub, Array.replicate_succ, Array.replicate_zero, List.push_toArray, List.append_toArray, List.nil_append, List.cons_append]
  gi_wp2_with (first | (refine ⟨trivial, ?_⟩; gi_at_call 54; refine (callsIn_wide.2 (CW.out _)).mono ?_; rintro e w2 ⟨rfl, rfl⟩) | (refine ⟨trivial, ?_⟩; gi_at_call 57; refine (callsIn_wide.2 (CA.out _)).mono ?_; rintro e w2 ⟨rfl, hx0, hx1, hx2, hb2⟩))
  have hmix : Try.prog.follows .mixedOrders = true := by kernel_rfl
  have hsz2 : w.heap.size + 8 ≤ w2.heap.size := by have h := Bx.inside hx2; simp at h; omega
  have e1 : Below w.heap.size w (((((w.alloc (.cells #[.int .i64 F, .int .i64 M, .int .u32 s] 66)).alloc (.cells #[.int .i64 most] 3)).alloc (.cells #[.int .i64 0] 3)).alloc (.cells #[.int .i64 stop] 3)).alloc (.cells #[.int .i64 0] 3)) := (((((Below.refl _ _).alloc (Nat.le_refl _) _).alloc (by simp) _).alloc (by simp; omega) _).alloc (by simp; omega) _).alloc (by simp; omega) _
  have hTB : TB F M s most stop w 0 w2 := ⟨Bx.next ((((((Bx.fresh w _ _).past _).past _).past _).past _)) hb2, Bx.next (((((Bx.fresh' (w.alloc _) (by simp) _ _).past _).past _).past _)) hb2, Bx.next ((((Bx.fresh' ((w.alloc _).alloc _) (by simp) _ _).past _).past _)) hb2, Bx.next (((Bx.fresh' (((w.alloc _).alloc _).alloc _) (by simp) _ _).past _)) hb2, Bx.next (Bx.fresh' ((((w.alloc _).alloc _).alloc _).alloc _) (by simp) _ _) hb2, bnext e1 hb2⟩
  clear hb2 e1 CA CW
  simp only [World.size_alloc] at hx0 hx1 hx2
  generalize hn5 : w.heap.size + 1 + 1 + 1 + 1 + 1 = B at *
  have hBn : w.heap.size + 5 = B := by omega
  refine wpIn_rangeFunc_ownH rfl (by omega) (gf := 61) (lb := #[.pointer (some ⟨B + 1, 0, none⟩), .pointer (some ⟨B + 2, 0, none⟩), .pointer (some ⟨B, 0, none⟩)]) rfl trivial (enters_of Try.func61 (by kernel_rfl) rfl)
    (all_stops 4 (by omega) F M s tick stop hs ht he B 2199023255552 (Nat.le_refl _) w2 hx0 hx1 hx2) KB.trans kb_b (Below.refl _ _) (fun _ => rfl)
    (fun (pre : List (Pt F M s tick)) W => TB F M s most stop w (pre.length : Int) W ∧ (pre.length : Int) ≤ max most 0)
    (fun c (q : List (Pt F M s tick)) W => (∃ pre x, q = pre ++ [x] ∧ (pre.length : Int) ≤ max most 0 ∧ ((c = .exit 0 ∧ most ≤ (pre.length : Int) ∧ TB F M s most stop w (pre.length : Int) W) ∨
      (c = .ret ∧ (pre.length : Int) < most ∧ stdB M (x.1 : Int) = true ∧ Bx W (w.heap.size + 1 + 1) 3 #[.int .i64 (resI F M s tick stop most pre.length x)] ∧ Below w.heap.size w W))))
    (fun pre X Y row hs hg hr => ⟨TB.own (n1 := w2.heap.size) (by omega) hs.1 hg hr, hs.2⟩)
    (fun c q X Y row hs hg hr => by
      obtain ⟨pre, x, hq, hl, h | ⟨h1, h2, h3, h4, h5⟩⟩ := hs
      · exact ⟨pre, x, hq, hl, .inl ⟨h.1, h.2.1, TB.own (n1 := w2.heap.size) (by omega) h.2.2 hg hr⟩⟩
      · exact ⟨pre, x, hq, hl, .inr ⟨h1, h2, h3, bx_own (β := Unit) _ _ _ _ () X Y row h4 hg hr, h5.grown hg h5.size (fun k e => Nat.le_trans (by omega) (hr k e).1)⟩⟩)
    ⟨hTB, by simp; omega⟩
    (fun (x : Pt F M s tick) a' W => a' = { tmps := #[.agg #[.int .i64 F, .int .i64 M, .int .u32 s], .int .i64 fr, .int .i64 to_, .int .i64 most, .pointer (some ⟨w.heap.size, 0, none⟩), undef, undef, .pointer (some ⟨w.heap.size + 1, 0, none⟩), .pointer (some ⟨w.heap.size + 1 + 1, 0, none⟩), .pointer (some ⟨w.heap.size + 1 + 1 + 1, 0, none⟩), .pointer (some ⟨w.heap.size + 1 + 1 + 1 + 1, 0, none⟩), .int .i64 (x.1 : Int), .int .i64 (atI F M s tick x.1), .int .i64 to_, .int .i64 stop, .agg #[.int .i64 F, .int .i64 M, .int .u32 s], .int .i64 fr, .int .i64 to_, .func (.func 61) #[] #[.pointer (some ⟨B + 1, 0, none⟩), .pointer (some ⟨B + 2, 0, none⟩), .pointer (some ⟨B, 0, none⟩)], .int .i64 (x.1 : Int), .int .i64 (atI F M s tick x.1), undef, undef, undef, undef, undef, undef, undef, undef, undef, undef, undef, undef, undef, undef, undef, undef, undef, undef, undef, undef, undef, undef], defers := [] })
    (fun x a' => fun _ X Y row hs _ _ => hs) ?assign ?body ?done ?stop
  case assign =>
    rintro l pre x W K hI hK
    unfold encPt
    gi_wp2
    exact hK _ _ (KeepsFrom.refl _ _) (KB.refl _ _) hI rfl
  case body =>
    rintro l pre x a' W hl ⟨r, hr⟩ ⟨htb, hle⟩ rfl hN
    have HTB := Lib.hid htb
    obtain ⟨c0, c1, c2, c3, c4, c5, c6⟩ := htb.facts
    have f4 := htb.b4.open_ 0
    clear htb
    by_cases hmo : most ≤ (pre.length : Int)
    · gi_wp2
      exact ⟨KeepsFrom.refl _ _, pre, x, rfl, hle, .inl ⟨rfl, hmo, HTB.out⟩⟩
    · have hlt : (pre.length : Int) < most := by omega
      have CS1 := Lib.hid (fun W => CS.out (x.1 : Int) W)
      have CO1 := Lib.hid (fun W => CO.out (x.1 : Int) W)
      cases hst : stdB M (x.1 : Int) with
      | false =>
        rw [hst] at CS1
        clear hst
        have hk1 : (pre.length : Int) + 1 ≤ 100 := by omega
        have HLE := Lib.hid (show ((pre ++ [x]).length : Int) = (pre.length : Int) + 1 by rw [List.length_append]; simp)
        gi_wp2_with (refine ⟨trivial, ?_⟩; gi_at_call 58; refine (CallsIn.inRound l (callsIn_wide.2 (CS1.out _))).mono ?_; rintro e w5 ⟨rfl, hb5⟩; have HT5 := Lib.hid (HTB.out.next hb5); have HB5 := Lib.hid hb5; obtain ⟨d0, d1, d2, d3, d4, d5, d6⟩ := HT5.out.facts; have g4 := HT5.out.b4.open_ 0; clear c0 c1 c2 c3 c4 c5 c6 f4 hb5)
        have hKO : KeepsOthers W (w5.setCell ⟨w.heap.size + 1 + 1 + 1 + 1, 0, none⟩ (.int .i64 ((pre.length : Int) + 1))) := (KeepsOthers.of_grownBy (gb_below HB5.out none) (fun j o hj _ => by cases hj)).trans (KeepsOthers.setCell _ _ _)
        have hKB : KB B W (w5.setCell ⟨w.heap.size + 1 + 1 + 1 + 1, 0, none⟩ (.int .i64 ((pre.length : Int) + 1))) := (KB.of_below HB5.out).trans (KB.of_grown (gb_set w5 (w.heap.size + 1 + 1 + 1 + 1) 0 (.int .i64 ((pre.length : Int) + 1))) (fun k hk => .inl (by cases hk; omega)))
        refine ⟨hKO.from _, hKB, ?_, ?_⟩
        · rw [HLE.out]; exact HT5.out.more _
        · rw [HLE.out]; omega
      | true =>
        have hbd := ofI_bd F M s (x.1 : Int)
        have hmx := ofI_max F M s (x.1 : Int)
        have hxp := x.2
        have HST := Lib.hid hst
        rw [hst] at CS1
        obtain ⟨hx1, hx2, hx3⟩ := hxp
        have HRES : Hid (min ((pre.length : Int) + (stop - atI F M s tick x.1 - 1).tdiv (ofI F M s x.1) + 1) most = resI F M s tick stop most pre.length x) := Lib.hid rfl
        have hx0 : (0 : Int) ≤ (x.1 : Int) := by omega
        clear hst
        generalize hrr : resI F M s tick stop most pre.length x = rr at *
        generalize atI F M s tick x.1 = xt at *
        generalize ofI F M s (x.1 : Int) = xo at *
        generalize hxi : (x.1 : Int) = xi at *
        obtain ⟨hb1, hb2, hb3⟩ := hbd
        clear hb2 hb3
        gi_wp2_with (refine ⟨trivial, ?_⟩; gi_at_call 58; refine (CallsIn.inRound l (callsIn_wide.2 (CS1.out _))).mono ?_; rintro e w5 ⟨rfl, hb5⟩; have HT5 := Lib.hid (HTB.out.next hb5); have HB5 := Lib.hid hb5; obtain ⟨d0, d1, d2, d3, d4, d5, d6⟩ := HT5.out.facts; have g2 := HT5.out.b2.open_ 0; clear c0 c1 c2 c3 c4 c5 c6 f4 hb5)
        obtain ⟨s1, s2, s3, s4, s5', hne⟩ := qfacts (L := (pre.length : Int)) hx2 hx3 he ⟨by omega, by omega⟩ hb1
        generalize hqd : (stop - xt - 1).tdiv xo = q at *
        refine wpIn_region_held (S := fun W => W.cell? ⟨w.heap.size, 0, none⟩ = some (.int .i64 F) ∧ W.cell? ⟨w.heap.size, 1, none⟩ = some (.int .i64 M) ∧ W.cell? ⟨w.heap.size, 2, none⟩ = some (.int .u32 s) ∧ W.cell? ⟨w.heap.size + 1, 0, none⟩ = some (.int .i64 most) ∧ W.cell? ⟨w.heap.size + 1 + 1 + 1, 0, none⟩ = some (.int .i64 stop) ∧ W.cell? ⟨w.heap.size + 1 + 1 + 1 + 1, 0, none⟩ = some (.int .i64 (pre.length : Int))) (by kernel_rfl) (by kernel_rfl) ⟨d0, d1, d2, d3, d5, d6⟩ (fun hS0 => ?_)
        refine wpAnyH_take (i := 0) (oi := { dst := some 27, op := Op.load 3 (Operand.tmp 10), type := 3, pos := "wait.go:54", after := #[], guard := none }) (v := .int .i64 (pre.length : Int)) (fuel := 13) rfl (by kernel_rfl) (by kernel_rfl) (by kernel_rfl) (fun _ _ _ h => h) (Or.inl ⟨by kernel_rfl, ?_⟩) hS0 ?_
        · (intro W hW; (try dsimp only at hW); obtain ⟨s0, s1, s2, s3, s5, s6⟩ := hW; first | (go_simp; done) | (go_simp; with_reducible rfl) | (go_simp; rfl))
        simp only [Act.put, List.setIfInBounds_toArray, List.set_cons_zero, List.set_cons_succ]
        refine wpAnyH_take (i := 1) (oi := { dst := some 28, op := Op.load 3 (Operand.tmp 9), type := 3, pos := "wait.go:54", after := #[], guard := none }) (v := .int .i64 stop) (fuel := 12) rfl (by kernel_rfl) (by kernel_rfl) (by kernel_rfl) (fun _ _ _ h => h) (Or.inl ⟨by kernel_rfl, ?_⟩) hS0 ?_
        · (intro W hW; (try dsimp only at hW); obtain ⟨s0, s1, s2, s3, s5, s6⟩ := hW; first | (go_simp; done) | (go_simp; with_reducible rfl) | (go_simp; rfl))
        simp only [Act.put, List.setIfInBounds_toArray, List.set_cons_zero, List.set_cons_succ]
        refine wpAnyH_take (i := 2) (oi := { dst := some 29, op := Op.move (Operand.tmp 12), type := 3, pos := "wait.go:54", after := #[], guard := none }) (v := .int .i64 xt) (fuel := 11) rfl (by kernel_rfl) (by kernel_rfl) (by kernel_rfl) (fun _ _ _ h => h) (Or.inl ⟨by kernel_rfl, ?_⟩) hS0 ?_
        · (intro W hW; (try dsimp only at hW); obtain ⟨s0, s1, s2, s3, s5, s6⟩ := hW; first | (go_simp; done) | (go_simp; with_reducible rfl) | (go_simp; rfl))
        simp only [Act.put, List.setIfInBounds_toArray, List.set_cons_zero, List.set_cons_succ]
        refine wpAnyH_take (i := 3) (oi := { dst := some 30, op := Op.binOp BinOp.sub 3 (Operand.tmp 28) (Operand.tmp 29) 3, type := 3, pos := "wait.go:54", after := #[{ on := 1, ground := Ground.data }, { on := 2, ground := Ground.data }], guard := none }) (v := .int .i64 (stop - xt)) (fuel := 10) rfl (by kernel_rfl) (by kernel_rfl) (by kernel_rfl) (fun _ _ _ h => h) (Or.inl ⟨by kernel_rfl, ?_⟩) hS0 ?_
        · (intro W hW; (try dsimp only at hW); obtain ⟨s0, s1, s2, s3, s5, s6⟩ := hW; first | (go_simp; done) | (go_simp; with_reducible rfl) | (go_simp; rfl))
        simp only [Act.put, List.setIfInBounds_toArray, List.set_cons_zero, List.set_cons_succ]
        refine wpAnyH_take (i := 4) (oi := { dst := some 31, op := Op.binOp BinOp.sub 3 (Operand.tmp 30) (Operand.const (Value.int IntKind.i64 1)) 3, type := 3, pos := "wait.go:54", after := #[{ on := 3, ground := Ground.data }], guard := none }) (v := .int .i64 (stop - xt - 1)) (fuel := 9) rfl (by kernel_rfl) (by kernel_rfl) (by kernel_rfl) (fun _ _ _ h => h) (Or.inl ⟨by kernel_rfl, ?_⟩) hS0 ?_
        · (intro W hW; (try dsimp only at hW); obtain ⟨s0, s1, s2, s3, s5, s6⟩ := hW; first | (go_simp; done) | (go_simp; with_reducible rfl) | (go_simp; rfl))
        simp only [Act.put, List.setIfInBounds_toArray, List.set_cons_zero, List.set_cons_succ]
        refine wpAnyH_take (i := 5) (oi := { dst := some 32, op := Op.load 66 (Operand.tmp 4), type := 66, pos := "wait.go:54", after := #[], guard := none }) (v := .agg #[.int .i64 F, .int .i64 M, .int .u32 s]) (fuel := 8) rfl (by kernel_rfl) (by kernel_rfl) (by kernel_rfl) (fun _ _ _ h => h) (Or.inl ⟨by kernel_rfl, ?_⟩) hS0 ?_
        · (intro W hW; (try dsimp only at hW); obtain ⟨s0, s1, s2, s3, s5, s6⟩ := hW; first | (go_simp; done) | (go_simp; with_reducible rfl) | (go_simp; rfl))
        simp only [Act.put, List.setIfInBounds_toArray, List.set_cons_zero, List.set_cons_succ]
        refine wpAnyH_take (i := 6) (oi := { dst := some 33, op := Op.move (Operand.tmp 11), type := 3, pos := "wait.go:54", after := #[], guard := none }) (v := .int .i64 xi) (fuel := 7) rfl (by kernel_rfl) (by kernel_rfl) (by kernel_rfl) (fun _ _ _ h => h) (Or.inl ⟨by kernel_rfl, ?_⟩) hS0 ?_
        · (intro W hW; (try dsimp only at hW); obtain ⟨s0, s1, s2, s3, s5, s6⟩ := hW; first | (go_simp; done) | (go_simp; with_reducible rfl) | (go_simp; rfl))
        simp only [Act.put, List.setIfInBounds_toArray, List.set_cons_zero, List.set_cons_succ]
        refine wpAnyH_take (i := 11) (oi := { dst := some 38, op := Op.load 3 (Operand.tmp 7), type := 3, pos := "wait.go:54", after := #[], guard := none }) (v := .int .i64 most) (fuel := 6) rfl (by kernel_rfl) (by kernel_rfl) (by kernel_rfl) (fun _ _ _ h => h) (Or.inl ⟨by kernel_rfl, ?_⟩) hS0 ?_
        · (intro W hW; (try dsimp only at hW); obtain ⟨s0, s1, s2, s3, s5, s6⟩ := hW; first | (go_simp; done) | (go_simp; with_reducible rfl) | (go_simp; rfl))
        simp only [Act.put, List.setIfInBounds_toArray, List.set_cons_zero, List.set_cons_succ]
        refine wpAnyH_ready (rs := [7]) (fuel := 5) (by kernel_rfl) (by simp) ?_
        refine AllReadyH.cons (o := { dst := some 34, op := Op.call { callee := Callee.value (Operand.func 37), args := #[Operand.tmp 32, Operand.tmp 33], argTypes := #[66, 3] }, type := 3, pos := "wait.go:54", after := #[{ on := 5, ground := Ground.data }, { on := 6, ground := Ground.data }], guard := none }) rfl (fun K hK => ?_) AllReadyH.nil
        go_simp
        go_at_call 37
        refine (CO1.out _).mono ?_; rintro e w6 ⟨rfl, hb6⟩
        have HT6 := Lib.hid (HT5.out.drew.next hb6)
        have HB6 := Lib.hid hb6
        obtain ⟨x0, x1, x2, x3, x4, x5, x6⟩ := HT6.out.facts
        have g6 := HT6.out.b2.open_ 0
        clear hb6
        go_simp
        refine hK.out _ _ ⟨x0, x1, x2, x3, x5, x6⟩ (fun hS1 => ?_)
        clear hK K
        try simp only [Act.put, List.setIfInBounds_toArray, List.set_cons_zero, List.set_cons_succ]
        refine wpAnyH_take (i := 8) (oi := { dst := some 35, op := Op.binOp BinOp.quo 3 (Operand.tmp 31) (Operand.tmp 34) 3, type := 3, pos := "wait.go:54", after := #[{ on := 4, ground := Ground.data }, { on := 7, ground := Ground.data }], guard := none }) (v := .int .i64 q) (fuel := 4) rfl (by kernel_rfl) (by kernel_rfl) (by kernel_rfl) (fun _ _ _ h => h) (Or.inl ⟨by kernel_rfl, ?_⟩) hS1 ?_
        · (intro W hW; (try dsimp only at hW); obtain ⟨s0, s1, s2, s3, s5, s6⟩ := hW; first | (go_simp; done) | (go_simp; with_reducible rfl) | (go_simp; rfl))
        simp only [Act.put, List.setIfInBounds_toArray, List.set_cons_zero, List.set_cons_succ]
        refine wpAnyH_take (i := 9) (oi := { dst := some 36, op := Op.binOp BinOp.add 3 (Operand.tmp 27) (Operand.tmp 35) 3, type := 3, pos := "wait.go:54", after := #[{ on := 0, ground := Ground.data }, { on := 8, ground := Ground.data }], guard := none }) (v := .int .i64 ((pre.length : Int) + q)) (fuel := 3) rfl (by kernel_rfl) (by kernel_rfl) (by kernel_rfl) (fun _ _ _ h => h) (Or.inl ⟨by kernel_rfl, ?_⟩) hS1 ?_
        · (intro W hW; (try dsimp only at hW); obtain ⟨s0, s1, s2, s3, s5, s6⟩ := hW; first | (go_simp; done) | (go_simp; with_reducible rfl) | (go_simp; rfl))
        simp only [Act.put, List.setIfInBounds_toArray, List.set_cons_zero, List.set_cons_succ]
        refine wpAnyH_take (i := 10) (oi := { dst := some 37, op := Op.binOp BinOp.add 3 (Operand.tmp 36) (Operand.const (Value.int IntKind.i64 1)) 3, type := 3, pos := "wait.go:54", after := #[{ on := 9, ground := Ground.data }], guard := none }) (v := .int .i64 ((pre.length : Int) + q + 1)) (fuel := 2) rfl (by kernel_rfl) (by kernel_rfl) (by kernel_rfl) (fun _ _ _ h => h) (Or.inl ⟨by kernel_rfl, ?_⟩) hS1 ?_
        · (intro W hW; (try dsimp only at hW); obtain ⟨s0, s1, s2, s3, s5, s6⟩ := hW; first | (go_simp; done) | (go_simp; with_reducible rfl) | (go_simp; rfl))
        simp only [Act.put, List.setIfInBounds_toArray, List.set_cons_zero, List.set_cons_succ]
        refine wpAnyH_ready (rs := [12]) (fuel := 1) (by kernel_rfl) (by simp) ?_
        refine AllReadyH.cons (o := { dst := some 39, op := Op.call { callee := Callee.builtin Builtin.min, args := #[Operand.tmp 37, Operand.tmp 38], argTypes := #[3, 3] }, type := 3, pos := "wait.go:54", after := #[{ on := 10, ground := Ground.data }, { on := 11, ground := Ground.data }], guard := none }) rfl (fun K hK => ?_) AllReadyH.nil
        go_simp
        refine hK.out _ _ hS1 (fun hS2 => ?_)
        clear hK K hS2
        try simp only [Act.put, List.setIfInBounds_toArray, List.set_cons_zero, List.set_cons_succ]
        refine wpAnyH_ready (rs := [13]) (fuel := 0) (by kernel_rfl) (by simp) ?_
        refine AllReadyH.cons (o := { dst := none, op := Op.store 3 (Operand.tmp 8) (Operand.tmp 39), type := 0, pos := "wait.go:54", after := #[{ on := 12, ground := Ground.data }, { on := 7, ground := Ground.chain }, { on := 0, ground := Ground.phase }, { on := 1, ground := Ground.phase }, { on := 2, ground := Ground.phase }, { on := 3, ground := Ground.phase }, { on := 4, ground := Ground.phase }, { on := 5, ground := Ground.phase }, { on := 6, ground := Ground.phase }, { on := 7, ground := Ground.phase }, { on := 8, ground := Ground.phase }, { on := 9, ground := Ground.phase }, { on := 10, ground := Ground.phase }, { on := 11, ground := Ground.phase }, { on := 12, ground := Ground.phase }], guard := none }) rfl (fun K hK => ?_) AllReadyH.nil
        go_simp
        refine hK.out _ _ (by refine ⟨?_, ?_, ?_, ?_, ?_, ?_⟩ <;> (rw [World.cell?_setCell_far _ _ _ _ (by dsimp only; omega)]; assumption)) (fun hS2 => ?_)
        clear hK K hS2
        try simp only [Act.put, List.setIfInBounds_toArray, List.set_cons_zero, List.set_cons_succ]
        refine wpAnyH_done (by kernel_rfl) ?_ _
        unfold onlyN
        dsimp only
        gi_wp2
        have hB6 : Below W.heap.size W w6 := bnext HB5.out.drew HB6.out
        have hKO : KeepsOthers W (w6.setCell ⟨w.heap.size + 1 + 1, 0, none⟩ (.int .i64 (min ((pre.length : Int) + q + 1) most))) := (KeepsOthers.of_grownBy (gb_below hB6 none) (fun j o hj _ => by cases hj)).trans (KeepsOthers.setCell _ _ _)
        refine ⟨hKO.from _, pre, x, rfl, hle, .inr ⟨rfl, hlt, by rw [hxi]; exact HST.out, ?_, ?_⟩⟩
        · rw [hrr, ← HRES.out]; exact HT6.out.b2.put 0 _
        · exact HT6.out.bel.setCell (p := ⟨w.heap.size + 1 + 1, 0, none⟩) (by show w.heap.size ≤ w.heap.size + 1 + 1; omega) _
  case done =>
    rintro D xs W hD ⟨hS1, hS2, hS3⟩ ⟨htb, hle⟩ hK
    have HS := Lib.hid (And.intro hS1 (And.intro hS2 hS3))
    have HTB := Lib.hid htb
    obtain ⟨c0, c1, c2, c3, c4, c5, c6⟩ := htb.facts
    have f2 := htb.b2.open_ 0
    have hr1 := Lib.hid (htb.b2.put 0 (.int .i64 (xs.length : Int)))
    have hK2 := Lib.hid ((KeepsOthers.setCell W ⟨w.heap.size + 1 + 1, 0, none⟩ (.int .i64 (xs.length : Int))).same D _ hK rfl)
    have HB := Lib.hid (htb.bel.setCell (p := ⟨w.heap.size + 1 + 1, 0, none⟩) (by show w.heap.size ≤ w.heap.size + 1 + 1; omega) (.int .i64 (xs.length : Int)))
    clear htb hS1 hS2 hS3
    gi_wp2
    refine ⟨by simp, .inl ⟨_, _, rfl, run_takeDeferred hK2.out, ?_⟩⟩
    have zz := cell_kept (hr1.out.read (i := 0) rfl) (grownBy_putObj' _ D (.deferred none)) (fun r e => by cases e; exact ⟨_, hK2.out, rfl⟩)
    refine ⟨.int .i64 (xs.length : Int), by simp [results, Try.results43, go_sem, zz], ?_⟩
    have hbf : Below w.heap.size w ((W.setCell ⟨w.heap.size + 1 + 1, 0, none⟩ (.int .i64 (xs.length : Int))).putObj D (.deferred none)) := HB.out.trans (belowK_b (w := w) (Nat.le_refl _) (W.setCell ⟨w.heap.size + 1 + 1, 0, none⟩ (.int .i64 (xs.length : Int))) D _ _ (by omega) hK2.out rfl rfl)
    exact ⟨xs.length, rfl, hle, HS.out.2.2, .inr HS.out.2.1, hbf⟩
  case stop =>
    rintro D c q W hD ⟨hS1, hS2⟩ ⟨pre, x, rfl, hle, ⟨rfl, hmo, htb⟩ | ⟨rfl, hlt, hst, hbx, hbel⟩⟩ hK
    · have HS := Lib.hid (And.intro (ptsTo_init hS1) hS2)
      have HTB := Lib.hid htb
      obtain ⟨c0, c1, c2, c3, c4, c5, c6⟩ := htb.facts
      have f2 := htb.b2.open_ 0
      have hr1 := Lib.hid (htb.b2.put 0 (.int .i64 (pre.length : Int)))
      have hK2 := Lib.hid ((KeepsOthers.setCell W ⟨w.heap.size + 1 + 1, 0, none⟩ (.int .i64 (pre.length : Int))).same D _ hK rfl)
      have HB := Lib.hid (htb.bel.setCell (p := ⟨w.heap.size + 1 + 1, 0, none⟩) (by show w.heap.size ≤ w.heap.size + 1 + 1; omega) (.int .i64 (pre.length : Int)))
      clear htb hS1 hS2
      gi_wp2
      refine ⟨by simp, .inl ⟨_, _, rfl, run_takeDeferred hK2.out, ?_⟩⟩
      have zz := cell_kept (hr1.out.read (i := 0) rfl) (grownBy_putObj' _ D (.deferred none)) (fun r e => by cases e; exact ⟨_, hK2.out, rfl⟩)
      refine ⟨.int .i64 (pre.length : Int), by simp [results, Try.results43, go_sem, zz], ?_⟩
      have hbf : Below w.heap.size w ((W.setCell ⟨w.heap.size + 1 + 1, 0, none⟩ (.int .i64 (pre.length : Int))).putObj D (.deferred none)) := HB.out.trans (belowK_b (w := w) (Nat.le_refl _) (W.setCell ⟨w.heap.size + 1 + 1, 0, none⟩ (.int .i64 (pre.length : Int))) D _ _ (by omega) hK2.out rfl rfl)
      exact ⟨pre.length, rfl, hle, fun k hk => HS.out.2 k (by simp; omega), .inl (by omega), hbf⟩
    · have HRE := Lib.hid (res_is hS1 hS2 hlt hmost hst ht.1)
      have HBX := Lib.hid hbx
      have z := hbx.read (i := 0) rfl
      clear hS1 hS2 hst hbx
      gi_wp2
      refine ⟨by simp, .inl ⟨_, _, rfl, run_takeDeferred hK, ?_⟩⟩
      have zz := cell_kept z (grownBy_putObj' _ D (.deferred none)) (fun r e => by cases e; exact ⟨_, hK, rfl⟩)
      have hbf : Below w.heap.size w (W.putObj D (.deferred none)) := hbel.trans (belowK_b (w := w) (Nat.le_refl _) W D _ _ (by omega) hK rfl rfl)
      obtain ⟨K, hK1, hK2, hK3, hK4⟩ := HRE.out
      rw [hK1] at zz
      refine ⟨.int .i64 (K : Int), by simp [results, Try.results43, go_sem, zz], ?_⟩
      exact ⟨K, rfl, hK2, hK3, hK4, hbf⟩
end Go.Proofs.Ytoidloofclalhab
