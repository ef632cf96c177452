/- Layer 5 (vector): how many a vector has; the statement VectorKnows' walk. -/
import Derived.Test.YtkkfdmcccelelaaQh
import Derived.Test.YtkkfdmcccelelaaYk
namespace Go.Proofs.Ytkkfdmcccelelaa
open Go.RowKit
attribute [local irreducible] wpQuiet

theorem ins_length {d : Int × Int} : ∀ {l : List (Int × Int)}, SR l → (insL d l).length = if getL l d.1 = 0 then l.length + 1 else l.length
  | [], _ => by simp [insL, getL]
  | x :: l, h => by
    obtain ⟨h1, h2⟩ := List.pairwise_cons.1 h.1
    have hx := (rgt_iff _ _).1 (h.2 x (by simp))
    unfold insL
    by_cases hlt : d.1 < x.1
    · have h0 : getL (x :: l) d.1 = 0 := getL_gt (fun y hy => by rcases List.mem_cons.1 hy with rfl | hy; exact hlt; have := h1 y hy; omega)
      rw [if_pos hlt, if_pos h0]
      simp
    · rw [if_neg hlt]
      by_cases heq : d.1 = x.1
      · have h0 : getL (x :: l) d.1 = x.2 := by unfold getL; rw [if_pos heq.symm]
        rw [if_pos heq, if_neg (by rw [h0]; omega)]
        simp
      · have h0 : getL (x :: l) d.1 = getL l d.1 := by conv => lhs; unfold getL
                                                       rw [if_neg (fun e => heq e.symm)]
        rw [if_neg heq, List.length_cons, ins_length ⟨h2, fun y hy => h.2 y (by simp [hy])⟩, h0]
        split <;> simp
/-- Of such a vector there is a row as the document has it, as long as it. -/
def Szd (D : DataW Unit) : Prop := Maps.Tidy D ∧ Good D ∧ ∃ T, SR T ∧ (∀ k, getL T k = gI D k) ∧ Maps.size D = T.length
theorem Szd.nil : Szd (.map []) := ⟨Maps.tidy_empty, Good.nil, [], SR.nil, fun _ => rfl, rfl⟩
theorem Szd.lr {D : DataW Unit} (h : Szd D) (x : Int × Int) : Szd (lrD D x) := by
  obtain ⟨ht, hg, T, hT, he, hz⟩ := h
  by_cases hr : rgt x.1 x.2 = true
  · have hr2 := (rgt_iff _ _).1 hr
    have hgx : 0 ≤ gI D x.1 ∧ gI D x.1 ≤ 1099511627776 := by
      cases hh : Maps.has D (.int .i64 x.1) with
      | true => have := (rgt_iff _ _).1 ((hg.2 x.1).1 hh); omega
      | false => have := (hg.2 x.1).2 hh; omega
    have hm : rgt x.1 (max (gI D x.1) x.2) = true := (rgt_iff _ _).2 ⟨hr2.1, by omega, by omega⟩
    refine ⟨?_, hg.lr x, setL T (x.1, max (gI D x.1) x.2), hT.set hm, fun k => ?_, ?_⟩
    · unfold lrD; rw [if_pos hr]; exact ht.put (by simp [WideAt.IsKeyLit]) _
    · rw [hT.get, gI_lr hg.1]
      by_cases hk : k = x.1
      · subst hk; rw [if_pos rfl, if_pos ⟨hr, rfl⟩]
      · rw [if_neg hk, if_neg (fun e => hk e.2.symm), he]
    · unfold lrD
      rw [if_pos hr, Maps.size_put ht, setL_ins hT.1, ins_length hT, he, hz]
      cases hh : Maps.has D (.int .i64 x.1) with
      | true => have := (rgt_iff _ _).1 ((hg.2 x.1).1 hh); rw [if_pos rfl, if_neg (by dsimp only; omega)]
      | false => rw [if_neg (by simp), if_pos ((hg.2 x.1).2 hh)]
  · have e : lrD D x = D := by unfold lrD; rw [if_neg hr]
    rw [e]
    exact ⟨ht, hg, T, hT, he, hz⟩
theorem Szd.of (l : List (Int × Int)) : Szd (ofD l) := by
  unfold ofD
  suffices ∀ (l : List (Int × Int)) (D : DataW Unit), Szd D → Szd (l.foldl lrD D) from this l _ Szd.nil
  intro l
  induction l with
  | nil => intro D h; exact h
  | cons x l ih => intro D h; exact ih _ (h.lr x)
theorem Szd.len {D : DataW Unit} (h : Szd D) {l : List (Int × Int)} (hs : SR l) (he : ∀ k, gI D k = getL l k) : Maps.size D = l.length := by
  obtain ⟨_, _, T, hT, hk, hz⟩ := h
  rw [hz, SR.one hT hs (fun k => by rw [hk, he])]
set_option maxRecDepth 100000 in
set_option maxHeartbeats 4000000 in
theorem knowslaw (vl : Value) (l : List (Int × Int)) (who n : Int) (hk : IW who) (w : World) (h : DR w vl l) : Calls Try.prog 3 #[vl, .agg #[.int .i64 who, .int .i64 n]] w fun e w' => e = .returned (.bool true) ∧ Below w.heap.size w w' := by
  have hb1 : Below w.heap.size w (w.alloc (.cells #[.int .i64 who, .int .i64 n] 24)) := (Below.refl _ _).alloc (Nat.le_refl _) _
  by_cases hbig : 100 < l.length
  · obtain ⟨a, cap, rfl, _, _⟩ := h
    have hb2 : (100 : Int) < (l.length : Int) := by omega
    have HB := Lib.hid hb1
    clear hb1
    go_enter Try.func3, Try.ntmps3
    go_wp2_with fail
    go_ret
    exact ⟨rfl, HB.out⟩
  · have hx1 : Bx (w.alloc (.cells #[.int .i64 who, .int .i64 n] 24)) w.heap.size 24 #[.int .i64 who, .int .i64 n] := Bx.fresh w _ _
    have CF := Lib.hid (lawof_any vl l (by omega) _ (h.next hb1))
    have HB := Lib.hid (And.intro hb1 hx1)
    have HIW := Lib.hid (show ∀ x ∈ ofL l, IW x.1 ∧ IW x.2 from fun x hx => by obtain ⟨_, _, _, hi, _⟩ := h; exact hi x (mem_ofL hx))
    obtain ⟨a, cap, rfl, _, _⟩ := h
    have hb2 : ¬ (100 : Int) < (l.length : Int) := by omega
    have HLN := Lib.hid (show (ofL l).length ≤ 100 by have := ofL_len l; omega)
    clear hb1 hx1
    go_enter Try.func3, Try.ntmps3
    go_wp2_with fail
    refine (CF.out).mono ?_; rintro e W1 ⟨M, m, v2, rfl, hV, hmn, hd, hM, hb⟩
    have hx2 := HB.out.2.next hb
    have hbw := bnext HB.out.1 hb
    have HV := Lib.hid (fun W' (hW : Below W1.heap.size W1 W') => (show VM W' M m (ofD l) ∧ DR W' v2 (ofL l) from ⟨World.ownsMap.kept hV (gb_below hW none) (by simp), (hd.next hW).dr HIW.out⟩))
    have m0 : ∀ d os, (Go.Sort.grow (Go.redrawn W1 d) os).cell? ⟨w.heap.size, 0, none⟩ = some (.int .i64 who) := fun d os => Go.cell_regrown (hx2.read (i := 0) rfl) d os
    have m1 : ∀ d os, (Go.Sort.grow (Go.redrawn W1 d) os).cell? ⟨w.heap.size, 1, none⟩ = some (.int .i64 n) := fun d os => Go.cell_regrown (hx2.read (i := 1) rfl) d os
    have heq : ∀ k, gI (ofD l) k = getL (ofL l) k := fun k => by rw [gI_of, getL_of]
    have C1 := Lib.hid (fun d os => Calls.regrown_of (d := d) (os := os) (is_any v2 (ofL l) (by have := HLN.out; omega) M m (ofD l) (by omega) _ (HV.out _ (Go.below_regrown W1 d os)).1 (Good.of l) (HV.out _ (Go.below_regrown W1 d os)).2 (ofL_SR l) heq ((Szd.of l).len (ofL_SR l) heq)))
    have C2 := Lib.hid (fun d os => Calls.regrown_of (d := d) (os := os) (knows_any who n hk _ M m (ofD l) (HV.out _ (Go.below_regrown W1 d os)).1))
    have C3 := Lib.hid (fun d os => Calls.regrown_of (d := d) (os := os) (knows05_any v2 (ofL l) who n (by have := HLN.out; omega) _ (HV.out _ (Go.below_regrown W1 d os)).2))
    have C4 := Lib.hid (fun d os => Calls.regrown_of (d := d) (os := os) (right_any who n (Go.Sort.grow (Go.redrawn W1 d) os)))
    have C5 := Lib.hid (fun d os => Calls.regrown_of (d := d) (os := os) (right05_any who n (Go.Sort.grow (Go.redrawn W1 d) os)))
    have C6 := Lib.hid (fun d os => Calls.regrown_of (d := d) (os := os) (alive05_any (Go.Sort.grow (Go.redrawn W1 d) os)))
    rw [heq] at C2
    have HBW := Lib.hid hbw
    generalize (rgt who n && decide (n ≤ getL (ofL l) who)) = r at *
    generalize rgt who n = q at *
    have q1 : (r == r) = true := by simp
    have q2 : (q == q) = true := by simp
    clear hV hd hb hx2 hbw heq
    go_wp2_with fail
    refine Go.wp_region_quiet_below (by kernel_rfl) (by kernel_rfl) ?_
    repeat (quiet_step (first | with_reducible exact C1.out _ _ | with_reducible exact C2.out _ _ | with_reducible exact C3.out _ _ | with_reducible exact C4.out _ _ | with_reducible exact C5.out _ _ | with_reducible exact C6.out _ _))
    refine wpQuiet_nil ?_
    intro _ hw'
    obtain ⟨⟨dq, osq⟩, hw''⟩ := hw'
    subst hw''
    have HF := Lib.hid (bnext HBW.out (Go.below_regrown W1 dq osq))
    go_wp2_with fail
    go_ret
    exact ⟨rfl, HF.out⟩
theorem knowslaw' (vl : Value) (who n : Int) (hk : IW who) (w : World) (h : ∃ l, DR w vl l) : Calls Try.prog 3 #[vl, .agg #[.int .i64 who, .int .i64 n]] w fun e w' => e = .returned (.bool true) ∧ Below w.heap.size w w' := by
  obtain ⟨l, h⟩ := h
  exact knowslaw vl l who n hk w h
end Go.Proofs.Ytkkfdmcccelelaa
