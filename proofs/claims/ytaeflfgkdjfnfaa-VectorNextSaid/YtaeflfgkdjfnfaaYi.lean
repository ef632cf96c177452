/- Layer 5 (vector): Join, by the code: two loops over iterators, one behind the other. -/
import Derived.Test.YtaeflfgkdjfnfaaYh
namespace Go.Proofs.Ytaeflfgkdjfnfaa
open Go.RowKit
attribute [local go_sem] Oper.semAt_some

theorem hp_own {β : Type} {B D : Nat} {o : Obj} (hD : D < B) : OwnFrom B (fun (_ : β) (W : World) => W.heap[D]? = some o) := fun _ X Y row hs hg hr =>
  (hg.block D (Array.getElem?_eq_some_iff.1 hs).1 (fun e => by obtain ⟨h, _⟩ := hr D e.symm; omega)).trans hs
def foD (D : DataW Unit) (ys : List (Int × Int)) : DataW Unit := ys.foldl lrD D
theorem foD_snoc (D : DataW Unit) (ys : List (Int × Int)) (x : Int × Int) : foD D (ys ++ [x]) = lrD (foD D ys) x := by simp [foD]
set_option maxRecDepth 100000 in
set_option maxHeartbeats 8000000 in
theorem join_any (Ma Mb ma mb : Nat) (A B : DataW Unit) (hma : ma ≤ 40000) (hmb : mb ≤ 40000) (w : World) (hA : VM w Ma ma A) (hB : VM w Mb mb B) :
    Calls Try.prog 75 #[.map (some Ma), .map (some Mb)] w fun e w' => ∃ M n ys zs, e = .returned (.map (some M)) ∧ (Lists A ys ∧ Up ys) ∧ (Lists B zs ∧ Up zs) ∧ VM w' M n (foD (foD (.map []) ys) zs) ∧ w.heap.size ≤ M ∧ n ≤ ma + mb ∧ Below w.heap.size w w' := by
  have hmm := @run_makeMap Try.prog
  refine (callsIn_wide (n := 5)).1 ?_
  refine callsIn_of_wp_marks Try.func75 rfl trivial ?_ rfl
  simp only [Try.ntmps75, List.size_toArray, List.length_cons, List.length_nil, Nat.reduceAdd, Nat.reduceSub, Array.replicate_succ, Array.replicate_zero, List.push_toArray, List.append_toArray, List.nil_append, List.cons_append]
  gi_wp2_with (refine ⟨trivial, ?_⟩; gi_at_call 137; refine (callsIn_wide.2 (dotsfn_any Ma _)).mono ?_; rintro e w2 ⟨rfl, rfl⟩)
  obtain ⟨w3, hw3⟩ : ∃ w3, ((w.alloc (.map #[] 0)).alloc (.cells #[.map (some w.heap.size)] 116)).alloc (.cells #[.map (some Ma)] 116) = w3 := ⟨_, rfl⟩
  have hsz : w3.heap.size = w.heap.size + 3 := by rw [← hw3]; simp
  have e1 : Below w.heap.size w w3 := by rw [← hw3]; exact (((Below.refl _ _).alloc (Nat.le_refl _) _).alloc (by simp) _).alloc (by simp; omega) _
  have x2 : Bx w3 (w.heap.size + 1) 116 #[.map (some w.heap.size)] := by rw [← hw3]; exact (Bx.fresh' (w.alloc _) (by simp) _ _).past _
  have x3 : w3.cell? ⟨w.heap.size + 1 + 1, 0, none⟩ = some (.map (some Ma)) := by rw [← hw3]; exact (Bx.fresh' ((w.alloc _).alloc _) (by simp) _ _).read rfl
  have hV3 : VM w3 w.heap.size 0 (.map []) := by
    rw [← hw3]
    exact World.ownsMap.alloc (World.ownsMap.alloc (World.ownsMap_made w Try.prog 3 (plainElem Try.prog 3 : Value → Option (DataW Unit × List MemPlace))) _) _
  have hA3 : VM w3 Ma ma A := World.ownsMap.kept hA (gb_below e1 none) (by simp)
  have hB3 : VM w3 Mb mb B := World.ownsMap.kept hB (gb_below e1 none) (by simp)
  have hMb : Mb < w.heap.size := World.ownsMap.lt hB
  rw [hw3]
  refine wpIn_rangeFunc_ownH rfl (by omega) (gf := 177) (lb := #[.pointer (some ⟨w.heap.size + 1 + 1, 0, none⟩)]) rfl trivial (enters_of Try.func177 (by kernel_rfl) rfl)
    (dots_stops 4 (by omega) (w.heap.size + 1 + 1) w3.heap.size Ma ma A (by omega) w3 (Nat.le_refl _) x3 hA3) KC.trans kc_b (Below.refl _ _) (fun _ => rfl)
    (fun (pre : List Dt) W => (Bx W (w.heap.size + 1) 116 #[.map (some w.heap.size)] ∧ VM W Mb mb B ∧ VM W w.heap.size pre.length (foD (.map []) (pre.map (·.1))) ∧ Below w.heap.size w3 W))
    (fun _ (_ : List Dt) _ => False)
    (OwnFrom.and (bx_own _ _ _ _) (OwnFrom.and (vm_own (by omega)) (OwnFrom.and (vm_own' (fun pre : List Dt => pre.length) (fun pre : List Dt => foD (.map []) (pre.map (·.1))) (by omega)) (ownFrom_below (by omega) (by omega)))))
    (fun c => fun _ _ _ _ hs _ _ => hs)
    ⟨x2, hB3, hV3, Below.refl _ _⟩
    (fun (x : Dt) a' W => ∃ g, w3.heap.size ≤ g ∧ Bx W g 123 #[.int .i64 x.1.1, .int .i64 x.1.2] ∧ a' = { tmps := #[.map (some Ma), .map (some Mb), undef, undef, .map none, .pointer (some ⟨w.heap.size + 1, 0, none⟩), .pointer (some ⟨g, 0, none⟩), undef, .map (some w.heap.size), .map (some Ma), .func (.func 177) #[] #[.pointer (some ⟨w.heap.size + 1 + 1, 0, none⟩)], .agg #[.int .i64 x.1.1, .int .i64 x.1.2], undef, undef, undef, undef, undef, undef, undef, undef, undef, undef], defers := [] })
    (fun x a' => fun s X Y row hs hg hr => by obtain ⟨g, h1, h2, h3⟩ := hs; exact ⟨g, h1, bx_own _ _ _ _ s X Y row h2 hg hr, h3⟩) ?assign ?body ?done ?stop
  case assign =>
    rintro l pre x W K ⟨b2, b3, b4, b5⟩ hK
    have hBW : w3.heap.size ≤ W.heap.size := b5.size
    have hwW : w.heap.size ≤ W.heap.size := by omega
    unfold encDt
    gi_wp2
    exact hK _ _ ((KeepsOthers.alloc _ _).from _) (KC.of_below ((Below.refl _ _).alloc (Nat.le_refl _) _)) ⟨b2.past _, World.ownsMap.alloc b3 _, World.ownsMap.alloc b4 _, b5.alloc hwW _⟩ ⟨W.heap.size, hBW, Bx.fresh W _ _, rfl⟩
  case body =>
    rintro l pre x a' W hl ⟨r, hr⟩ ⟨b2, b3, b4, b5⟩ ⟨g, hg, bx, rfl⟩ hN
    have HS := Hid.mk' (show lrD (foD (.map []) (pre.map (·.1))) x.1 = foD (.map []) ((pre ++ [x]).map (·.1)) by rw [List.map_append, List.map_cons, List.map_nil, foD_snoc])
    have C := Hid.mk' (learn_any x.1.1 x.1.2 x.2.1 W w.heap.size pre.length (foD (.map []) (pre.map (·.1))) (by omega) b4)
    have HI := Hid.mk' (And.intro b2 (And.intro b3 (And.intro b4 b5)))
    have HXX := Hid.mk' (show (pre ++ [x]).length = pre.length + 1 by simp)
    have y2 := b2.read (i := 0) rfl
    obtain ⟨z0, z1⟩ := And.intro (bx.read (i := 0) rfl) (bx.read (i := 1) rfl)
    clear b2 b3 b4 b5
    generalize hq : foD (.map []) ((pre ++ [x]).map (·.1)) = Q2 at *
    generalize hxl : pre ++ [x] = px at *
    gi_wp2_with (refine ⟨trivial, ?_⟩; gi_at_call 138; refine (CallsIn.inRound l (callsIn_wide.2 C.out)).mono ?_; rintro e w5 ⟨rfl, hm5, hg5⟩)
    obtain ⟨b2, b3, b4, b5⟩ := HI.out
    have hrow : ∀ j, some w.heap.size = some j → j < w3.heap.size := fun j e => by cases e; omega
    have hw5 : VM w5 w.heap.size px.length Q2 := by rw [HXX.out, ← HS.out]; exact hm5
    exact ⟨KeepsFrom.of_grownBy hg5 hrow, KC.of_grownBy hg5 hrow, b2.grown hg5 (fun e => by injection e with e; omega), World.ownsMap.kept b3 hg5 (fun e => by injection e with e; omega), by rw [hq]; exact hw5, b5.grown hg5 (by have := b5.size; omega) (fun k e => by cases e; omega)⟩
  case done =>
    rintro D xs W hD hS ⟨b2, b3, b4, b5⟩ hK
    gi_wp2_with (refine ⟨trivial, ?_⟩; gi_at_call 137; refine (callsIn_wide.2 (dotsfn_any Mb _)).mono ?_; rintro e w6 ⟨rfl, rfl⟩)
    obtain ⟨w4, hw4⟩ : ∃ w4, W.alloc (.cells #[.map (some Mb)] 116) = w4 := ⟨_, rfl⟩
    have hWw : w3.heap.size ≤ W.heap.size := b5.size
    have hDW : D < W.heap.size := (Array.getElem?_eq_some_iff.1 hK).1
    have hsz4 : w4.heap.size = W.heap.size + 1 := by rw [← hw4]; simp
    have e4 : Below W.heap.size W w4 := by rw [← hw4]; exact (Below.refl _ _).alloc (Nat.le_refl _) _
    have u2 : Bx w4 (w.heap.size + 1) 116 #[.map (some w.heap.size)] := b2.next e4
    have u3 : w4.cell? ⟨W.heap.size, 0, none⟩ = some (.map (some Mb)) := by rw [← hw4]; exact (Bx.fresh W _ _).read rfl
    have u4 : VM w4 Mb mb B := World.ownsMap.kept b3 (gb_below e4 none) (by simp)
    have u5 : VM w4 w.heap.size xs.length (foD (.map []) (xs.map (·.1))) := World.ownsMap.kept b4 (gb_below e4 none) (by simp)
    have u6 : w4.heap[D]? = some (.deferred (some [])) := (e4.block D hDW).trans hK
    have u7 : Below w.heap.size w w4 := bnext (e1.trans b5) e4
    have hxl : xs.length ≤ 40000 := by have := hS.2.2; omega
    rw [hw4]
    refine wpIn_rangeFunc_ownH rfl (by omega) (gf := 177) (lb := #[.pointer (some ⟨W.heap.size, 0, none⟩)]) rfl trivial (enters_of Try.func177 (by kernel_rfl) rfl)
      (dots_stops 4 (by omega) W.heap.size w4.heap.size Mb mb B (by omega) w4 (Nat.le_refl _) u3 u4) KC.trans kc_b (Below.refl _ _) (fun _ => rfl)
      (fun (pre : List Dt) V => (Bx V (w.heap.size + 1) 116 #[.map (some w.heap.size)] ∧ VM V w.heap.size (xs.length + pre.length) (foD (foD (.map []) (xs.map (·.1))) (pre.map (·.1))) ∧ V.heap[D]? = some (.deferred (some [])) ∧ Below w.heap.size w4 V))
      (fun _ (_ : List Dt) _ => False)
      (OwnFrom.and (bx_own _ _ _ _) (OwnFrom.and (vm_own' (fun pre : List Dt => xs.length + pre.length) (fun pre : List Dt => foD (foD (.map []) (xs.map (·.1))) (pre.map (·.1))) (by omega)) (OwnFrom.and (hp_own (by omega)) (ownFrom_below (by omega) (by omega)))))
      (fun c => fun _ _ _ _ hs _ _ => hs)
      ⟨u2, u5, u6, Below.refl _ _⟩
      (fun (x : Dt) a' V => ∃ g, w4.heap.size ≤ g ∧ Bx V g 123 #[.int .i64 x.1.1, .int .i64 x.1.2] ∧ a' = { tmps := #[.map (some Ma), .map (some Mb), undef, undef, .map none, .pointer (some ⟨w.heap.size + 1, 0, none⟩), undef, .pointer (some ⟨g, 0, none⟩), .map (some w.heap.size), .map (some Ma), .func (.func 177) #[] #[.pointer (some ⟨w.heap.size + 1 + 1, 0, none⟩)], undef, undef, undef, undef, .map (some Mb), .func (.func 177) #[] #[.pointer (some ⟨W.heap.size, 0, none⟩)], .agg #[.int .i64 x.1.1, .int .i64 x.1.2], undef, undef, undef, undef], defers := [] })
      (fun x a' => fun s X Y row hs hg hr => by obtain ⟨g, h1, h2, h3⟩ := hs; exact ⟨g, h1, bx_own _ _ _ _ s X Y row h2 hg hr, h3⟩) ?assign2 ?body2 ?done2 ?stop2
    case assign2 =>
      rintro l pre x V K ⟨c2, c4, c5, c6⟩ hK'
      have hBW : w4.heap.size ≤ V.heap.size := c6.size
      have hwW : w.heap.size ≤ V.heap.size := by omega
      have hDV : D < V.heap.size := by omega
      unfold encDt
      gi_wp2
      exact hK' _ _ ((KeepsOthers.alloc _ _).from _) (KC.of_below ((Below.refl _ _).alloc (Nat.le_refl _) _)) ⟨c2.past _, World.ownsMap.alloc c4 _, (((Below.refl V.heap.size V).alloc (Nat.le_refl _) _).block D hDV).trans c5, c6.alloc hwW _⟩ ⟨V.heap.size, hBW, Bx.fresh V _ _, rfl⟩
    case body2 =>
      rintro l pre x a' V hl ⟨r, hr⟩ ⟨c2, c4, c5, c6⟩ ⟨g, hg, bx, rfl⟩ hN
      have HS := Hid.mk' (show lrD (foD (foD (.map []) (xs.map (·.1))) (pre.map (·.1))) x.1 = foD (foD (.map []) (xs.map (·.1))) ((pre ++ [x]).map (·.1)) by rw [List.map_append, List.map_cons, List.map_nil, foD_snoc])
      have C := Hid.mk' (learn_any x.1.1 x.1.2 x.2.1 V w.heap.size (xs.length + pre.length) (foD (foD (.map []) (xs.map (·.1))) (pre.map (·.1))) (by omega) c4)
      have HI := Hid.mk' (And.intro c2 (And.intro c4 (And.intro c5 c6)))
      have HXX := Hid.mk' (show xs.length + (pre ++ [x]).length = xs.length + pre.length + 1 by simp; omega)
      have y2 := c2.read (i := 0) rfl
      obtain ⟨z0, z1⟩ := And.intro (bx.read (i := 0) rfl) (bx.read (i := 1) rfl)
      clear c2 c4 c5 c6
      generalize hq : foD (foD (.map []) (xs.map (·.1))) ((pre ++ [x]).map (·.1)) = Q2 at *
      generalize hxl2 : pre ++ [x] = px at *
      gi_wp2_with (refine ⟨trivial, ?_⟩; gi_at_call 138; refine (CallsIn.inRound l (callsIn_wide.2 C.out)).mono ?_; rintro e w5 ⟨rfl, hm5, hg5⟩)
      obtain ⟨c2, c4, c5, c6⟩ := HI.out
      have hrow : ∀ j, some w.heap.size = some j → j < w4.heap.size := fun j e => by cases e; omega
      have hw5 : VM w5 w.heap.size (xs.length + px.length) Q2 := by rw [HXX.out, ← HS.out]; exact hm5
      have hDV : D < V.heap.size := by have := c6.size; omega
      exact ⟨KeepsFrom.of_grownBy hg5 hrow, KC.of_grownBy hg5 hrow, c2.grown hg5 (fun e => by injection e with e; omega), by rw [hq]; exact hw5, (hg5.block D hDV (fun e => by injection e with e; omega)).trans c5, c6.grown hg5 (by have := c6.size; omega) (fun k e => by cases e; omega)⟩
    case done2 =>
      rintro D2 zs V hD2 hS2 ⟨c2, c4, c5, c6⟩ hK2
      have y2 := c2.read (i := 0) rfl
      have hne : D2 ≠ D := by omega
      gi_wp2
      have hK1 : (V.putObj D2 (.deferred none)).heap[D]? = some (.deferred (some [])) := ((grownBy_putObj' V D2 (.deferred none)).block D (by have := c6.size; omega) (fun e => by injection e with e; omega)).trans c5
      refine ⟨by simp, .inl ⟨_, _, rfl, run_takeDeferred hK2, ?_⟩⟩
      refine ⟨by simp, .inl ⟨_, _, rfl, run_takeDeferred hK1, ?_⟩⟩
      refine ⟨_, results_tmp rfl _ _ _, ?_⟩
      have hg2 := grownBy_putObj' V D2 (.deferred none)
      have hg1 := grownBy_putObj' (V.putObj D2 (.deferred none)) D (.deferred none)
      have hb2 : Below w.heap.size w (V.putObj D2 (.deferred none)) := u7.trans (c6.trans (belowK_b (w := w) (Nat.le_refl _) _ D2 _ _ (by omega) hK2 rfl rfl))
      have hbf : Below w.heap.size w ((V.putObj D2 (.deferred none)).putObj D (.deferred none)) := hb2.trans (belowK_b (w := w) (Nat.le_refl _) _ D _ _ (by omega) hK1 rfl rfl)
      have hv : VM ((V.putObj D2 (.deferred none)).putObj D (.deferred none)) w.heap.size (xs.length + zs.length) (foD (foD (.map []) (xs.map (·.1))) (zs.map (·.1))) := World.ownsMap.kept (World.ownsMap.kept c4 hg2 (fun e => by injection e with e; omega)) hg1 (fun e => by injection e with e; omega)
      exact ⟨w.heap.size, rfl, xs.length + zs.length, xs.map (·.1), ⟨hS.1, hS.2.1⟩, zs.map (·.1), ⟨hS2.1, hS2.2.1⟩, hv, Nat.le_refl _, by have := hS.2.2; have := hS2.2.2; omega, hbf⟩
    case stop2 =>
      rintro D2 c pre V hD2 hS2 h hK2
      exact h.elim
  case stop =>
    rintro D c pre W hD hS h hK
    exact h.elim
end Go.Proofs.Ytaeflfgkdjfnfaa
