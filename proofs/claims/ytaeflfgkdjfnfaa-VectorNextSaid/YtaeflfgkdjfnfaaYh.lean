/- Layer 5 (vector): Meet, by the code: a loop over the iterator whose body has a map learn. -/
import Derived.Test.YtaeflfgkdjfnfaaYg
namespace Go.Proofs.Ytaeflfgkdjfnfaa
open Go.RowKit
attribute [local go_sem] Oper.semAt_some

theorem KC.of_grownBy {B : Nat} {X Y : World} {row : Option Nat} (hg : X.grownBy Y row) (hr : ∀ j, row = some j → j < B) : KC B X Y :=
  ⟨hg.size, fun k cs t fr hk hc => (hg.block k (Array.getElem?_eq_some_iff.1 hc).1 (fun e => by have := hr k e.symm; omega)).trans hc⟩
theorem vm_own' {β : Type} {B M : Nat} (m : β → Nat) (D : β → DataW Unit) (hM : M < B) : OwnFrom B (fun (s : β) W => VM W M (m s) (D s)) := fun _ X Y row hs hg hr =>
  World.ownsMap.kept hs hg (fun e => by obtain ⟨h, _⟩ := hr M e.symm; omega)
def meetD (B : DataW Unit) (ys : List (Int × Int)) : DataW Unit := ys.foldl (fun D x => lrD D (x.1, min x.2 (gI B x.1))) (.map [])
theorem meetD_snoc (B : DataW Unit) (ys : List (Int × Int)) (x : Int × Int) : meetD B (ys ++ [x]) = lrD (meetD B ys) (x.1, min x.2 (gI B x.1)) := by simp [meetD]
set_option maxRecDepth 100000 in
set_option maxHeartbeats 8000000 in
theorem meet_any (Ma Mb ma mb : Nat) (A B : DataW Unit) (hma : ma ≤ 100000) (w : World) (hA : VM w Ma ma A) (hB : VM w Mb mb B) :
    Calls Try.prog 77 #[.map (some Ma), .map (some Mb)] w fun e w' => ∃ M n ys, e = .returned (.map (some M)) ∧ (Lists A ys ∧ Up ys) ∧ VM w' M n (meetD B ys) ∧ w.heap.size ≤ M ∧ n ≤ ma ∧ Below w.heap.size w w' := by
  have hmm := @run_makeMap Try.prog
  refine (callsIn_wide (n := 5)).1 ?_
  refine callsIn_of_wp_marks Try.func77 rfl trivial ?_ rfl
  simp only [Try.ntmps77, List.size_toArray, List.length_cons, List.length_nil, Nat.reduceAdd, Nat.reduceSub, Array.replicate_succ, Array.replicate_zero, List.push_toArray, List.append_toArray, List.nil_append, List.cons_append]
  gi_wp2_with (refine ⟨trivial, ?_⟩; gi_at_call 137; refine (callsIn_wide.2 (dotsfn_any Ma _)).mono ?_; rintro e w2 ⟨rfl, rfl⟩)
  obtain ⟨w3, hw3⟩ : ∃ w3, (((w.alloc (.cells #[.map (some Mb)] 116)).alloc (.map #[] 0)).alloc (.cells #[.map (some (w.heap.size + 1))] 116)).alloc (.cells #[.map (some Ma)] 116) = w3 := ⟨_, rfl⟩
  have hsz : w3.heap.size = w.heap.size + 4 := by rw [← hw3]; simp
  have e1 : Below w.heap.size w w3 := by rw [← hw3]; exact ((((Below.refl _ _).alloc (Nat.le_refl _) _).alloc (by simp) _).alloc (by simp; omega) _).alloc (by simp; omega) _
  have x1 : Bx w3 w.heap.size 116 #[.map (some Mb)] := by rw [← hw3]; exact (((Bx.fresh w _ _).past _).past _).past _
  have x2 : Bx w3 (w.heap.size + 1 + 1) 116 #[.map (some (w.heap.size + 1))] := by rw [← hw3]; exact (Bx.fresh' ((w.alloc _).alloc _) (by simp) _ _).past _
  have x3 : w3.cell? ⟨w.heap.size + 1 + 1 + 1, 0, none⟩ = some (.map (some Ma)) := by rw [← hw3]; exact (Bx.fresh' (((w.alloc _).alloc _).alloc _) (by simp) _ _).read rfl
  have hV3 : VM w3 (w.heap.size + 1) 0 (.map []) := by
    rw [← hw3]
    have := World.ownsMap_made (w.alloc (.cells #[.map (some Mb)] 116)) Try.prog 3 (plainElem Try.prog 3 : Value → Option (DataW Unit × List MemPlace))
    rw [World.size_alloc] at this
    exact World.ownsMap.alloc (World.ownsMap.alloc this _) _
  have hA3 : VM w3 Ma ma A := World.ownsMap.kept hA (gb_below e1 none) (by simp)
  have hB3 : VM w3 Mb mb B := World.ownsMap.kept hB (gb_below e1 none) (by simp)
  have hMb : Mb < w.heap.size := World.ownsMap.lt hB
  rw [hw3]
  refine wpIn_rangeFunc_ownH rfl (by omega) (gf := 177) (lb := #[.pointer (some ⟨w.heap.size + 1 + 1 + 1, 0, none⟩)]) rfl trivial (enters_of Try.func177 (by kernel_rfl) rfl)
    (dots_stops 4 (by omega) (w.heap.size + 1 + 1 + 1) w3.heap.size Ma ma A hma w3 (Nat.le_refl _) x3 hA3) KC.trans kc_b (Below.refl _ _) (fun _ => rfl)
    (fun (pre : List Dt) W => (Bx W w.heap.size 116 #[.map (some Mb)] ∧ Bx W (w.heap.size + 1 + 1) 116 #[.map (some (w.heap.size + 1))] ∧ VM W Mb mb B ∧ VM W (w.heap.size + 1) pre.length (meetD B (pre.map (·.1))) ∧ Below w.heap.size w3 W))
    (fun _ (_ : List Dt) _ => False)
    (OwnFrom.and (bx_own _ _ _ _) (OwnFrom.and (bx_own _ _ _ _) (OwnFrom.and (vm_own (by omega)) (OwnFrom.and (vm_own' (fun pre : List Dt => pre.length) (fun pre : List Dt => meetD B (pre.map (·.1))) (by omega)) (ownFrom_below (by omega) (by omega))))))
    (fun c => fun _ _ _ _ hs _ _ => hs)
    ⟨x1, x2, hB3, hV3, Below.refl _ _⟩
    (fun (x : Dt) a' W => ∃ g, w3.heap.size ≤ g ∧ Bx W g 123 #[.int .i64 x.1.1, .int .i64 x.1.2] ∧ a' = { tmps := #[.map (some Ma), .map (some Mb), undef, .pointer (some ⟨w.heap.size, 0, none⟩), .map none, .pointer (some ⟨w.heap.size + 1 + 1, 0, none⟩), .pointer (some ⟨g, 0, none⟩), .map (some (w.heap.size + 1)), .map (some Ma), .func (.func 177) #[] #[.pointer (some ⟨w.heap.size + 1 + 1 + 1, 0, none⟩)], .agg #[.int .i64 x.1.1, .int .i64 x.1.2], undef, undef, undef, undef, undef, undef, undef, undef, undef, undef, undef, undef, undef], defers := [] })
    (fun x a' => fun s X Y row hs hg hr => by obtain ⟨g, h1, h2, h3⟩ := hs; exact ⟨g, h1, bx_own _ _ _ _ s X Y row h2 hg hr, h3⟩) ?assign ?body ?done ?stop
  case assign =>
    rintro l pre x W K ⟨b1, b2, b3, b4, b5⟩ hK
    have hBW : w3.heap.size ≤ W.heap.size := b5.size
    have hwW : w.heap.size ≤ W.heap.size := by omega
    unfold encDt
    gi_wp2
    exact hK _ _ ((KeepsOthers.alloc _ _).from _) (KC.of_below ((Below.refl _ _).alloc (Nat.le_refl _) _)) ⟨b1.past _, b2.past _, World.ownsMap.alloc b3 _, World.ownsMap.alloc b4 _, b5.alloc hwW _⟩ ⟨W.heap.size, hBW, Bx.fresh W _ _, rfl⟩
  case body =>
    rintro l pre x a' W hl ⟨r, hr⟩ ⟨b1, b2, b3, b4, b5⟩ ⟨g, hg, bx, rfl⟩ hN
    have HS := Hid.mk' (show lrD (meetD B (pre.map (·.1))) (x.1.1, min x.1.2 (gI B x.1.1)) = meetD B ((pre ++ [x]).map (·.1)) by rw [List.map_append, List.map_cons, List.map_nil, meetD_snoc])
    have C := Hid.mk' (learn_any x.1.1 (min x.1.2 (gI B x.1.1)) x.2.1 W (w.heap.size + 1) pre.length (meetD B (pre.map (·.1))) (by omega) b4)
    have HI := Hid.mk' (And.intro b1 (And.intro b2 (And.intro b3 (And.intro b4 b5))))
    have HXX := Hid.mk' (show (pre ++ [x]).length = pre.length + 1 by simp)
    have y0 := b1.read (i := 0) rfl
    have y2 := b2.read (i := 0) rfl
    obtain ⟨z0, z1⟩ := And.intro (bx.read (i := 0) rfl) (bx.read (i := 1) rfl)
    have hlk := (look_vm b3 x.1.1 x.2.1).1
    clear b1 b2 b3 b4 b5
    generalize hq : meetD B ((pre ++ [x]).map (·.1)) = Q2 at *
    generalize hxl : pre ++ [x] = px at *
    gi_wp2_with (refine ⟨trivial, ?_⟩; gi_at_call 138; refine (CallsIn.inRound l (callsIn_wide.2 C.out)).mono ?_; rintro e w5 ⟨rfl, hm5, hg5⟩)
    obtain ⟨b1, b2, b3, b4, b5⟩ := HI.out
    have hrow : ∀ j, some (w.heap.size + 1) = some j → j < w3.heap.size := fun j e => by cases e; omega
    have hw5 : VM w5 (w.heap.size + 1) px.length Q2 := by rw [HXX.out, ← HS.out]; exact hm5
    exact ⟨KeepsFrom.of_grownBy hg5 hrow, KC.of_grownBy hg5 hrow, b1.grown hg5 (fun e => by injection e with e; omega), b2.grown hg5 (fun e => by injection e with e; omega), World.ownsMap.kept b3 hg5 (fun e => by injection e with e; omega), by rw [hq]; exact hw5, b5.grown hg5 (by have := b5.size; omega) (fun k e => by cases e; omega)⟩
  case done =>
    rintro D xs W hD hS ⟨b1, b2, b3, b4, b5⟩ hK
    have y2 := b2.read (i := 0) rfl
    gi_wp2
    refine ⟨by simp, .inl ⟨_, _, rfl, run_takeDeferred hK, ?_⟩⟩
    have hgp := grownBy_putObj' W D (.deferred none)
    have hbf : Below w.heap.size w (W.putObj D (.deferred none)) := e1.trans (b5.trans (belowK_b (w := w) (Nat.le_refl _) _ D _ _ (by omega) hK rfl rfl))
    have hv : VM (W.putObj D (.deferred none)) (w.heap.size + 1) xs.length (meetD B (xs.map (·.1))) := World.ownsMap.kept b4 hgp (fun e => by injection e with e; omega)
    refine ⟨_, results_tmp rfl _ _ _, ?_⟩
    exact ⟨w.heap.size + 1, rfl, xs.length, xs.map (·.1), ⟨hS.1, hS.2.1⟩, hv, Nat.le_succ _, hS.2.2, hbf⟩
  case stop =>
    rintro D c pre W hD hS h hK
    exact h.elim
end Go.Proofs.Ytaeflfgkdjfnfaa
