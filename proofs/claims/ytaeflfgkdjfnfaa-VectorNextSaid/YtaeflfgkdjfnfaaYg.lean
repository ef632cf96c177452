/- Layer 5 (vector): Covers, by the code: a loop over the iterator. -/
import Derived.Test.YtaeflfgkdjfnfaaYf
namespace Go.Proofs.Ytaeflfgkdjfnfaa
open Go.RowKit
attribute [local go_sem] Oper.semAt_some

theorem kc_b {B : Nat} {w : World} (W : World) (l : Nat) (o o' : Obj) (_ : w.heap.size ≤ l) (h : W.heap[l]? = some o) (ho : o.isCells = false) (_ : o.isWalk = false) : KC B W (W.putObj l o') := by
  have hg := grownBy_putObj' W l o'
  refine ⟨hg.size, fun k cs t fr _ hk => ?_⟩
  rw [hg.block k (Array.getElem?_eq_some_iff.1 hk).1 (fun e => by
    cases e
    rw [h] at hk
    cases hk
    cases ho)]
  exact hk
theorem bx_own {β : Type} (B g : Nat) (t : TypeId) (cs : Array Value) : OwnFrom B (fun (_ : β) W => Bx W g t cs) := fun _ X Y row hs hg hr =>
  hs.grown hg (fun e => by
    obtain ⟨_, o, ho, hc⟩ := hr g e
    unfold Bx at hs
    rw [hs] at ho
    cases ho
    cases hc)
theorem vm_own {β : Type} {B M m : Nat} {D : DataW Unit} (hM : M < B) : OwnFrom B (fun (_ : β) W => VM W M m D) := fun _ X Y row hs hg hr =>
  World.ownsMap.kept hs hg (fun e => by obtain ⟨h, _⟩ := hr M e.symm; omega)
theorem dotsfn_any (M : Nat) (w : World) : Calls Try.prog 137 #[.map (some M)] w fun e w' => e = .returned (.func (.func 177) #[] #[.pointer (some ⟨w.heap.size, 0, none⟩)]) ∧ w' = w.alloc (.cells #[.map (some M)] 116) := by
  go_enter Try.func137, Try.ntmps137
  go_wp2_with fail
  go_ret
  exact ⟨rfl, rfl⟩
set_option maxRecDepth 100000 in
set_option maxHeartbeats 8000000 in
theorem covers_any (Ma Mb ma mb : Nat) (A B : DataW Unit) (hmb : mb ≤ 100000) (w : World) (hA : VM w Ma ma A) (hB : VM w Mb mb B) :
    Calls Try.prog 79 #[.map (some Ma), .map (some Mb)] w fun e w' => ∃ r, e = .returned (.bool r) ∧ (r = true ↔ ∀ k : Int, Maps.has B (.int .i64 k) = true → gI B k ≤ gI A k) ∧ Below w.heap.size w w' := by
  refine (callsIn_wide (n := 5)).1 ?_
  refine callsIn_of_wp_marks Try.func79 rfl trivial ?_ rfl
  simp only [Try.ntmps79, List.size_toArray, List.length_cons, List.length_nil, Nat.reduceAdd, Nat.reduceSub, Array.replicate_succ, Array.replicate_zero, List.push_toArray, List.append_toArray, List.nil_append, List.cons_append]
  gi_wp2_with (refine ⟨trivial, ?_⟩; gi_at_call 137; refine (callsIn_wide.2 (dotsfn_any Mb _)).mono ?_; rintro e w2 ⟨rfl, rfl⟩)
  obtain ⟨w3, hw3⟩ : ∃ w3, ((w.alloc (.cells #[.map (some Ma)] 116)).alloc (.cells #[.bool false] 4)).alloc (.cells #[.map (some Mb)] 116) = w3 := ⟨_, rfl⟩
  have hsz : w3.heap.size = w.heap.size + 3 := by rw [← hw3]; simp
  have e1 : Below w.heap.size w w3 := by rw [← hw3]; exact (((Below.refl _ _).alloc (Nat.le_refl _) _).alloc (by simp) _).alloc (by simp; omega) _
  have x1 : Bx w3 w.heap.size 116 #[.map (some Ma)] := by rw [← hw3]; exact ((Bx.fresh w _ _).past _).past _
  have x2 : Bx w3 (w.heap.size + 1) 4 #[.bool false] := by rw [← hw3]; exact (Bx.fresh' (w.alloc _) (by simp) _ _).past _
  have x3 : w3.cell? ⟨w.heap.size + 1 + 1, 0, none⟩ = some (.map (some Mb)) := by rw [← hw3]; exact (Bx.fresh' ((w.alloc _).alloc _) (by simp) _ _).read rfl
  have hA3 : VM w3 Ma ma A := World.ownsMap.kept hA (gb_below e1 none) (by simp)
  have hB3 : VM w3 Mb mb B := World.ownsMap.kept hB (gb_below e1 none) (by simp)
  have hMa : Ma < w3.heap.size := World.ownsMap.lt hA3
  rw [hw3]
  refine wpIn_rangeFunc_ownH rfl (by omega) (gf := 177) (lb := #[.pointer (some ⟨w.heap.size + 1 + 1, 0, none⟩)]) rfl trivial (enters_of Try.func177 (by kernel_rfl) rfl)
    (dots_stops 4 (by omega) (w.heap.size + 1 + 1) w3.heap.size Mb mb B hmb w3 (Nat.le_refl _) x3 hB3) KC.trans kc_b (Below.refl _ _) (fun _ => rfl)
    (fun (pre : List Dt) W => (Bx W w.heap.size 116 #[.map (some Ma)] ∧ Bx W (w.heap.size + 1) 4 #[.bool false] ∧ VM W Ma ma A ∧ Below w.heap.size w3 W) ∧ ∀ x ∈ pre, x.1.2 ≤ gI A x.1.1)
    (fun c (pre : List Dt) W => (Bx W (w.heap.size + 1) 4 #[.bool false] ∧ Below w.heap.size w3 W) ∧ c = .ret ∧ ∃ x ∈ pre, gI A x.1.1 < x.1.2)
    (OwnFrom.and (OwnFrom.and (bx_own _ _ _ _) (OwnFrom.and (bx_own _ _ _ _) (OwnFrom.and (vm_own hMa) (ownFrom_below (by omega) (by omega))))) (ownFrom_pure _ _))
    (fun c => OwnFrom.and (OwnFrom.and (bx_own _ _ _ _) (ownFrom_below (by omega) (by omega))) (ownFrom_pure _ _))
    ⟨⟨x1, x2, hA3, Below.refl _ _⟩, fun x hx => by cases hx⟩
    (fun (x : Dt) a' W => ∃ g, w3.heap.size ≤ g ∧ Bx W g 123 #[.int .i64 x.1.1, .int .i64 x.1.2] ∧ a' = { tmps := #[.map (some Ma), .map (some Mb), .pointer (some ⟨w.heap.size, 0, none⟩), undef, .pointer (some ⟨w.heap.size + 1, 0, none⟩), .pointer (some ⟨g, 0, none⟩), .map (some Mb), .func (.func 177) #[] #[.pointer (some ⟨w.heap.size + 1 + 1, 0, none⟩)], .agg #[.int .i64 x.1.1, .int .i64 x.1.2], undef, undef, undef, undef, undef, undef, undef], defers := [] })
    (fun x a' => fun s X Y row hs hg hr => by obtain ⟨g, h1, h2, h3⟩ := hs; exact ⟨g, h1, bx_own _ _ _ _ s X Y row h2 hg hr, h3⟩) ?assign ?body ?done ?stop
  case assign =>
    rintro l pre x W K ⟨⟨b1, b2, b3, b4⟩, b5⟩ hK
    have hBW : w3.heap.size ≤ W.heap.size := b4.size
    have hwW : w.heap.size ≤ W.heap.size := by omega
    unfold encDt
    gi_wp2
    exact hK _ _ ((KeepsOthers.alloc _ _).from _) (KC.of_below ((Below.refl _ _).alloc (Nat.le_refl _) _)) ⟨⟨b1.past _, b2.past _, World.ownsMap.alloc b3 _, b4.alloc hwW _⟩, b5⟩ ⟨W.heap.size, hBW, Bx.fresh W _ _, rfl⟩
  case body =>
    rintro l pre x a' W hl ⟨r, hr⟩ ⟨⟨b1, b2, b3, b4⟩, b5⟩ ⟨g, hg, bx, rfl⟩ hN
    obtain ⟨⟨xw, xn⟩, xi⟩ := x
    dsimp only at *
    have y0 := b1.read (i := 0) rfl
    obtain ⟨z0, z1⟩ := And.intro (bx.read (i := 0) rfl) (bx.read (i := 1) rfl)
    have hlk := (look_vm b3 xw xi.1).1
    have HPRE : Hid (¬ gI A xw < xn → ∀ y ∈ pre ++ [(⟨(xw, xn), xi⟩ : Dt)], y.1.2 ≤ gI A y.1.1) := Hid.mk' (fun (hc : ¬ gI A xw < xn) => (show ∀ y ∈ pre ++ [(⟨(xw, xn), xi⟩ : Dt)], y.1.2 ≤ gI A y.1.1 from fun y hy => by
      rcases List.mem_append.1 hy with h | h
      · exact b5 y h
      · simp at h
        subst h
        exact Int.not_lt.1 hc))
    by_cases hc : gI A xw < xn
    · have f2 := b2.open_ 0
      have c2 := b2.read (i := 0) rfl
      have hr1 := b2.put 0 (.bool false)
      gi_wp2
      exact ⟨(KeepsOthers.setCell _ _ _).from _, ⟨hr1, b4.setCell (p := ⟨w.heap.size + 1, 0, none⟩) (by show w.heap.size ≤ w.heap.size + 1; omega) _⟩, rfl, by refine ⟨xw, xn, ?_⟩; first | exact ⟨⟨xi, by simp⟩, hc⟩ | exact ⟨xi, by simp, hc⟩ | exact ⟨hc, xi, by simp⟩⟩
    · gi_wp2
      exact ⟨KeepsFrom.refl _ _, KC.refl _ _, ⟨b1, b2, b3, b4⟩, fun a b h hm => HPRE.out hc ⟨(a, b), h⟩ hm⟩
  case done =>
    rintro D xs W hD hS ⟨⟨b1, b2, b3, b4⟩, b5⟩ hK
    have f2 := b2.open_ 0
    have c2 := b2.read (i := 0) rfl
    have hr1 := b2.put 0 (.bool true)
    have z := hr1.read (i := 0) rfl
    have hK2 := (KeepsOthers.setCell W ⟨w.heap.size + 1, 0, none⟩ (.bool true)).same D _ hK rfl
    gi_wp2
    refine ⟨by simp, .inl ⟨_, _, rfl, run_takeDeferred hK2, ?_⟩⟩
    have zz := cell_kept z (grownBy_putObj' _ D (.deferred none)) (fun r e => by cases e; exact ⟨_, hK2, rfl⟩)
    refine ⟨.bool true, by simp [results, Try.results79, go_sem, zz], ?_⟩
    have hbf : Below w.heap.size w ((W.setCell ⟨w.heap.size + 1, 0, none⟩ (.bool true)).putObj D (.deferred none)) := e1.trans ((b4.setCell (p := ⟨w.heap.size + 1, 0, none⟩) (by show w.heap.size ≤ w.heap.size + 1; omega) _).trans (belowK_b (w := w) (Nat.le_refl _) _ D _ _ (by omega) hK2 rfl rfl))
    have hall : ∀ k : Int, Maps.has B (.int .i64 k) = true → gI B k ≤ gI A k := fun k hk => by
      obtain ⟨c, hc⟩ := (hS.1.1 k).1 hk
      obtain ⟨y, hy, he⟩ := List.mem_map.1 hc
      have h5 := b5 y hy
      have h6 := (hS.1.2.1 _ hc).1
      rw [he] at h5
      dsimp only at h5 h6
      omega
    first | exact .inr ⟨rfl, hall, hbf⟩ | exact ⟨true, rfl, ⟨fun _ => hall, fun _ => rfl⟩, hbf⟩
  case stop =>
    rintro D c pre W hD hS ⟨⟨b2, b4⟩, rfl, x, hx, hlt⟩ hK
    have z := b2.read (i := 0) rfl
    gi_wp2
    refine ⟨by simp, .inl ⟨_, _, rfl, run_takeDeferred hK, ?_⟩⟩
    have zz := cell_kept z (grownBy_putObj' _ D (.deferred none)) (fun r e => by cases e; exact ⟨_, hK, rfl⟩)
    refine ⟨.bool false, by simp [results, Try.results79, go_sem, zz], ?_⟩
    have hbf : Below w.heap.size w (W.putObj D (.deferred none)) := e1.trans (b4.trans (belowK_b (w := w) (Nat.le_refl _) _ D _ _ (by omega) hK rfl rfl))
    obtain ⟨h7, h8⟩ := hS x hx
    exact ⟨false, rfl, ⟨fun h => (by cases h), fun h => by have := h x.1.1 h7; omega⟩, hbf⟩
end Go.Proofs.Ytaeflfgkdjfnfaa
