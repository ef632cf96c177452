/- Layer 44 (hist): Len. -/
import Derived.Test.YtljhnkcoknikgaaW5
import Derived.Maps.OwnIn
import Derived.Deep.AppendLies
namespace Go.Proofs.Ytljhnkcoknikgaa
open Go.RowKit
attribute [local go_sem] Oper.semAt_some

theorem true_b (P : World → Prop) : ∀ (W : World) (l : Nat) (o o' : Obj), P W → W.heap[l]? = some o → o.isCells = false → o.isWalk = false → True := fun _ _ _ _ _ _ _ _ => trivial
theorem bx_own {β : Type} (B g : Nat) (t : TypeId) (cs : Array Value) : OwnFrom B (fun (_ : β) W => Bx W g t cs) := fun _ X Y row hs hg hr =>
  hs.grown hg (fun e => by
    obtain ⟨_, o, ho, hc⟩ := hr g e
    unfold Bx at hs
    rw [hs] at ho
    cases ho
    cases hc)
/-- A sum, cut. -/
def addV (a b : Int) : Int := cut (min (max a (-1125899906842624)) 1125899906842624 + min (max b (-1125899906842624)) 1125899906842624)
def accP (l : List (Int × Int)) : Int := l.foldl (fun s x => addV s x.2) 0
theorem accP_snoc (l : List Pr) (x : Pr) : accP ((l ++ [x]).map (·.1)) = addV (accP (l.map (·.1))) x.1.2 := by simp [accP]
/-- How many there are. -/
def lenF (f : Nat → Int) : Int := accP (prs f 0 24)
/-- What Len's own boxes hold. -/
def LI (w : World) (n1 : Nat) (pre : List Pr) (W : World) : Prop := Bx W (w.heap.size + 1) 3 #[.int .i64 (accP (pre.map (·.1)))] ∧ Below w.heap.size w W ∧ n1 ≤ W.heap.size
theorem LI.own (w : World) (n1 : Nat) (hn : w.heap.size ≤ n1) : OwnFrom n1 (LI w n1) := fun pre X Y row hs hg hr => by
  obtain ⟨b1, hb, hsz⟩ := hs
  exact ⟨bx_own (β := Unit) _ _ _ _ () X Y row b1 hg hr, hb.grown hg hb.size (fun k e => Nat.le_trans hn (hr k e).1), Nat.le_trans hsz hg.size⟩
set_option maxRecDepth 100000 in
set_option maxHeartbeats 8000000 in
theorem len_any (cs : Array Value) (f : Nat → Int) (hC : HC cs f) (w : World) :
    Calls Try.prog 14 #[.agg cs] w fun e w' => e = .returned (.int .i64 (lenF f)) ∧ Below w.heap.size w w' := by
  have CS := Lib.hid (fun W => some_any cs hC.size W)
  have CA := Lib.hid (fun a b W => add_any a b W)
  have HCC := Lib.hid hC
  have hld := load_hist ((w.alloc (.cells cs 24)).alloc (.cells #[.int .i64 0] 3)) w.heap.size cs ((Bx.fresh _ _ _).past _) hC.size
  clear hC
  refine (callsIn_wide (n := 5)).1 ?_
  refine callsIn_of_wp_marks Try.func14 rfl trivial ?_ rfl
  simp only [Try.ntmps14, List.size_toArray, List.length_cons, List.length_nil, Nat.reduceAdd, Nat.reduceSub, Array.replicate_succ, Array.replicate_zero, List.push_toArray, List.append_toArray, List.nil_append, List.cons_append]
  gi_wp2_with (first | (refine wpListIn_load_row rfl 24 _ rfl w.heap.size rfl cs hld ?_) | (refine ⟨trivial, ?_⟩; gi_at_call 59; refine (callsIn_wide.2 (CS.out _)).mono ?_; rintro e w2 ⟨rfl, rfl⟩))
  have y1 : Bx (((w.alloc (.cells cs 24)).alloc (.cells #[.int .i64 0] 3)).alloc (.cells cs 24)) (w.heap.size + 1) 3 #[.int .i64 0] := (Bx.fresh' (w.alloc _) (by simp) _ _).past _
  have y2 : Bx (((w.alloc (.cells cs 24)).alloc (.cells #[.int .i64 0] 3)).alloc (.cells cs 24)) (w.heap.size + 1 + 1) 24 cs := Bx.fresh' ((w.alloc _).alloc _) (by simp) _ _
  have e2 : Below w.heap.size w (((w.alloc (.cells cs 24)).alloc (.cells #[.int .i64 0] 3)).alloc (.cells cs 24)) := (((Below.refl _ _).alloc (Nat.le_refl _) _).alloc (by simp) _).alloc (by simp; omega) _
  have hsz : (((w.alloc (.cells cs 24)).alloc (.cells #[.int .i64 0] 3)).alloc (.cells cs 24)).heap.size = w.heap.size + 3 := by simp
  generalize ((w.alloc (.cells cs 24)).alloc (.cells #[.int .i64 0] 3)).alloc (.cells cs 24) = w2 at *
  clear hld
  refine wpIn_rangeFunc_ownH rfl (by omega) (gf := 101) (lb := #[.pointer (some ⟨w.heap.size + 1 + 1, 0, none⟩)]) rfl trivial (enters_of Try.func101 (by kernel_rfl) rfl)
    (some_stops 4 (by omega) cs f HCC.out (w.heap.size + 1 + 1) 24 (Nat.le_refl _) w2 y2) (fun _ _ => trivial) (fun _ _ _ _ _ _ _ _ => trivial) (Below.refl _ _) (fun _ => rfl)
    (LI w w2.heap.size)
    (fun _ (_ : List Pr) _ => False)
    (LI.own w w2.heap.size (by omega))
    (fun c q X Y row hs hg hr => hs)
    ⟨y1, e2, Nat.le_refl _⟩
    (fun (x : Pr) a' W => a' = { tmps := #[.agg cs, .pointer (some ⟨w.heap.size, 0, none⟩), .int .i64 0, .pointer (some ⟨w.heap.size + 1, 0, none⟩), undef, .int .i64 x.1.2, .agg cs, .func (.func 101) #[] #[.pointer (some ⟨w.heap.size + 1 + 1, 0, none⟩)], .int .i64 x.1.1, .int .i64 x.1.2, undef, undef, undef, undef], defers := [] })
    (fun x a' => fun _ X Y row hs _ _ => hs) ?assign ?body ?done ?stop
  case assign =>
    rintro l pre x W K hI hK
    unfold encPr
    gi_wp2
    exact hK _ _ (KeepsFrom.refl _ _) trivial hI rfl
  case body =>
    rintro l pre x a' W hl ⟨r, hr⟩ ⟨b1, hb, hW⟩ rfl hN
    have c1 := b1.read (i := 0) rfl
    have f1 := b1.open_ 0
    have HS := Lib.hid (accP_snoc pre x)
    have HB := Lib.hid (And.intro b1 (And.intro hb hW))
    clear b1 hb hW
    generalize accP (pre.map (·.1)) = s at *
    generalize hxv : x.1.2 = v at *
    generalize x.1.1 = i at *
    gi_wp2_with (refine ⟨trivial, ?_⟩; gi_at_call 58; refine (callsIn_wide.2 (CA.out s v _)).mono ?_; rintro e w4 ⟨rfl, rfl⟩)
    gi_wp2
    have hnew : LI w w2.heap.size (pre ++ [x]) (W.setCell ⟨w.heap.size + 1, 0, none⟩ (.int .i64 (addV s v))) := by
      unfold LI
      rw [HS.out]
      refine ⟨HB.out.1.put 0 _, HB.out.2.1.setCell (p := ⟨w.heap.size + 1, 0, none⟩) (by show w.heap.size ≤ w.heap.size + 1; omega) _, by simpa [World.setCell] using HB.out.2.2⟩
    exact ⟨(KeepsOthers.setCell _ _ _).from _, trivial, hnew⟩
  case done =>
    rintro D xs W hD hS ⟨b1, hb, hW⟩ hK
    have c1 := b1.read (i := 0) rfl
    have HS := Lib.hid (show accP (xs.map (·.1)) = lenF f by unfold lenF; rw [← show xs.map (·.1) = prs f 0 24 from hS])
    have HB := Lib.hid hb
    clear hb b1
    generalize accP (xs.map (·.1)) = s at *
    gi_wp2
    refine ⟨by simp, .inl ⟨_, _, rfl, run_takeDeferred (by exact hK), ?_⟩⟩
    have hbf : Below w.heap.size w (W.putObj D (.deferred none)) := HB.out.trans (belowK_b (w := w) (Nat.le_refl _) W D _ _ (by omega) hK rfl rfl)
    exact ⟨.int .i64 s, by simp [results, Try.results14, go_sem], by rw [HS.out], hbf⟩
  case stop =>
    rintro D c q W hD hS hF hK
    exact hF.elim
end Go.Proofs.Ytljhnkcoknikgaa
