/- Layer 13 (mem): what is gone through of the example's tree, as the law gathers it. -/
import Derived.Test.YtljhnkcoknikgaaXr
import Derived.Maps.OwnIn
import Derived.Deep.AppendLies
import Derived.RangeFuncNested
import Derived.Shelf.Abstract
namespace Go.Proofs.Ytljhnkcoknikgaa
open Go.RowKit Go.Shelf
attribute [local go_sem] Oper.semAt_some

theorem bx_own {β : Type} (B g : Nat) (t : TypeId) (cs : Array Value) : OwnFrom B (fun (_ : β) W => Bx W g t cs) := fun _ X Y row hs hg hr =>
  hs.grown hg (fun e => by
    obtain ⟨_, o, ho, hc⟩ := hr g e
    unfold Bx at hs
    rw [hs] at ho
    cases ho
    cases hc)
theorem own_notrow {W : World} {base n : Nat} {e : TypeId} {size : Nat} {v : Value} {xs : List Value} {row : Option Nat} {B : Nat} (h : W.ownsRow base e size v n xs) (hr : ∀ r, row = some r → B ≤ r ∧ ∃ o : Obj, W.heap[r]? = some o ∧ o.isCells = false) : v.ownBlock = none ∨ v.ownBlock ≠ row := by
  rcases h.2 with ⟨rfl, _⟩ | ⟨g, cap, cur, rfl, _, hc, _⟩
  · exact .inl rfl
  · right
    intro e1
    obtain ⟨_, o, ho, hf⟩ := hr g e1.symm
    rw [hc] at ho
    cases ho
    cases hf
def abC (x : Bool) : List Value := if x then [.int .i64 1, .int .i64 1, .string ⟨#[98]⟩, .string ⟨#[]⟩, .string ⟨#[]⟩, .int .i64 0, .int .i64 1, .int .i64 0, .int .i64 0, .slice none 0 0] else [.int .i64 1, .int .i64 1, .string ⟨#[97]⟩, .string ⟨#[]⟩, .string ⟨#[]⟩, .int .i64 0, .int .i64 2, .int .i64 0, .int .i64 0, .slice none 0 0]
def abF (pre : List Bool) : List Value := pre.flatMap abC
theorem abC_len (x : Bool) : (abC x).length = 10 := by cases x <;> rfl
theorem abF_snoc (pre : List Bool) (x : Bool) : abF (pre ++ [x]) = abF pre ++ abC x := by simp [abF]
theorem own_form {W : World} {base n : Nat} {e : TypeId} {size : Nat} {v : Value} {xs : List Value} (h : W.ownsRow base e size v n xs) : ∃ a c, v = .slice a n c := by
  rcases h.2 with ⟨rfl, h0⟩ | ⟨g, cap, cur, rfl, _⟩
  · exact ⟨none, 0, by rw [h0]⟩
  · exact ⟨_, _, rfl⟩
theorem own_cells {W : World} {base n : Nat} {e : TypeId} {size : Nat} {v : Value} {xs : List Value} (h : W.ownsRow base e size v n xs) (j : Nat) (o : Obj) (hj : v.ownBlock = some j) (ho : W.heap[j]? = some o) : o.isCells = true := by
  rcases h.2 with ⟨rfl, _⟩ | ⟨g, cap, cur, rfl, _, hc, _⟩
  · cases hj
  · have : g = j := by simpa [Value.ownBlock] using hj
    subst this
    rw [hc] at ho
    cases ho
    rfl
theorem own_below {W : World} {base n : Nat} {e : TypeId} {size : Nat} {v : Value} {xs : List Value} (h : W.ownsRow base e size v n xs) (c : Nat) (hc : c < base) : v.ownBlock = none ∨ v.ownBlock ≠ some c := by
  right
  intro e1
  have := (World.ownsRow.lt h c e1).1
  omega
theorem own_ne' {W : World} {base n : Nat} {e : TypeId} {size : Nat} {v : Value} {xs : List Value} (h : W.ownsRow base e size v n xs) (c : Nat) (hc : c < base) : v.ownBlock ≠ some c := fun e1 => by
  have := (World.ownsRow.lt h c e1).1
  omega
/-- One box, which holds a row of the call's own. -/
structure ABS (w : World) (n1 : Nat) (W : World) (v : Value) (pre : List Bool) : Prop where
  b1 : Bx W w.heap.size 47 #[v]
  oa : W.ownsRow n1 40 10 v pre.length (abF pre)
  bel : Below w.heap.size w W
  sz : n1 ≤ W.heap.size
theorem ABS.past {w W : World} {n1 : Nat} {v : Value} {pre : List Bool} (h : ABS w n1 W v pre) (o : Obj) : ABS w n1 (W.alloc o) v pre := ⟨h.b1.past o, World.ownsRow.alloc h.oa o, h.bel.alloc h.bel.size o, by have := h.sz; simp; omega⟩
theorem ABS.app {w W w' : World} {n1 : Nat} {v v' : Value} {pre : List Bool} {x : Bool} (h : ABS w n1 W v pre) (hn : w.heap.size < n1) (o : Obj) (hg : (W.alloc o).grownBy w' v.ownBlock) (ho : w'.ownsRow n1 40 10 v' (pre.length + 1) (abF pre ++ abC x)) : ABS w n1 (w'.setCell ⟨w.heap.size, 0, none⟩ v') v' (pre ++ [x]) := by
  have hs := gb_set w' w.heap.size 0 v'
  have hsz : n1 ≤ w'.heap.size := by have h1 := h.sz; have h2 := hg.size; simp at h2; omega
  have hb' : Below w.heap.size w w' := (h.bel.alloc h.bel.size o).grown hg (by have := h.bel.size; simp; omega) (fun k e => by have := (World.ownsRow.lt h.oa k e).1; omega)
  refine ⟨?_, ?_, ?_, by simpa [World.setCell] using hsz⟩
  · exact ((h.b1.past o).grown hg (own_ne' h.oa _ hn)).put 0 v'
  · rw [abF_snoc, List.length_append]
    exact ho.kept hs (own_below ho _ hn)
  · exact hb'.setCell (p := ⟨w.heap.size, 0, none⟩) (Nat.le_refl _) _
theorem ab_keeps {W w' : World} {n1 n B c : Nat} {e : TypeId} {size : Nat} {v u : Value} {xs : List Value} (o : Obj) (h : W.ownsRow n1 e size v n xs) (hg : (W.alloc o).grownBy w' v.ownBlock) (hB : B ≤ n1) (hc : B ≤ c) (hW : B ≤ W.heap.size) : KeepsOthers W (w'.setCell ⟨c, 0, none⟩ u) ∧ Below B W (w'.setCell ⟨c, 0, none⟩ u) := by
  have h2 : (W.alloc o).ownsRow n1 e size v n xs := World.ownsRow.alloc h o
  refine ⟨((KeepsOthers.alloc W o).trans (KeepsOthers.of_grownBy hg (fun j o' hj ho => own_cells h2 j o' hj ho))).trans (KeepsOthers.setCell _ _ _), ?_⟩
  exact (((Below.refl B W).alloc hW o).grown hg (by simp; omega) (fun k hk => by have := (World.ownsRow.lt h2 k hk).1; omega)).setCell (p := ⟨c, 0, none⟩) hc _
set_option maxRecDepth 100000 in
set_option maxHeartbeats 8000000 in
theorem lfrom_any (gt g gA : Nat) (w : World) (ht : Bx w gt 98 #[.pointer (some ⟨g, 0, none⟩), .int .i64 2])
    (h : Bx w g 166 #[.int .i64 1, .int .i64 1, .string ⟨#[98]⟩, .string ⟨#[]⟩, .string ⟨#[]⟩, .int .i64 0, .int .i64 1, .int .i64 0, .int .i64 0, .slice none 0 0, .pointer (some ⟨gA, 0, none⟩), .pointer none, .int .i64 2]) (hAa : Bx w gA 166 #[.int .i64 1, .int .i64 1, .string ⟨#[97]⟩, .string ⟨#[]⟩, .string ⟨#[]⟩, .int .i64 0, .int .i64 2, .int .i64 0, .int .i64 0, .slice none 0 0, .pointer none, .pointer none, .int .i64 1]) :
    Calls Try.prog 78 #[.pointer (some ⟨gt, 0, none⟩), .string ⟨#[]⟩] w fun e w' => ∃ v base, e = .returned v ∧ w'.ownsRow base 40 10 v 2 (abF [false, true]) ∧ Below w.heap.size w w' := by
  have CA := Lib.hid (fun W => from_any gt W)
  have hnil : ∀ (bs : Array Value) W, (binOp .eql 135 (.func (.func 153) #[] bs) .nilFunc).run Try.prog W = .ok (.bool false) W := fun _ _ => by kernel_rfl
  refine (callsIn_wide (n := 5)).1 ?_
  refine callsIn_of_wp_marks Try.func78 rfl trivial ?_ rfl
  simp only [Try.ntmps78, List.size_toArray, List.length_cons, List.length_nil, Nat.reduceAdd, Nat.reduceSub, Array.replicate_succ, Array.replicate_zero, List.push_toArray, List.append_toArray, List.nil_append, List.cons_append]
  gi_wp2_with (refine ⟨trivial, ?_⟩; gi_at_call 120; refine (callsIn_wide.2 (CA.out _)).mono ?_; rintro e w2 ⟨rfl, hx0, hx1, hb2, hsz2⟩)
  simp only [World.size_alloc] at hx0 hx1
  have e1 : Below w.heap.size w (w.alloc (.cells #[.slice none 0 0] 47)) := (Below.refl _ _).alloc (Nat.le_refl _) _
  have e2 : Below w.heap.size w w2 := bnext e1 hb2
  have y1 : Bx w2 w.heap.size 47 #[.slice none 0 0] := Bx.next (Bx.fresh _ _ _) hb2
  have hz2 : w.heap.size + 3 ≤ w2.heap.size := by simp at hsz2; omega
  have HS := Lib.hid (from_stops 4 gt g gA (w.heap.size + 1) w.heap.size w2 h.inside hAa.inside e2.size (ht.next e2) hx0 hx1 (h.next e2) (hAa.next e2))
  clear hb2 e1 CA hx0 hx1 ht h hAa hsz2
  refine wpIn_rangeFunc_ownH rfl (by omega) (gf := 153) (lb := #[.pointer (some ⟨w.heap.size + 1, 0, none⟩), .pointer (some ⟨w.heap.size + 1 + 1, 0, none⟩)]) rfl trivial (enters_of Try.func153 (by kernel_rfl) rfl)
    HS.out belowK_t (belowK_b e2.size) (Below.refl _ _) (fun x => by cases x <;> rfl)
    (fun pre W => ∃ v, ABS w w2.heap.size W v pre)
    (fun _ _ _ => False)
    (fun pre X Y row hs hg hr => by obtain ⟨v, hb, ho, hbl, hsz⟩ := hs; exact ⟨v, bx_own (β := Unit) _ _ _ _ () X Y row hb hg hr, ho.kept hg (own_notrow ho hr), hbl.grown hg hbl.size (fun k e => by have := (hr k e).1; omega), Nat.le_trans hsz hg.size⟩)
    (fun _ _ _ _ _ hs _ _ => hs)
    ⟨_, y1, World.ownsRow_nil _ _ _ _, e2, Nat.le_refl _⟩
    (fun (x : Bool) a' W => ∃ b, w2.heap.size ≤ b ∧ Bx W b 40 (abC x).toArray ∧ a' = { tmps := #[.pointer (some ⟨gt, 0, none⟩), .string ⟨#[]⟩, undef, undef, .slice none 0 0, .pointer (some ⟨w.heap.size, 0, none⟩), .func (.func 153) #[] #[.pointer (some ⟨w.heap.size + 1, 0, none⟩), .pointer (some ⟨w.heap.size + 1 + 1, 0, none⟩)], .pointer (some ⟨b, 0, none⟩), .pointer (some ⟨gt, 0, none⟩), .string ⟨#[]⟩, .func (.func 153) #[] #[.pointer (some ⟨w.heap.size + 1, 0, none⟩), .pointer (some ⟨w.heap.size + 1 + 1, 0, none⟩)], .func (.func 153) #[] #[.pointer (some ⟨w.heap.size + 1, 0, none⟩), .pointer (some ⟨w.heap.size + 1 + 1, 0, none⟩)], .bool false, .func (.func 153) #[] #[.pointer (some ⟨w.heap.size + 1, 0, none⟩), .pointer (some ⟨w.heap.size + 1 + 1, 0, none⟩)], .agg (abC x).toArray, undef, undef, undef, undef, undef], defers := [] })
    ?hab ?assign ?body ?done ?stop
  case hab =>
    intro x a' _ X Y row hs hg hr
    obtain ⟨b, h1, h2, h3⟩ := hs
    exact ⟨b, h1, bx_own (β := Unit) _ _ _ _ () X Y row h2 hg hr, h3⟩
  case stop =>
    rintro D c q W hD _ hf _
    exact hf.elim
  case done =>
    rintro D xs W hD rfl ⟨v, hps⟩ hK
    have HPS := Lib.hid hps
    have c1 := hps.b1.read (i := 0) rfl
    clear hps
    gi_wp2
    refine ⟨by simp, .inl ⟨_, _, rfl, run_takeDeferred (by exact hK), ?_⟩⟩
    have hgp := grownBy_putObj' W D (.deferred none)
    have hbf : Below w.heap.size w (W.putObj D (.deferred none)) := HPS.out.bel.trans (belowK_b (w := w) (Nat.le_refl _) W D _ _ (by omega) hK rfl rfl)
    have hr : ∀ r, some D = some r → w2.heap.size ≤ r ∧ ∃ o : Obj, W.heap[r]? = some o ∧ o.isCells = false := fun r e => by cases e; exact ⟨hD, _, hK, rfl⟩
    refine ⟨v, by simp [results, Try.results78, go_sem], ?_⟩
    exact ⟨_, _, rfl, HPS.out.oa.kept hgp (own_notrow HPS.out.oa hr), hbf⟩
  case assign =>
    rintro l pre x W K ⟨v, hps⟩ hK
    have HPS := Lib.hid hps
    clear hps
    cases x
    all_goals unfold encAB
    all_goals gi_wp2
    all_goals exact hK _ _ ((KeepsOthers.alloc W _).from _) ((Below.refl _ W).alloc HPS.out.bel.size _) ⟨v, HPS.out.past _⟩ ⟨_, HPS.out.sz, Bx.fresh _ _ _, rfl⟩
  case body =>
    rintro l pre x a' W hl ⟨r, hr⟩ ⟨v, hps⟩ ⟨b, hb1, hbx, rfl⟩ hN
    have HPS := Lib.hid hps
    have HBX := Lib.hid hbx
    have c1 := hps.b1.read (i := 0) rfl
    have f1 := hps.b1.open_ 0
    obtain ⟨qa, qc, rfl⟩ := own_form hps.oa
    clear hps
    obtain ⟨i0, hi, hz0, hz1, hz2⟩ := info_parts m_info
    have HI := Lib.hid (And.intro hi (And.intro hz0 (And.intro hz1 hz2)))
    clear hi hz0 hz1 hz2
    cases x
    all_goals
      have m0 := hbx.read (i := 0) rfl
      have m1 := hbx.read (i := 1) rfl
      have m2 := hbx.read (i := 2) rfl
      have m3 := hbx.read (i := 3) rfl
      have m4 := hbx.read (i := 4) rfl
      have m5 := hbx.read (i := 5) rfl
      have m6 := hbx.read (i := 6) rfl
      have m7 := hbx.read (i := 7) rfl
      have m8 := hbx.read (i := 8) rfl
      have m9 := hbx.read (i := 9) rfl
      clear hbx
      clear HBX
    case false =>
      gi_wp2_with (gi_at_builtin; refine wpListIn_append_own_at _ rfl (.tmp 15) (.tmp 17) 47 rfl w2.heap.size 40 i0 _ 10 120 Try.underlying47 HI.out.1 HI.out.2.1 HI.out.2.2.1 HI.out.2.2.2 rfl (by decide) _ pre.length (abF pre) rfl (World.ownsRow.alloc HPS.out.oa _) ⟨W.heap.size, 0, none⟩ 1 1 (abC false) rfl rfl ?c1 ?c2 ?c3 ?c4 ?c5 ?_)
      try case c1 => exact World.news_of_block (cs := (abC false).toArray) (t := 40) (fr := (0, 0)) (heap_alloc_new W _)
      case c2 => simp [abC, Value.oneCell']
      case c3 => simp only [maxLen]; omega
      case c4 => omega
      case c5 => have := HPS.out.sz; simp; omega
      intro v5 W5 hown5 hgr5 _ hat5
      obtain ⟨q5, qc5, rfl⟩ := own_form hown5
      have HP5 := Lib.hid (HPS.out.app (x := false) (by omega) _ hgr5 hown5)
      have HK := Lib.hid (ab_keeps (B := w.heap.size) (c := w.heap.size) (u := .slice q5 (pre.length + 1) qc5) _ HPS.out.oa hgr5 e2.size (Nat.le_refl _) HPS.out.bel.size)
      have d2 : W5.cell? ⟨w.heap.size, 0, none⟩ = some (.slice qa pre.length qc) := ((HPS.out.b1.past _).grown hgr5 (own_ne' HPS.out.oa _ (by omega))).read (i := 0) rfl
      have g2 : W5.frozen? ⟨w.heap.size, 0, none⟩ = false := ((HPS.out.b1.past _).grown hgr5 (own_ne' HPS.out.oa _ (by omega))).open_ 0
      clear c1 f1 hown5 hat5 hgr5
      gi_wp2
      exact ⟨HK.out.1.from _, HK.out.2, _, HP5.out⟩
    case true =>
      gi_wp2_with (gi_at_builtin; refine wpListIn_append_own_at _ rfl (.tmp 15) (.tmp 17) 47 rfl w2.heap.size 40 i0 _ 10 120 Try.underlying47 HI.out.1 HI.out.2.1 HI.out.2.2.1 HI.out.2.2.2 rfl (by decide) _ pre.length (abF pre) rfl (World.ownsRow.alloc HPS.out.oa _) ⟨W.heap.size, 0, none⟩ 1 1 (abC true) rfl rfl ?c1 ?c2 ?c3 ?c4 ?c5 ?_)
      try case c1 => exact World.news_of_block (cs := (abC true).toArray) (t := 40) (fr := (0, 0)) (heap_alloc_new W _)
      case c2 => simp [abC, Value.oneCell']
      case c3 => simp only [maxLen]; omega
      case c4 => omega
      case c5 => have := HPS.out.sz; simp; omega
      intro v5 W5 hown5 hgr5 _ hat5
      obtain ⟨q5, qc5, rfl⟩ := own_form hown5
      have HP5 := Lib.hid (HPS.out.app (x := true) (by omega) _ hgr5 hown5)
      have HK := Lib.hid (ab_keeps (B := w.heap.size) (c := w.heap.size) (u := .slice q5 (pre.length + 1) qc5) _ HPS.out.oa hgr5 e2.size (Nat.le_refl _) HPS.out.bel.size)
      have d2 : W5.cell? ⟨w.heap.size, 0, none⟩ = some (.slice qa pre.length qc) := ((HPS.out.b1.past _).grown hgr5 (own_ne' HPS.out.oa _ (by omega))).read (i := 0) rfl
      have g2 : W5.frozen? ⟨w.heap.size, 0, none⟩ = false := ((HPS.out.b1.past _).grown hgr5 (own_ne' HPS.out.oa _ (by omega))).open_ 0
      clear c1 f1 hown5 hat5 hgr5
      gi_wp2
      exact ⟨HK.out.1.from _, HK.out.2, _, HP5.out⟩
end Go.Proofs.Ytljhnkcoknikgaa
