/- Layer 44 (hist): Line of the chapter's example. -/
import Derived.Test.YtljhnkcoknikgaaW8
import Derived.Deep.RegionLaw
import Derived.Deep.AppendLies
namespace Go.Proofs.Ytljhnkcoknikgaa
open Go.RowKit
attribute [local go_sem] Oper.semAt_some

/-- Only the way that goes on. -/
def onlyN (Q : Exit → Act → World → Prop) : Exit → Act → World → Prop := fun c a w => match c with | .normal => Q .normal a w | _ => False
def noDefer (ops : Array Oper) : Bool := ops.all fun o => match o.op with | .defer _ => false | _ => true
theorem noDefer_at {ops : Array Oper} (h : noDefer ops = true) {i : Nat} {o : Oper} (ho : ops[i]? = some o) : ∀ c, o.op ≠ .defer c := by
  intro c hc
  have h1 := (Array.all_eq_true.1 h) i (Array.getElem?_eq_some_iff.1 ho).1
  rw [(Array.getElem?_eq_some_iff.1 ho).2, hc] at h1
  cases h1
theorem ops_bridge {P : Program} {ops : Array Oper} {Q : Exit → Act → World → Prop} {l n : Nat} (hnd : noDefer ops = true) :
    ∀ (is : List Nat) (a : Act) (w : World), wpOps P ops (onlyN Q) is a w → wpOpsIn (Fence.wide.inRound l) n P ops Q is a w := by
  intro is
  induction is with
  | nil => intro a w h; exact h
  | cons i rest ih =>
    intro a w h
    simp only [wpOps, wpOpsIn] at *
    cases ho : ops[i]? with
    | none => simp only [ho] at h; exact ih a w h
    | some o =>
      simp only [ho] at h
      by_cases hw : Region.wanted o (yielded ops a.tmps) = true
      · simp only [hw, if_true] at h ⊢
        rcases h with h | ⟨_, _, _, h⟩
        · refine ⟨fun _ _ => trivial, ?_⟩
          rw [Oper.semAt_eq _ _ _ (noDefer_at hnd ho)]
          unfold Oper.wp at h
          generalize (execOp a.eval o).run P w = r at *
          cases r with
          | ok x w' =>
            cases x <;> simp only [Oper.upon, Oper.uponIn] at h ⊢
            case value v => exact ih _ _ h
            case skip => exact ih _ _ h
            case defer d => exact ih _ _ h
            case enter f args =>
              refine ⟨fun hd => (by cases hd), CallsIn.inRound l (callsIn_wide.2 (h.mono ?_))⟩
              intro e w2 he
              cases e with
              | returned v => exact ih _ _ he
              | panicked c => exact he.elim
              | outgrown => obtain ⟨_, _, hf⟩ := he; exact hf.elim
            case row row args =>
              refine ⟨fun hd => (by cases hd), fun c cs _ => ?_⟩
              obtain ⟨v, w2, r, s⟩ := h c cs
              exact ⟨v, w2, ih _ _ r, stepsIn_wide.2 s⟩
          | halt x w' => cases x <;> simp only [Oper.upon, onlyN] at h
        · exact h.elim
      · simp only [hw, Bool.false_eq_true, if_false] at h ⊢
        exact ⟨fun _ _ => trivial, ih _ _ h⟩
theorem wpIn_region_anyR {P : Program} {ops : Array Oper} {Q : Exit → Act → World → Prop} {id l n : Nat} {a : Act} {w : World} (hnd : noDefer ops = true) (hm : P.follows .mixedOrders = true)
    (h : wpAny P .any ops (onlyN Q) ops.size (Array.replicate ops.size false) a w.drew) : (Code.region id ops true).wpIn (Fence.wide.inRound l) n P Q a w :=
  wpIn_region_draw fun t => by
    simp only [Region.schedule, hm, Bool.true_or, if_true]
    exact ops_bridge hnd _ _ _ (wpAny_sound ops.size t _ a _ h)
/-- The text of a bucket and how many it has. -/
def lnS (x : Int × Int) : ByteArray := txt x.1 ++ ⟨#[58]⟩ ++ txt x.2
def rowP (pre : List Pr) : List Value := pre.map fun x => .string (lnS x.1)
theorem rowP_snoc (pre : List Pr) (x : Pr) : rowP (pre ++ [x]) = rowP pre ++ [.string (lnS x.1)] := by simp [rowP]
theorem own_notrow {W : World} {base n : Nat} {e : TypeId} {size : Nat} {v : Value} {xs : List Value} {row : Option Nat} {B : Nat} (h : W.ownsRow base e size v n xs) (hr : ∀ r, row = some r → B ≤ r ∧ ∃ o : Obj, W.heap[r]? = some o ∧ o.isCells = false) : v.ownBlock = none ∨ v.ownBlock ≠ row := by
  rcases h.2 with ⟨rfl, _⟩ | ⟨g, cap, cur, rfl, _, hc, _⟩
  · exact .inl rfl
  · right
    intro e1
    obtain ⟨_, o, ho, hf⟩ := hr g e1.symm
    rw [hc] at ho
    cases ho
    cases hf
theorem own_cells {W : World} {base n : Nat} {e : TypeId} {size : Nat} {v : Value} {xs : List Value} (h : W.ownsRow base e size v n xs) (j : Nat) (o : Obj) (hj : v.ownBlock = some j) (ho : W.heap[j]? = some o) : o.isCells = true := by
  rcases h.2 with ⟨rfl, _⟩ | ⟨g, cap, cur, rfl, _, hc, _⟩
  · cases hj
  · have : g = j := by simpa [Value.ownBlock] using hj
    subst this
    rw [hc] at ho
    cases ho
    rfl
theorem own_ne' {W : World} {base n : Nat} {e : TypeId} {size : Nat} {v : Value} {xs : List Value} (h : W.ownsRow base e size v n xs) (c : Nat) (hc : c < base) : v.ownBlock ≠ some c := fun e1 => by
  have := (World.ownsRow.lt h c e1).1
  omega
/-- What Line's own box and row hold. -/
structure LN (w : World) (n1 : Nat) (W : World) (va : Value) (n : Nat) (xs : List Value) : Prop where
  b : Bx W (w.heap.size + 1) 121 #[va]
  o : W.ownsRow n1 9 1 va n xs
  bel : Below w.heap.size w W
  sz : n1 ≤ W.heap.size
theorem own_or (v : Value) : v.ownBlock = none ∨ v.ownBlock ≠ none := by
  cases v.ownBlock with
  | none => exact .inl rfl
  | some k => exact .inr (by simp)
/-- .. and what has been kept since a world. -/
structure LK (w : World) (n1 : Nat) (W0 W : World) (va : Value) (n : Nat) (xs : List Value) : Prop extends LN w n1 W va n xs where
  k : KeepsOthers W0 W
theorem LK.next {w W0 W W' : World} {n1 n : Nat} {va : Value} {xs : List Value} (h : LK w n1 W0 W va n xs) (hb : Below W.heap.size W W') : LK w n1 W0 W' va n xs :=
  ⟨⟨h.b.next hb, h.o.kept (gb_below hb none) (own_or va), bnext h.bel hb, Nat.le_trans h.sz hb.size⟩, h.k.trans (KeepsOthers.of_grownBy (gb_below hb none) (fun j o hj _ => by cases hj))⟩
theorem LK.app {w W0 W W8 : World} {n1 n cap g : Nat} {va : Value} {xs : List Value} (h : LK w n1 W0 W va n xs) (hn : w.heap.size + 2 ≤ n1) (o : Obj) {news : List Value}
    (ho : W8.ownsRow n1 9 1 (.slice (some ⟨g, 0, none⟩) (n + 1) cap) (n + 1) (xs ++ news)) (hg : (W.alloc o).grownBy W8 va.ownBlock) :
    Bx W8 (w.heap.size + 1) 121 #[va] ∧ LN w n1 (W8.setCell ⟨w.heap.size + 1, 0, none⟩ (.slice (some ⟨g, 0, none⟩) (n + 1) cap)) (.slice (some ⟨g, 0, none⟩) (n + 1) cap) (n + 1) (xs ++ news) ∧ KeepsOthers W0 (W8.setCell ⟨w.heap.size + 1, 0, none⟩ (.slice (some ⟨g, 0, none⟩) (n + 1) cap)) := by
  have h2 : (W.alloc o).ownsRow n1 9 1 va n xs := World.ownsRow.alloc h.o o
  have hb' : Below w.heap.size w W8 := (h.bel.alloc h.bel.size o).grown hg (by have := h.bel.size; simp; omega) (fun k e => by have := (World.ownsRow.lt h.o k e).1; omega)
  have hb8 : Bx W8 (w.heap.size + 1) 121 #[va] := (h.b.past o).grown hg (own_ne' h.o _ (by omega))
  have hsz : n1 ≤ W8.heap.size := by have h1 := h.sz; have h2 := hg.size; simp at h2; omega
  refine ⟨hb8, ⟨hb8.put 0 _, ho.kept (gb_set W8 (w.heap.size + 1) 0 _) (.inr (own_ne' ho _ (by omega))), hb'.setCell (p := ⟨w.heap.size + 1, 0, none⟩) (by show w.heap.size ≤ w.heap.size + 1; omega) _, by simpa [World.setCell] using hsz⟩, ?_⟩
  exact ((h.k.trans (KeepsOthers.alloc W o)).trans (KeepsOthers.of_grownBy hg (fun j o' hj ho' => own_cells h2 j o' hj ho'))).trans (KeepsOthers.setCell _ _ _)
theorem s_info : (Try.prog.info? 9).map (fun i => (i.zero, i.size, i.bytes)) = some (some (.string ⟨#[]⟩), 1, 16) := by kernel_rfl
theorem LN.own (w : World) (n1 : Nat) (hn : w.heap.size + 2 ≤ n1) {va : Value} {n : Nat} {xs : List Value} {X Y : World} {row : Option Nat} (h : LN w n1 X va n xs) (hg : X.grownBy Y row) (hr : ∀ r, row = some r → n1 ≤ r ∧ ∃ o : Obj, X.heap[r]? = some o ∧ o.isCells = false) : LN w n1 Y va n xs :=
  ⟨bx_own (β := Unit) _ _ _ _ () X Y row h.b hg hr, h.o.kept hg (own_notrow h.o hr), h.bel.grown hg h.bel.size (fun k e => Nat.le_trans (by omega) (hr k e).1), Nat.le_trans h.sz hg.size⟩
/-- What Line's own box and row hold, by what was gone through. -/
def NI (w : World) (n1 : Nat) (pre : List Pr) (W : World) : Prop := ∃ va, LN w n1 W va pre.length (rowP pre)
theorem NI.own (w : World) (n1 : Nat) (hn : w.heap.size + 2 ≤ n1) : OwnFrom n1 (NI w n1) := fun pre X Y row hs hg hr => by
  obtain ⟨va, h⟩ := hs
  exact ⟨va, LN.own w n1 hn h hg hr⟩
theorem own_texts {W : World} {base : Nat} {v : Value} {a b c : ByteArray} (h : W.ownsRow base 9 1 v 3 [.string a, .string b, .string c]) :
    ∃ g cap, v = .slice (some ⟨g, 0, none⟩) 3 cap ∧ g < W.heap.size ∧ 3 ≤ cap ∧ ∀ (j : Nat) x, ([a, b, c] : List ByteArray)[j]? = some x → W.cell? ⟨g, 0 + j, none⟩ = some (.string x) := by
  rcases h.2 with ⟨_, h0⟩ | ⟨g, cap, cur, rfl, hg, hc, r⟩
  · cases h0
  · refine ⟨g, cap, rfl, (Array.getElem?_eq_some_iff.1 hc).1, r.1, fun j x hx => ?_⟩
    have hj : j < 3 := by
      have := (List.getElem?_eq_some_iff.1 hx).1
      simpa using this
    have h1 : (List.take (3 * 1) cur.toList)[j]? = some (.string x) := by
      rw [r.2.2.2]
      rw [show ([Value.string a, .string b, .string c] : List Value) = ([a, b, c] : List ByteArray).map Value.string from rfl, List.getElem?_map, hx]
      rfl
    rw [List.getElem?_take_of_lt (by omega)] at h1
    rw [Nat.zero_add]
    exact Bx.read (t := 9) (show Bx W g 9 cur from hc) (by simpa using h1)
end Go.Proofs.Ytljhnkcoknikgaa
