/- Layer 38 (glob): patterns by definition: plain words. No program. -/
import Derived.Test.YtdckdhbnfakleaaDoorKg
import Derived.Test.YtdckdhbnfakleaaDoorRow
import Derived.Laws.IdiomStrings
namespace Go.Proofs.YtdckdhbnfakleaaDoor
open Go.RowKit

/-- The runes of a text from a place on. -/
def gR (s : ByteArray) : Nat → Nat → List Int
  | 0, _ => []
  | f + 1, pos => if pos < s.size then ((Utf8.decode s pos).1 : Int) :: gR s f (pos + (Utf8.decode s pos).2) else []
def runesG (s : ByteArray) : List Int := gR s s.size 0
theorem gR_len (s : ByteArray) : ∀ f pos, (gR s f pos).length ≤ f
  | 0, _ => by simp [gR]
  | f + 1, pos => by rw [gR]; have := gR_len s f (pos + (Utf8.decode s pos).2); split <;> simp; omega
theorem runesFrom_g (s : ByteArray) : ∀ f pos (acc : Array Value), Conv.runesFrom s f pos acc = acc ++ ((gR s f pos).map (Value.int .i32)).toArray
  | 0, _, acc => by simp [Conv.runesFrom, gR]
  | f + 1, pos, acc => by
    unfold Conv.runesFrom
    rw [gR]
    by_cases h : pos < s.size
    · rw [if_pos h, if_pos h]
      show Conv.runesFrom s f (pos + (Utf8.decode s pos).2) (acc.push (.int .i32 (((Utf8.decode s pos).1 : Nat) : Int))) = _
      rw [runesFrom_g s f]
      simp
    · rw [if_neg h, if_neg h]; simp
theorem runesFrom_all (s : ByteArray) : Conv.runesFrom s s.size 0 #[] = ((runesG s).map (Value.int .i32)).toArray := by rw [runesFrom_g]; simp [runesG]
theorem runesG_len (s : ByteArray) : (runesG s).length ≤ s.size := gR_len s s.size 0

/-- A part of a pattern. -/
structure Prt where
  row : Bool
  nt : Bool
  sp : List (Int × Int)
def Prt.tells (p : Prt) (r : Int) : Bool := if p.sp.any (fun s => decide (s.1 ≤ r ∧ r ≤ s.2)) then !p.nt else p.nt
def starP : Prt := ⟨true, true, []⟩
def anyP : Prt := ⟨false, true, []⟩
def oneP (c : Int) : Prt := ⟨false, false, [(c, c)]⟩
/-- The spans of a class. -/
def spF : List Int → Option (List (Int × Int))
  | [] => some []
  | [a] => some [(a, a)]
  | [a, b] => some [(a, a), (b, b)]
  | a :: b :: c :: l => if b = 45 then (if c < a then none else (spF l).map ((a, c) :: ·)) else (spF (b :: c :: l)).map ((a, a) :: ·)
/-- A class without its brackets. -/
def clsS (l : List Int) : Option Prt :=
  let nt := decide (l.head? = some 94)
  match spF (if nt then l.tail else l) with
  | none => none
  | some sp => if sp = [] then none else some ⟨false, nt, sp⟩
/-- Where ] stands. -/
def idxB : List Int → Option Nat
  | [] => none
  | c :: l => if c = 93 then some 0 else (idxB l).map (· + 1)
theorem idxB_lt : ∀ (l : List Int) (n : Nat), idxB l = some n → n < l.length
  | [], n, h => by simp [idxB] at h
  | c :: l, n, h => by
    rw [idxB] at h
    split at h
    · cases h; simp
    · cases h2 : idxB l with
      | none => rw [h2] at h; simp at h
      | some k =>
        rw [h2] at h
        simp at h
        have := idxB_lt l k h2
        simp; omega
/-- The parts of a pattern, as far as the fuel goes. -/
def prsF : Nat → List Int → Option (List Prt)
  | 0, _ => some []
  | _ + 1, [] => some []
  | f + 1, c :: l =>
    if c = 42 then (prsF f l).map (starP :: ·) else if c = 63 then (prsF f l).map (anyP :: ·)
    else if c = 91 then
      match idxB l with
      | none => none
      | some n => match clsS (l.take n) with
        | none => none
        | some p => (prsF f (l.drop (n + 1))).map (p :: ·)
    else (prsF f l).map (oneP c :: ·)
def prs (l : List Int) : Option (List Prt) := prsF l.length l
theorem prsF_more : ∀ (f g : Nat) (l : List Int), l.length ≤ f → l.length ≤ g → prsF f l = prsF g l
  | 0, g, l, h, _ => by
    have : l = [] := List.eq_nil_of_length_eq_zero (by omega)
    subst this
    cases g <;> rfl
  | f + 1, 0, l, _, h => by
    have : l = [] := List.eq_nil_of_length_eq_zero (by omega)
    subst this; rfl
  | f + 1, g + 1, [], _, _ => rfl
  | f + 1, g + 1, c :: l, h1, h2 => by
    simp only [List.length_cons] at h1 h2
    rw [prsF, prsF, prsF_more f g l (by omega) (by omega)]
    cases hi : idxB l with
    | none => rfl
    | some n =>
      dsimp only
      rw [prsF_more f g (l.drop (n + 1)) (by simp; omega) (by simp; omega)]
end Go.Proofs.YtdckdhbnfakleaaDoor
