/- Layer 38 (glob): what a row of parts tells: the first i parts tell the first j runes; the places that are alive. No program. -/
import Derived.Test.YtfnjmboflegaaaaDoorGa
namespace Go.Proofs.YtfnjmboflegaaaaDoor

def rowAt (ps : List Prt) (i : Nat) : Bool := match ps[i]? with | some p => p.row | none => false
def tellAt (ps : List Prt) (i : Nat) (r : Int) : Bool := match ps[i]? with | some p => p.tells r | none => false
def exU (f : Nat → Bool) : Nat → Bool
  | 0 => f 0
  | j + 1 => f (j + 1) || exU f j
/-- Do the first i parts tell the first j runes? -/
def Rr (ps : List Prt) (t : Nat → Int) : Nat → Nat → Bool
  | 0 => fun j => decide (j = 0)
  | i + 1 => fun j => if rowAt ps i = true then exU (Rr ps t i) j else match j with | 0 => false | j + 1 => tellAt ps i (t j) && Rr ps t i j
theorem Rr_zero (ps : List Prt) (t : Nat → Int) (j : Nat) : Rr ps t 0 j = decide (j = 0) := rfl
theorem Rr_row0 (ps : List Prt) (t : Nat → Int) (i : Nat) (h : rowAt ps i = true) : Rr ps t (i + 1) 0 = Rr ps t i 0 := by simp only [Rr, h, if_true]; rfl
theorem Rr_row (ps : List Prt) (t : Nat → Int) (i j : Nat) (h : rowAt ps i = true) : Rr ps t (i + 1) (j + 1) = (Rr ps t i (j + 1) || Rr ps t (i + 1) j) := by simp only [Rr, h, if_true]; rfl
theorem Rr_one0 (ps : List Prt) (t : Nat → Int) (i : Nat) (h : rowAt ps i = false) : Rr ps t (i + 1) 0 = false := by simp [Rr, h]
theorem Rr_one (ps : List Prt) (t : Nat → Int) (i j : Nat) (h : rowAt ps i = false) : Rr ps t (i + 1) (j + 1) = (tellAt ps i (t j) && Rr ps t i j) := by simp [Rr, h]
theorem Rr_up (ps : List Prt) (t : Nat → Int) (i j : Nat) (h : rowAt ps i = true) (h2 : Rr ps t i j = true) : Rr ps t (i + 1) j = true := by
  cases j with
  | zero => rw [Rr_row0 ps t i h]; exact h2
  | succ j => rw [Rr_row ps t i j h, h2]; rfl
/-- Is the place i alive behind j runes? -/
def Cc (ps : List Prt) (t : Nat → Int) (i j : Nat) : Bool := Rr ps t i j || (rowAt ps i && Rr ps t (i + 1) j)
theorem Cc_row (ps : List Prt) (t : Nat → Int) (i j : Nat) (h : rowAt ps i = true) : Cc ps t i j = Rr ps t (i + 1) j := by
  unfold Cc
  cases h2 : Rr ps t i j with
  | true => rw [Rr_up ps t i j h h2]; rfl
  | false => rw [h]; simp
theorem Cc_one (ps : List Prt) (t : Nat → Int) (i j : Nat) (h : rowAt ps i = false) : Cc ps t i j = Rr ps t i j := by unfold Cc; rw [h]; simp
theorem Cc_end (ps : List Prt) (t : Nat → Int) (j : Nat) : Cc ps t ps.length j = Rr ps t ps.length j := Cc_one ps t _ j (by simp [rowAt])
/-- Going on behind the rows. -/
def passF (ps : List Prt) (f : Nat → Bool) : Nat → Bool
  | 0 => f 0
  | i + 1 => f (i + 1) || (passF ps f i && rowAt ps i)
def stepF (ps : List Prt) (f : Nat → Bool) (r : Int) (i : Nat) : Bool := (f i && rowAt ps i) || (match i with | 0 => false | k + 1 => f k && tellAt ps k r)
theorem Cc_begin (ps : List Prt) (t : Nat → Int) (i : Nat) : passF ps (fun k => decide (k = 0)) i = Cc ps t i 0 := by
  induction i with
  | zero => simp [passF, Cc, Rr_zero]
  | succ i ih =>
    rw [passF, ih]
    cases h : rowAt ps i with
    | true =>
      rw [Cc_row ps t i 0 h]
      unfold Cc
      cases h2 : rowAt ps (i + 1) with
      | true => rw [Rr_row0 ps t (i + 1) h2]; simp
      | false => simp
    | false =>
      unfold Cc
      cases h2 : rowAt ps (i + 1) with
      | true => rw [Rr_row0 ps t (i + 1) h2, Rr_one0 ps t i h]; simp
      | false => rw [Rr_one0 ps t i h]; simp
theorem Cc_step (ps : List Prt) (t : Nat → Int) (hs : ∀ i, rowAt ps i = true → ∀ r, tellAt ps i r = true) (j i : Nat) : passF ps (stepF ps (fun k => Cc ps t k j) (t j)) i = Cc ps t i (j + 1) := by
  induction i with
  | zero =>
    rw [passF]
    unfold stepF
    dsimp only
    cases h : rowAt ps 0 with
    | true =>
      rw [Cc_row ps t 0 j h, Cc_row ps t 0 (j + 1) h, Rr_row ps t 0 j h, Rr_zero]
      simp
    | false =>
      rw [Cc_one ps t 0 (j + 1) h, Rr_zero]; simp
  | succ i ih =>
    rw [passF, ih]
    unfold stepF
    dsimp only
    cases h : rowAt ps i with
    | true =>
      rw [hs i h, Cc_row ps t i j h, Cc_row ps t i (j + 1) h, Rr_row ps t i j h]
      cases h2 : rowAt ps (i + 1) with
      | true =>
        rw [Cc_row ps t (i + 1) j h2, Cc_row ps t (i + 1) (j + 1) h2, Rr_row ps t (i + 1) j h2, Rr_row ps t i j h]
        cases Rr ps t (i + 1) j <;> cases Rr ps t i (j + 1) <;> cases Rr ps t (i + 1 + 1) j <;> rfl
      | false =>
        rw [Cc_one ps t (i + 1) j h2, Cc_one ps t (i + 1) (j + 1) h2, Rr_row ps t i j h]
        cases Rr ps t (i + 1) j <;> cases Rr ps t i (j + 1) <;> rfl
    | false =>
      rw [Cc_one ps t i j h]
      cases h2 : rowAt ps (i + 1) with
      | true =>
        rw [Cc_row ps t (i + 1) j h2, Cc_row ps t (i + 1) (j + 1) h2, Rr_row ps t (i + 1) j h2, Rr_one ps t i j h]
        cases Rr ps t i j <;> cases tellAt ps i (t j) <;> cases Rr ps t (i + 1 + 1) j <;> simp
      | false =>
        rw [Cc_one ps t (i + 1) j h2, Cc_one ps t (i + 1) (j + 1) h2, Rr_one ps t i j h]
        cases Rr ps t i j <;> cases tellAt ps i (t j) <;> simp
theorem passF_congr (ps : List Prt) (f g : Nat → Bool) (n : Nat) (h : ∀ i, i ≤ n → f i = g i) : ∀ i, i ≤ n → passF ps f i = passF ps g i
  | 0, hi => h 0 hi
  | i + 1, hi => by rw [passF, passF, h (i + 1) hi, passF_congr ps f g n h i (by omega)]
theorem dead_on (ps : List Prt) (t : Nat → Int) (hs : ∀ i, rowAt ps i = true → ∀ r, tellAt ps i r = true) (j : Nat) (h : ∀ i, i ≤ ps.length → Cc ps t i j = false) : ∀ k i, i ≤ ps.length → Cc ps t i (j + k) = false
  | 0, i, hi => h i hi
  | k + 1, i, hi => by
    rw [← Nat.add_assoc, ← Cc_step ps t hs]
    have hd := dead_on ps t hs j h k
    have : ∀ i, i ≤ ps.length → passF ps (stepF ps (fun q => Cc ps t q (j + k)) (t (j + k))) i = false := by
      intro i
      induction i with
      | zero => intro _; rw [passF]; unfold stepF; dsimp only; rw [hd 0 (by omega)]; rfl
      | succ i ih => intro hi; rw [passF, ih (by omega)]; unfold stepF; dsimp only; rw [hd (i + 1) hi, hd i (by omega)]; rfl
    exact this i hi
/-- A row tells any rune. -/
def Wf (ps : List Prt) : Prop := ∀ p ∈ ps, p.row = true → p = starP
theorem Wf.tell {ps : List Prt} (h : Wf ps) (i : Nat) (hr : rowAt ps i = true) (r : Int) : tellAt ps i r = true := by
  unfold rowAt at hr
  unfold tellAt
  cases hp : ps[i]? with
  | none => rw [hp] at hr; simp at hr
  | some p =>
    rw [hp] at hr
    dsimp only at *
    rw [h p (List.mem_of_getElem? hp) hr]
    simp [Prt.tells, starP]
theorem cls_row {l : List Int} {p : Prt} (h : clsS l = some p) : p.row = false := by
  unfold clsS at h
  dsimp only at h
  split at h
  · simp at h
  · split at h
    · simp at h
    · simp at h; rw [← h]
theorem prsF_wf : ∀ (f : Nat) (l : List Int) (ps : List Prt), prsF f l = some ps → Wf ps
  | 0, _, ps, h => by simp [prsF] at h; subst h; intro p hp; cases hp
  | f + 1, [], ps, h => by simp [prsF] at h; subst h; intro p hp; cases hp
  | f + 1, c :: l, ps, h => by
    have key : ∀ (p : Prt) (l' : List Int), (p.row = true → p = starP) → (prsF f l').map (p :: ·) = some ps → Wf ps := by
      intro p l' hp he
      cases h2 : prsF f l' with
      | none => rw [h2] at he; simp at he
      | some qs =>
        rw [h2] at he
        simp at he
        subst he
        have := prsF_wf f l' qs h2
        intro p' hp' hr
        rcases List.mem_cons.1 hp' with rfl | h3
        · exact hp hr
        · exact this p' h3 hr
    rw [prsF] at h
    split at h
    · exact key starP l (fun _ => rfl) h
    · split at h
      · exact key anyP l (fun hr => by simp [anyP] at hr) h
      · split at h
        · split at h
          · simp at h
          · split at h
            · simp at h
            · rename_i p hp
              exact key p _ (fun hr => by rw [cls_row hp] at hr; simp at hr) h
        · exact key (oneP c) l (fun hr => by simp [oneP] at hr) h
theorem prs_wf {l : List Int} {ps : List Prt} (h : prs l = some ps) : Wf ps := prsF_wf _ l ps h
theorem prsF_len : ∀ (f : Nat) (l : List Int) (ps : List Prt), prsF f l = some ps → ps.length ≤ f
  | 0, _, ps, h => by simp [prsF] at h; subst h; simp
  | f + 1, [], ps, h => by simp [prsF] at h; subst h; simp
  | f + 1, c :: l, ps, h => by
    have key : ∀ (p : Prt) (l' : List Int), (prsF f l').map (p :: ·) = some ps → ps.length ≤ f + 1 := by
      intro p l' he
      cases h2 : prsF f l' with
      | none => rw [h2] at he; simp at he
      | some qs =>
        rw [h2] at he
        simp at he
        subst he
        have := prsF_len f l' qs h2
        simp; exact this
    rw [prsF] at h
    split at h
    · exact key _ _ h
    · split at h
      · exact key _ _ h
      · split at h
        · split at h
          · simp at h
          · split at h
            · simp at h
            · exact key _ _ h
        · exact key _ _ h
theorem prs_len {l : List Int} {ps : List Prt} (h : prs l = some ps) : ps.length ≤ l.length := prsF_len _ l ps h
end Go.Proofs.YtfnjmboflegaaaaDoor
