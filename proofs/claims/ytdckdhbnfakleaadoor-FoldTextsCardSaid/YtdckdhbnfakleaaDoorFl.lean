/- Layer 39 (fold): the two spellings of folded texts and of chunks tell the same: plain facts. (gR_gL and what follows it: XHb in part; never import both.) -/
import Derived.Test.YtdckdhbnfakleaaDoorFb
namespace Go.Proofs.YtdckdhbnfakleaaDoor
open Go.RowKit

theorem gR_gL (s : ByteArray) : ∀ f pos, gR s f pos = gL f (rest s pos)
  | 0, _ => rfl
  | f + 1, pos => by
    rw [gR, gL]
    by_cases h : pos < s.size
    · rw [if_pos h, if_neg (fun e => (rest_nil s pos).1 e h), gR_gL s f, dl_at, rest_drop]
    · rw [if_neg h, if_pos ((rest_nil s pos).2 h)]
theorem runesG_gL (s : ByteArray) (f : Nat) (hf : s.size ≤ f) : runesG s = gL f s.data.toList := by
  unfold runesG
  rw [gR_gL, rest_zero]
  exact gL_more _ _ _ (by rw [len_data]; exact Nat.le_refl _) (by rw [len_data]; exact hf)
theorem runesG_gd (s : ByteArray) : ∀ r ∈ runesG s, Gd r := by
  rw [runesG_gL s s.size (Nat.le_refl _)]; exact gL_gd _ _
theorem runesG_of (L : List Int) (h : ∀ r ∈ L, Gd r) (s : ByteArray) (hs : s.data.toList = flatL L) : runesG s = L := by
  rw [runesG_gL s s.size (Nat.le_refl _), hs]
  exact gL_flat L _ h (by rw [← hs, len_data]; exact Nat.le_refl _)
/-- A rune's small form. -/
def smI (r : Int) : Int := if 65 ≤ r ∧ r ≤ 90 then r + 32 else r
def digI (r : Int) : Bool := decide (48 ≤ r ∧ r ≤ 57)
theorem smI_nat (n : Nat) : smI (n : Int) = ((smN n : Nat) : Int) := by unfold smI smN; split <;> split <;> omega
theorem digI_nat (n : Nat) : digI (n : Int) = digN n := by unfold digI digN; rw [decide_eq_decide]; omega
theorem smI_idem (r : Int) : smI (smI r) = smI r := by
  unfold smI
  by_cases h : 65 ≤ r ∧ r ≤ 90
  · rw [if_pos h, if_neg (by omega)]
  · rw [if_neg h, if_neg h]
theorem encN_L (n : Nat) (h : n < 55296 ∨ 57344 ≤ n ∧ n ≤ 1114111) : (encN n).map UInt8.ofNat = encL (n : Int) := by
  by_cases h1 : n < 128
  · rw [encL_small n h1]; unfold encN; rw [if_pos h1]; rfl
  by_cases h2 : n < 2048
  · rw [encL_two n (by omega) h2]; unfold encN; rw [if_neg h1, if_pos h2]; rfl
  by_cases h3 : n < 65536
  · rw [encL_three n (by omega) h3 (by omega)]; unfold encN; rw [if_neg h1, if_neg h2, if_pos h3]; rfl
  · rw [encL_four n (by omega) (by omega)]; unfold encN; rw [if_neg h1, if_neg h2, if_neg h3]; rfl
theorem smN_ok (n : Nat) (h : n < 55296 ∨ 57344 ≤ n ∧ n ≤ 1114111) : smN n < 55296 ∨ 57344 ≤ smN n ∧ smN n ≤ 1114111 := by unfold smN; split <;> omega
theorem fdFrom_L (s : ByteArray) : ∀ f pos, (fdFrom s f pos).map UInt8.ofNat = flatL ((gR s f pos).map smI)
  | 0, _ => rfl
  | f + 1, pos => by
    rw [fdFrom, gR]
    by_cases h : pos < s.size
    · rw [if_pos h, if_pos h, List.map_append, List.map_cons, flatL_cons, fdFrom_L s f, encN_L _ (smN_ok _ (rune_ok s pos)), smI_nat]
    · rw [if_neg h, if_neg h]; rfl
theorem foldB_data (s : ByteArray) : (foldB s).data.toList = flatL ((runesG s).map smI) := by
  unfold foldB; rw [mkB_data]; exact fdFrom_L s s.size 0
theorem smI_gd (r : Int) (h : Gd r) : Gd (smI r) := by
  obtain ⟨n, rfl, h1, h2, h3⟩ := h
  rw [smI_nat]
  have hn : n < 55296 ∨ 57344 ≤ n ∧ n ≤ 1114111 := by
    have := h2 []
    have k := dl_rune (encL (n : Int) ++ [])
    rw [this] at k
    exact k
  exact encL_bl _ (smN_ok n hn)
theorem foldB_runes (s : ByteArray) : runesG (foldB s) = (runesG s).map smI := by
  have hb := foldB_data s
  rw [runesG_gL (foldB s) (foldB s).size (Nat.le_refl _), hb]
  refine gL_flat _ _ (fun r hr => ?_) (by rw [← hb, len_data]; exact Nat.le_refl _)
  obtain ⟨q, hq, rfl⟩ := List.mem_map.1 hr
  exact smI_gd q (gL_gd s.size s.data.toList q (by rw [← runesG_gL s s.size (Nat.le_refl _)]; exact hq))
theorem fold_fold (s : ByteArray) : foldB (foldB s) = foldB s := by
  apply bytes_inj'
  rw [foldB_data (foldB s), foldB_runes, foldB_data s, List.map_map]
  congr 1
  apply List.map_congr_left
  intro r _
  exact smI_idem r
/-- The chunks of runes, a chunk having begun. -/
def chL : List Int → Bool → List Int → List (ByteArray × Bool)
  | acc, nb, [] => if acc = [] then [] else [(runesBytes acc, nb)]
  | acc, nb, r :: l => if acc ≠ [] ∧ digI r ≠ nb then (runesBytes acc, nb) :: chL [r] (digI r) l else chL (acc ++ [r]) (digI r) l
theorem cut_mid (s : ByteArray) (A B C : List UInt8) (h : s.data.toList = A ++ B ++ C) : (s.extract A.length (A ++ B).length).data.toList = B := by
  rw [Lib.extract_data, h, List.length_append]
  simp
theorem flat_nil {L : List Int} (hg : ∀ r ∈ L, Gd r) (h : flatL L = []) : L = [] := by
  cases L with
  | nil => rfl
  | cons r L =>
    rw [flatL_cons] at h
    obtain ⟨n, _, h1, _⟩ := hg r (by simp)
    exact absurd (List.append_eq_nil_iff.1 h).1 h1
theorem chF_chL (s : ByteArray) : ∀ (l pre acc : List Int) (nb : Bool) (f : Nat), s.data.toList = flatL pre ++ flatL acc ++ flatL l → (∀ r ∈ acc ++ l, Gd r) → (acc = [] → pre = []) → (flatL l).length ≤ f →
    chF s f (flatL pre ++ flatL acc).length (flatL pre).length nb = chL acc nb l := by
  intro l
  induction l with
  | nil =>
    intro pre acc nb f hs hg hp hf
    have hsz : s.size = (flatL pre ++ flatL acc).length := by rw [← len_data, hs]; simp [flatL]
    rw [chF_end s f _ _ nb (by omega), chL]
    by_cases h : acc = []
    · rw [if_pos h, if_neg]
      rw [hsz, h]; simp [flatL]
    · rw [if_neg h, if_pos]
      · have := cut_mid s (flatL pre) (flatL acc) (flatL []) hs
        rw [← hsz] at this
        rw [show s.extract (flatL pre).length s.size = runesBytes acc from bytes_inj' (by rw [this, rb_flat])]
      · rw [hsz, List.length_append]
        have : flatL acc ≠ [] := fun e => h (flat_nil (fun r hr => hg r (by simpa using hr)) e)
        have := List.length_pos_iff.2 this
        omega
  | cons r l ih =>
    intro pre acc nb f hs hg hp hf
    obtain ⟨n, hn, hne, hd, _⟩ := hg r (by simp)
    have hel := List.length_pos_iff.2 hne
    have hsz : s.size = (flatL pre ++ flatL acc).length + (encL r).length + (flatL l).length := by rw [← len_data, hs, flatL_cons]; simp; omega
    have hrest : rest s (flatL pre ++ flatL acc).length = encL r ++ flatL l := by unfold rest; rw [hs, flatL_cons, List.drop_left]
    have hdec : Utf8.decode s (flatL pre ++ flatL acc).length = (n, (encL r).length) := by rw [dl_at, hrest]; exact hd _
    rw [flatL_cons, List.length_append] at hf
    obtain ⟨g, rfl⟩ : ∃ g, f = g + 1 := ⟨f - 1, by omega⟩
    rw [chF, if_pos (by omega), hdec, chL]
    dsimp only
    rw [show digN n = digI r from by rw [hn, digI_nat]]
    have hpos : 0 < (flatL pre ++ flatL acc).length ↔ acc ≠ [] := by
      constructor
      · intro h e
        rw [hp e, e] at h
        simp [flatL] at h
      · intro h
        have : flatL acc ≠ [] := fun e => h (flat_nil (fun q hq => hg q (by simp at hq ⊢; exact .inl hq)) e)
        have := List.length_pos_iff.2 this
        rw [List.length_append]; omega
    by_cases hc : acc ≠ [] ∧ digI r ≠ nb
    · rw [if_pos hc, if_pos ⟨hpos.2 hc.1, hc.2⟩]
      have hcut := cut_mid s (flatL pre) (flatL acc) (flatL (r :: l)) hs
      rw [show s.extract (flatL pre).length (flatL pre ++ flatL acc).length = runesBytes acc from bytes_inj' (by rw [hcut, rb_flat])]
      congr 1
      have := ih (pre ++ acc) [r] (digI r) g (by rw [hs, flatL_append, flatL_cons, show flatL [r] = encL r from by simp [flatL]]; simp) (fun q hq => hg q (by simp at hq ⊢; rcases hq with h | h <;> simp [h])) (fun e => by cases e) (by omega)
      have e1 : (flatL (pre ++ acc) ++ flatL [r]).length = (flatL pre ++ flatL acc).length + (encL r).length := by rw [flatL_append, List.length_append]; simp [flatL]
      rw [e1, flatL_append] at this
      exact this
    · rw [if_neg hc, if_neg (fun h => hc ⟨hpos.1 h.1, h.2⟩)]
      have := ih pre (acc ++ [r]) (digI r) g (by rw [hs, flatL_append, flatL_cons, show flatL [r] = encL r from by simp [flatL]]; simp) (fun q hq => hg q (by simp at hq ⊢; rcases hq with h | h | h <;> simp [h])) (fun e => by simp at e) (by omega)
      have e2 : (flatL pre ++ flatL (acc ++ [r])).length = (flatL pre ++ flatL acc).length + (encL r).length := by rw [flatL_append, List.length_append, List.length_append, List.length_append]; simp [flatL]; omega
      rw [e2] at this
      exact this
theorem chunkS_L (s : ByteArray) : chunkS s = chL [] false (runesG s) := by
  have hg : ∀ r ∈ runesG s, Gd r := fun r hr => gL_gd s.size s.data.toList r (by rw [← runesG_gL s s.size (Nat.le_refl _)]; exact hr)
  have hd : (rsB s).data.toList = flatL (runesG s) := rb_flat _
  have := chF_chL (rsB s) (runesG s) [] [] false (rsB s).size (by rw [hd]; simp [flatL]) (by simpa using hg) (fun _ => rfl) (by rw [← hd, len_data]; exact Nat.le_refl _)
  exact this
end Go.Proofs.YtdckdhbnfakleaaDoor
