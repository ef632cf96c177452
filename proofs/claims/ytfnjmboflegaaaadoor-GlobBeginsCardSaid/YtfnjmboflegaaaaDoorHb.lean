/- Layer 38 (glob): plain facts on patterns: what matches begins with what Ahead says; rows around a pattern. No program's run. -/
import Derived.Test.YtfnjmboflegaaaaDoorGz
import Derived.Test.YtfnjmboflegaaaaDoorDm
namespace Go.Proofs.YtfnjmboflegaaaaDoor

/-! ### Beginnings -/
theorem exU_ex (f : Nat → Bool) : ∀ j, exU f j = true → ∃ k, k ≤ j ∧ f k = true
  | 0, h => ⟨0, Nat.le_refl _, h⟩
  | j + 1, h => by
    rw [exU, Bool.or_eq_true] at h
    rcases h with h | h
    · exact ⟨j + 1, Nat.le_refl _, h⟩
    · obtain ⟨k, hk, h2⟩ := exU_ex f j h
      exact ⟨k, by omega, h2⟩
theorem exU_of (f : Nat → Bool) : ∀ j k, k ≤ j → f k = true → exU f j = true
  | 0, k, hk, h => by
    have : k = 0 := by omega
    subst this; exact h
  | j + 1, k, hk, h => by
    rw [exU, Bool.or_eq_true]
    by_cases e : k = j + 1
    · subst e; exact .inl h
    · exact .inr (exU_of f j k (by omega) h)
theorem Rr_down (ps : List Prt) (t : Nat → Int) (i : Nat) : ∀ d j, Rr ps t (i + d) j = true → ∃ k, k ≤ j ∧ Rr ps t i k = true
  | 0, j, h => ⟨j, Nat.le_refl _, h⟩
  | d + 1, j, h => by
    rw [← Nat.add_assoc] at h
    cases hr : rowAt ps (i + d) with
    | true =>
      simp only [Rr, hr, if_true] at h
      obtain ⟨k, hk, h2⟩ := exU_ex _ _ h
      obtain ⟨k2, hk2, h3⟩ := Rr_down ps t i d k h2
      exact ⟨k2, by omega, h3⟩
    | false =>
      cases j with
      | zero => rw [Rr_one0 ps t _ hr] at h; cases h
      | succ j =>
        rw [Rr_one ps t _ _ hr, Bool.and_eq_true] at h
        obtain ⟨k2, hk2, h3⟩ := Rr_down ps t i d j h.2
        exact ⟨k2, by omega, h3⟩
theorem alone_tells {p : Prt} {r c : Int} (h : aloneS p = some c) (hr : p.tells r = true) : r = c := by
  have h1 := alone_one h
  unfold aloneS at h
  split at h
  · simp at h
  · rename_i hn
    unfold Prt.tells at hr
    rw [h1] at hr
    simp [hn] at hr
    omega
theorem alone_norow {ps : List Prt} (hwf : Wf ps) {p : Prt} (hm : p ∈ ps) {c : Int} (h : aloneS p = some c) : p.row = false := by
  cases hr : p.row with
  | false => rfl
  | true => rw [hwf p hm hr] at h; simp [aloneS, starP] at h
theorem ahead_at : ∀ (ps : List Prt) (k : Nat) (h : k < (aheadS ps).length), ∃ p, ps[k]? = some p ∧ aloneS p = some (aheadS ps)[k]
  | [], k, h => by simp [aheadS] at h
  | p :: ps, k, h => by
    cases ha : aloneS p with
    | none => simp [aheadS, ha] at h
    | some r =>
      have e : aheadS (p :: ps) = r :: aheadS ps := by simp [aheadS, ha]
      simp only [e] at h ⊢
      cases k with
      | zero => exact ⟨p, rfl, ha⟩
      | succ k =>
        obtain ⟨q, h1, h2⟩ := ahead_at ps k (by simpa using h)
        exact ⟨q, by simpa using h1, by simpa using h2⟩
theorem ahead_le : ∀ ps : List Prt, (aheadS ps).length ≤ ps.length
  | [] => by simp [aheadS]
  | p :: ps => by
    cases ha : aloneS p with
    | none => simp [aheadS, ha]
    | some r => simp [aheadS, ha]; exact ahead_le ps
theorem ahead_run (ps : List Prt) (hwf : Wf ps) (t : Nat → Int) : ∀ i, i ≤ (aheadS ps).length → ∀ j, Rr ps t i j = true → j = i ∧ ∀ k (h : k < (aheadS ps).length), k < i → t k = (aheadS ps)[k]
  | 0, _, j, h => by
    rw [Rr_zero] at h
    exact ⟨by simpa using h, fun k _ hk => by omega⟩
  | i + 1, hi, j, h => by
    obtain ⟨p, hp, ha⟩ := ahead_at ps i hi
    have hrow : rowAt ps i = false := by
      unfold rowAt; rw [hp]
      exact alone_norow hwf (List.mem_of_getElem? hp) ha
    cases j with
    | zero => rw [Rr_one0 ps t _ hrow] at h; cases h
    | succ j =>
      rw [Rr_one ps t _ _ hrow, Bool.and_eq_true] at h
      obtain ⟨e, hk⟩ := ahead_run ps hwf t i (by omega) j h.2
      refine ⟨by omega, fun k hk2 hki => ?_⟩
      by_cases e2 : k = i
      · subst e2
        have h1 := h.1
        unfold tellAt at h1
        rw [hp] at h1
        have := alone_tells ha h1
        rw [e] at this; exact this
      · exact hk k hk2 (by omega)
/-- What matches begins with what is ahead. -/
theorem ahead_pre (ps : List Prt) (hwf : Wf ps) (l : List Int) (h : matS ps l = true) : ∃ r, l = aheadS ps ++ r := by
  unfold matS at h
  have hle := ahead_le ps
  obtain ⟨d, hd⟩ : ∃ d, ps.length = (aheadS ps).length + d := ⟨ps.length - (aheadS ps).length, by omega⟩
  have h2 : Rr ps (fun j => l.getD j 0) ((aheadS ps).length + d) l.length = true := by rw [← hd]; exact h
  obtain ⟨k, hk, h3⟩ := Rr_down ps _ _ d _ h2
  obtain ⟨e, h4⟩ := ahead_run ps hwf _ _ (Nat.le_refl _) k h3
  subst e
  refine ⟨l.drop (aheadS ps).length, ?_⟩
  conv => lhs; rw [← List.take_append_drop (aheadS ps).length l]
  congr 1
  apply List.ext_getElem
  · rw [List.length_take]; omega
  · intro i h5 h6
    have := h4 i h6 h6
    rw [List.getD_eq_getElem?_getD, List.getElem?_eq_getElem (by omega)] at this
    rw [List.getElem_take]
    simpa using this
/-! ### Rows around -/
theorem idxB_snoc : ∀ l : List Int, idxB (l ++ [42]) = idxB l
  | [] => by simp [idxB]
  | c :: l => by
    rw [List.cons_append, idxB, idxB, idxB_snoc l]
theorem prsF_snoc : ∀ (f : Nat) (l : List Int), l.length < f → prsF f (l ++ [42]) = (prsF f l).map (· ++ [starP])
  | 0, _, h => by omega
  | f + 1, [], _ => by
    have e1 : prsF (f + 1) [42] = (prsF f []).map (starP :: ·) := by rw [prsF, if_pos rfl]
    have e2 : prsF (f + 1) [] = some [] := rfl
    rw [List.nil_append, e1, e2]
    cases f <;> rfl
  | f + 1, c :: l, h => by
    have hl : l.length < f := by simpa using h
    rw [List.cons_append, prsF, prsF, prsF_snoc f l hl, idxB_snoc]
    by_cases h1 : c = 42
    · rw [if_pos h1, if_pos h1]; cases prsF f l <;> simp
    · rw [if_neg h1, if_neg h1]
      by_cases h2 : c = 63
      · rw [if_pos h2, if_pos h2]; cases prsF f l <;> simp
      · rw [if_neg h2, if_neg h2]
        by_cases h3 : c = 91
        · rw [if_pos h3, if_pos h3]
          cases hi : idxB l with
          | none => rfl
          | some n =>
            have hn := idxB_lt l n hi
            dsimp only
            rw [List.take_append_of_le_length (by omega), List.drop_append_of_le_length (by omega)]
            cases clsS (l.take n) with
            | none => rfl
            | some p =>
              dsimp only
              rw [prsF_snoc f (l.drop (n + 1)) (by rw [List.length_drop]; omega)]
              cases prsF f (l.drop (n + 1)) <;> simp
        · rw [if_neg h3, if_neg h3]; cases prsF f l <;> simp
def around (ps : List Prt) : List Prt := starP :: (ps ++ [starP])
theorem prs_around (l : List Int) : prs (42 :: (l ++ [42])) = (prs l).map around := by
  have e1 : prs (42 :: (l ++ [42])) = (prsF (l.length + 1) (l ++ [42])).map (starP :: ·) := by
    unfold prs
    rw [List.length_cons, List.length_append, List.length_singleton, prsF, if_pos rfl]
  rw [e1, prsF_snoc _ _ (by omega), prsF_more (l.length + 1) l.length l (by omega) (Nat.le_refl _)]
  show _ = (prsF l.length l).map around
  cases prsF l.length l <;> rfl
theorem around_run (ps : List Prt) (t t' : Nat → Int) (a n : Nat) (ht : ∀ k, k < n → t' (a + k) = t k) : ∀ i, i ≤ ps.length → ∀ j, j ≤ n → Rr ps t i j = true → Rr (around ps) t' (i + 1) (a + j) = true
  | 0, _, j, _, h => by
    rw [Rr_zero] at h
    have hj : j = 0 := by simpa using h
    subst hj
    have hr : rowAt (around ps) 0 = true := rfl
    simp only [Rr, hr, if_true]
    exact exU_of _ _ 0 (Nat.zero_le _) (by simp)
  | i + 1, hi, j, hj, h => by
    have hrow : rowAt (around ps) (i + 1) = rowAt ps i := by
      unfold rowAt around
      rw [List.getElem?_cons_succ, List.getElem?_append_left (by omega)]
    have htell : ∀ r, tellAt (around ps) (i + 1) r = tellAt ps i r := by
      intro r
      unfold tellAt around
      rw [List.getElem?_cons_succ, List.getElem?_append_left (by omega)]
    cases hr : rowAt ps i with
    | true =>
      have h0 := h
      simp only [Rr, hr, if_true] at h0
      obtain ⟨k, hk, h2⟩ := exU_ex _ _ h0
      have h3 := around_run ps t t' a n ht i (by omega) k (by omega) h2
      have hr2 : rowAt (around ps) (i + 1) = true := by rw [hrow, hr]
      rw [Rr]
      simp only [hr2, if_true]
      exact exU_of _ _ (a + k) (by omega) h3
    | false =>
      cases j with
      | zero => rw [Rr_one0 ps t _ hr] at h; cases h
      | succ j =>
        rw [Rr_one ps t _ _ hr, Bool.and_eq_true] at h
        have h3 := around_run ps t t' a n ht i (by omega) j (by omega) h.2
        rw [← Nat.add_assoc, Rr_one _ t' _ _ (by rw [hrow, hr]), htell, ht j (by omega), h.1, h3]; rfl
theorem around_mat (ps : List Prt) (A L B : List Int) (h : matS ps L = true) : matS (around ps) (A ++ L ++ B) = true := by
  unfold matS at h ⊢
  have h2 := around_run ps (fun j => L.getD j 0) (fun j => (A ++ L ++ B).getD j 0) A.length L.length (fun k hk => by
    simp only [List.getD_eq_getElem?_getD]
    rw [List.append_assoc, List.getElem?_append_right (by omega), Nat.add_sub_cancel_left, List.getElem?_append_left hk]) ps.length (Nat.le_refl _) L.length (Nat.le_refl _) h
  have hlen : (around ps).length = ps.length + 1 + 1 := by simp [around]
  rw [hlen]
  have hr : rowAt (around ps) (ps.length + 1) = true := by
    unfold rowAt around
    rw [List.getElem?_cons_succ, List.getElem?_append_right (Nat.le_refl _), Nat.sub_self]; rfl
  rw [Rr]
  simp only [hr, if_true]
  exact exU_of _ _ (A.length + L.length) (by simp) h2
/-! ### Texts -/
theorem gR_gL (s : ByteArray) : ∀ f pos, gR s f pos = gL f (rest s pos)
  | 0, _ => rfl
  | f + 1, pos => by
    rw [gR, gL]
    by_cases h : pos < s.size
    · rw [if_pos h, if_neg (fun e => (rest_nil s pos).1 e h), gR_gL s f, dl_at, rest_drop]
    · rw [if_neg h, if_pos ((rest_nil s pos).2 h)]
theorem runesG_gL (s : ByteArray) (f : Nat) (hf : s.size ≤ f) : runesG s = gL f s.data.toList := by
  unfold runesG
  rw [gR_gL, rest_zero]
  exact gL_more _ _ _ (by rw [len_data]; exact Nat.le_refl _) (by rw [len_data]; exact hf)
theorem runesG_gd (s : ByteArray) : ∀ r ∈ runesG s, Gd r := by
  rw [runesG_gL s s.size (Nat.le_refl _)]; exact gL_gd _ _
theorem runesG_of (L : List Int) (h : ∀ r ∈ L, Gd r) (s : ByteArray) (hs : s.data.toList = flatL L) : runesG s = L := by
  rw [runesG_gL s s.size (Nat.le_refl _), hs]
  exact gL_flat L _ h (by rw [← hs, len_data]; exact Nat.le_refl _)
/-- A star ahead and behind. -/
def starsB (s : ByteArray) : ByteArray := (⟨#[42]⟩ : ByteArray) ++ s ++ ⟨#[42]⟩
theorem starsB_data (s : ByteArray) : (starsB s).data.toList = 42 :: (s.data.toList ++ [42]) := by
  unfold starsB
  rw [ByteArray.toList_data_append, ByteArray.toList_data_append]; rfl
theorem starsB_size (s : ByteArray) : (starsB s).size = s.size + 2 := by rw [← len_data, starsB_data, ← len_data]; simp
theorem gd_star : Gd 42 := encL_bl 42 (by omega)
theorem patS_stars (s : ByteArray) (hs : s.size ≤ 90) : patS (starsB s) = (patS s).map around := by
  unfold patS
  rw [starsB_size, if_pos (show s.size + 2 ≤ 100 by omega), if_pos (show s.size ≤ 100 by omega)]
  have hv : vB (starsB s) = vB s := by
    unfold vB
    rw [starsB_data, Lib.validD_cons _ _ (by decide), valid_snoc _ _ (Nat.le_refl _) _ (by decide)]
  rw [hv]
  cases hb : vB s with
  | false => rfl
  | true =>
    rw [if_pos rfl, if_pos rfl, ← prs_around]
    congr 1
    apply runesG_of
    · intro r hr
      rcases List.mem_cons.1 hr with rfl | h1
      · exact gd_star
      · rcases List.mem_append.1 h1 with h2 | h2
        · exact runesG_gd s r h2
        · simp at h2; subst h2; exact gd_star
    · rw [starsB_data, flatL_cons, flatL_append, runesG_gL s s.size (Nat.le_refl _), flat_gL _ _ (by rw [len_data]; exact Nat.le_refl _) hb]
      have : encL 42 = [42] := encL_small 42 (by omega)
      rw [this]; simp [flatL, this]
theorem runesG_three (a b c : ByteArray) : runesG (runesBytes (runesG a) ++ runesBytes (runesG b) ++ runesBytes (runesG c)) = runesG a ++ runesG b ++ runesG c := by
  apply runesG_of
  · intro r hr
    rcases List.mem_append.1 hr with h1 | h1
    · rcases List.mem_append.1 h1 with h2 | h2
      · exact runesG_gd a r h2
      · exact runesG_gd b r h2
    · exact runesG_gd c r h1
  · rw [ByteArray.toList_data_append, ByteArray.toList_data_append, rb_flat, rb_flat, rb_flat, flatL_append, flatL_append]
theorem patS_facts {s : ByteArray} {ps : List Prt} (h : patS s = some ps) : s.size ≤ 100 ∧ vB s = true ∧ prs (runesG s) = some ps := by
  unfold patS at h
  split at h
  · split at h
    · exact ⟨by assumption, by assumption, h⟩
    · simp at h
  · simp at h
/-- A text of runes that matches begins with what is ahead, byte by byte. -/
theorem ahead_bytes (ps : List Prt) (hwf : Wf ps) (t : ByteArray) (hm : matS ps (runesG t) = true) (hv : (runesBytes (runesG t)).data.toList = t.data.toList) : (runesBytes (aheadS ps)).size ≤ t.size ∧ t.extract 0 (runesBytes (aheadS ps)).size = runesBytes (aheadS ps) := by
  obtain ⟨r, hr⟩ := ahead_pre ps hwf _ hm
  have h1 : t.data.toList = flatL (aheadS ps) ++ flatL r := by rw [← hv, rb_flat, hr, flatL_append]
  have h2 : (runesBytes (aheadS ps)).size = (flatL (aheadS ps)).length := by rw [← len_data, rb_flat]
  refine ⟨by rw [← len_data t, h1, h2]; simp, ?_⟩
  apply bytes_inj'
  rw [Lib.extract_data, h1, h2, rb_flat]
  simp
end Go.Proofs.YtfnjmboflegaaaaDoor
