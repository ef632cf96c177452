/- Layer 1 (runes): what is in quotes comes back by definition, too. No program's function. -/
import Derived.Test.YtnhonjhpggnglaaDoorRq
namespace Go.Proofs.YtnhonjhpggnglaaDoor

def isHx (c : Nat) : Bool := decide (48 ≤ c ∧ c ≤ 57 ∨ 97 ≤ c ∧ c ≤ 102)
/-- What stands ahead of the next quote, from a place on, put back; none: there is no quote, or something is wrong ahead of it. -/
def unF (s : ByteArray) : Nat → Nat → List Nat → Option (List Nat)
  | 0, _, _ => none
  | f + 1, pos, out =>
    if ¬ pos < s.size then none else if bt s pos = 34 then some out else if bt s pos ≠ 92 then unF s f (pos + 1) (out ++ [bt s pos])
    else if s.size ≤ pos + 1 then none else if bt s (pos + 1) ≠ 120 then unF s f (pos + 2) (out ++ [bt s (pos + 1)])
    else if s.size ≤ pos + 3 ∨ isHx (bt s (pos + 2)) = false ∨ isHx (bt s (pos + 3)) = false then none
    else unF s f (pos + 4) (out ++ [16 * figV (bt s (pos + 2)) + figV (bt s (pos + 3))])
def unL : Nat → List UInt8 → List Nat → Option (List Nat)
  | 0, _, _ => none
  | f + 1, l, out =>
    if l = [] then none else if bl l 0 = 34 then some out else if bl l 0 ≠ 92 then unL f (l.drop 1) (out ++ [bl l 0])
    else if l.length ≤ 1 then none else if bl l 1 ≠ 120 then unL f (l.drop 2) (out ++ [bl l 1])
    else if l.length ≤ 3 ∨ isHx (bl l 2) = false ∨ isHx (bl l 3) = false then none
    else unL f (l.drop 4) (out ++ [16 * figV (bl l 2) + figV (bl l 3)])
theorem bt_bl (s : ByteArray) (pos i : Nat) (h : pos + i < s.size) : bt s (pos + i) = bl (rest s pos) i := by
  rw [bt_rest s (pos + i) h, rest_drop]
  unfold bl
  congr 1
  simp [List.getD_eq_getElem?_getD]
theorem unF_eq (s : ByteArray) : ∀ f pos out, unF s f pos out = unL f (rest s pos) out
  | 0, _, _ => rfl
  | f + 1, pos, out => by
    rw [unF, unL]
    by_cases h : pos < s.size
    · rw [if_neg (by omega), if_neg (fun e => (rest_nil s pos).1 e h), rest_len, bt_rest s pos h, unF_eq s f, unF_eq s f, unF_eq s f, rest_drop, rest_drop, rest_drop]
      by_cases h1 : pos + 1 < s.size
      · rw [bt_bl s pos 1 h1]
        by_cases h3 : pos + 3 < s.size
        · rw [bt_bl s pos 2 (by omega), bt_bl s pos 3 h3]
          simp only [show (s.size ≤ pos + 1) = (s.size - pos ≤ 1) from propext ⟨by omega, by omega⟩, show (s.size ≤ pos + 3) = (s.size - pos ≤ 3) from propext ⟨by omega, by omega⟩]
        · simp only [show (s.size ≤ pos + 1) = (s.size - pos ≤ 1) from propext ⟨by omega, by omega⟩, show (s.size ≤ pos + 3) = True from propext ⟨fun _ => trivial, fun _ => by omega⟩, show (s.size - pos ≤ 3) = True from propext ⟨fun _ => trivial, fun _ => by omega⟩, true_or, if_true]
      · simp only [show (s.size ≤ pos + 1) = True from propext ⟨fun _ => trivial, fun _ => by omega⟩, show (s.size - pos ≤ 1) = True from propext ⟨fun _ => trivial, fun _ => by omega⟩, if_true]
    · rw [if_pos (by omega), if_pos ((rest_nil s pos).2 h)]
theorem un_skip : ∀ (m : List UInt8), (∀ c ∈ m, c ≠ 34 ∧ c ≠ 92) → ∀ F x out, unL (F + m.length) (m ++ x) out = unL F x (out ++ m.map (·.toNat))
  | [], _, F, x, out => by simp
  | c :: m, hm, F, x, out => by
    have hc := hm c (by simp)
    have n1 : bl (c :: m ++ x) 0 ≠ 34 := fun e => hc.1 (by rw [byte_eq c 34 e]; rfl)
    have n2 : bl (c :: m ++ x) 0 ≠ 92 := fun e => hc.2 (by rw [byte_eq c 92 e]; rfl)
    rw [show F + (c :: m).length = F + m.length + 1 from rfl, unL, if_neg (by simp), if_neg n1, if_pos n2]
    rw [show (c :: m ++ x).drop 1 = m ++ x from rfl, un_skip m (fun y hy => hm y (by simp [hy]))]
    rw [show bl (c :: m ++ x) 0 = c.toNat from rfl]
    simp
theorem hexd_is : ∀ n : Fin 16, isHx (hexd n.val) = true := by decide
theorem un_back : ∀ (f : Nat) (l : List UInt8), l.length ≤ f → ∀ F out r, (qL f l).length < F → unL F ((qL f l).map UInt8.ofNat ++ 34 :: r) out = some (out ++ l.map (·.toNat))
  | 0, l, h, F, out, r, hF => by
    obtain rfl := List.eq_nil_of_length_eq_zero (by omega : l.length = 0)
    obtain ⟨G, rfl⟩ : ∃ G, F = G + 1 := ⟨F - 1, by omega⟩
    rw [qL, List.map_nil, List.nil_append, unL, if_neg (by simp), if_pos (show bl (34 :: r) 0 = 34 from rfl)]; simp
  | f + 1, l, h, F, out, r, hF => by
    by_cases hl : l = []
    · subst hl
      obtain ⟨G, rfl⟩ : ∃ G, F = G + 1 := ⟨F - 1, by omega⟩
      rw [qL, if_pos rfl, List.map_nil, List.nil_append, unL, if_neg (by simp), if_pos (show bl (34 :: r) 0 = 34 from rfl)]; simp
    · obtain ⟨b, t, rfl⟩ : ∃ b t, l = b :: t := by cases l; exact absurd rfl hl; exact ⟨_, _, rfl⟩
      have hb := b.toNat_lt
      rw [qL, if_neg hl] at hF ⊢
      by_cases he : dl (b :: t) = (65533, 1) ∨ bl (b :: t) 0 < 32 ∨ bl (b :: t) 0 = 127
      · have hw : (dl (b :: t)).2 = 1 := by
          rcases he with he | he | he
          · rw [he]
          · rw [bl_zero] at he; rw [dl_ascii b t (by omega)]
          · rw [bl_zero] at he; rw [dl_ascii b t (by omega)]
        have hq : qaL (b :: t) = [92, 120, hexd (b.toNat / 16), hexd (b.toNat % 16)] := by unfold qaL; rw [if_pos he]; rfl
        rw [hq, hw] at hF ⊢
        simp only [List.length_append, List.length_cons, List.length_nil, List.drop_succ_cons, List.drop_zero] at hF
        obtain ⟨G, rfl⟩ : ∃ G, F = G + 1 := ⟨F - 1, by omega⟩
        have f1 := hexd_facts (b.toNat / 16) (by omega)
        have f2 := hexd_facts (b.toNat % 16) (by omega)
        have i1 := hexd_is ⟨b.toNat / 16, by omega⟩
        have i2 := hexd_is ⟨b.toNat % 16, by omega⟩
        simp only at i1 i2
        have ih := un_back f t (by simpa using h) G (out ++ [b.toNat]) r (by omega)
        simp only [List.map_append, List.map_cons, List.map_nil, List.cons_append, List.nil_append, List.drop_succ_cons, List.drop_zero]
        generalize hX : (qL f t).map UInt8.ofNat ++ 34 :: r = X at *
        have e0 : bl (UInt8.ofNat 92 :: UInt8.ofNat 120 :: UInt8.ofNat (hexd (b.toNat / 16)) :: UInt8.ofNat (hexd (b.toNat % 16)) :: X) 0 = 92 := rfl
        have e1 : bl (UInt8.ofNat 92 :: UInt8.ofNat 120 :: UInt8.ofNat (hexd (b.toNat / 16)) :: UInt8.ofNat (hexd (b.toNat % 16)) :: X) 1 = 120 := rfl
        have e2 : bl (UInt8.ofNat 92 :: UInt8.ofNat 120 :: UInt8.ofNat (hexd (b.toNat / 16)) :: UInt8.ofNat (hexd (b.toNat % 16)) :: X) 2 = hexd (b.toNat / 16) := ofNat_toNat _ (by omega)
        have e3 : bl (UInt8.ofNat 92 :: UInt8.ofNat 120 :: UInt8.ofNat (hexd (b.toNat / 16)) :: UInt8.ofNat (hexd (b.toNat % 16)) :: X) 3 = hexd (b.toNat % 16) := ofNat_toNat _ (by omega)
        rw [unL, if_neg (by simp), e0, e1, e2, e3, if_neg (show ¬ (92 = 34) by omega), if_neg (show ¬ (92 ≠ 92) by omega), if_neg (by simp), if_neg (show ¬ (120 ≠ 120) by omega), i1, i2, if_neg (by simp), f1.1, f2.1]
        rw [show 16 * (b.toNat / 16) + b.toNat % 16 = b.toNat from by omega]
        simp only [List.drop_succ_cons, List.drop_zero]
        rw [ih]; simp
      · by_cases hk : bl (b :: t) 0 = 34 ∨ bl (b :: t) 0 = 92
        · have hk' : b.toNat = 34 ∨ b.toNat = 92 := hk
          have hq : qaL (b :: t) = [92, b.toNat] := by unfold qaL; rw [if_neg he, if_pos hk]; rfl
          have hw : (dl (b :: t)).2 = 1 := by rw [dl_ascii b t (by omega)]
          rw [hq, hw] at hF ⊢
          simp only [List.length_append, List.length_cons, List.length_nil, List.drop_succ_cons, List.drop_zero] at hF
          obtain ⟨G, rfl⟩ : ∃ G, F = G + 1 := ⟨F - 1, by omega⟩
          have ih := un_back f t (by simpa using h) G (out ++ [b.toNat]) r (by omega)
          simp only [List.map_append, List.map_cons, List.map_nil, List.cons_append, List.nil_append, List.drop_succ_cons, List.drop_zero]
          generalize hX : (qL f t).map UInt8.ofNat ++ 34 :: r = X at *
          have e0 : bl (UInt8.ofNat 92 :: UInt8.ofNat b.toNat :: X) 0 = 92 := rfl
          have e1 : bl (UInt8.ofNat 92 :: UInt8.ofNat b.toNat :: X) 1 = b.toNat := ofNat_toNat _ (by omega)
          rw [unL, if_neg (by simp), e0, e1, if_neg (show ¬ (92 = 34) by omega), if_neg (show ¬ (92 ≠ 92) by omega), if_neg (by simp), if_pos (by omega)]
          simp only [List.drop_succ_cons, List.drop_zero]
          rw [ih]; simp
        · have hne : dl (b :: t) ≠ (65533, 1) := fun e => he (Or.inl e)
          have hq : qaL (b :: t) = ((b :: t).take (dl (b :: t)).2).map (·.toNat) := by unfold qaL; rw [if_neg he, if_neg hk]
          have ht := dl_take (b :: t) [] hne hl
          have hby : ∀ c ∈ (b :: t).take (dl (b :: t)).2, c ≠ 34 ∧ c ≠ 92 := by
            by_cases h128 : b.toNat < 128
            · rw [dl_ascii b t h128]
              intro c hc
              simp at hc; subst hc
              exact ⟨fun e => hk (Or.inl (by rw [e]; rfl)), fun e => hk (Or.inr (by rw [e]; rfl))⟩
            · have hh := (dec_high (mkB (b :: t)) 0 (by rw [mkB_size]; simp) (by unfold bt; rw [mk_get]; show 128 ≤ b.toNat; omega)).2.2.2
              intro c hc
              obtain ⟨i, hi, hci⟩ := List.mem_iff_getElem.1 hc
              rw [List.length_take] at hi
              have h1 := hh i (by show i < (dl (b :: t)).2; omega)
              rw [Nat.zero_add] at h1
              unfold bt at h1
              rw [mk_get, List.getD_eq_getElem?_getD] at h1
              rw [List.getElem_take] at hci
              rw [List.getElem?_eq_getElem (by omega), hci] at h1
              simp only [Option.getD_some] at h1
              exact ⟨fun e => by rw [e] at h1; revert h1; decide, fun e => by rw [e] at h1; revert h1; decide⟩
          rw [hq, List.length_append, List.length_map] at hF
          obtain ⟨G, hG⟩ : ∃ G, F = G + ((b :: t).take (dl (b :: t)).2).length := ⟨F - ((b :: t).take (dl (b :: t)).2).length, by omega⟩
          rw [hq, hG, List.map_append, map_back, List.append_assoc, un_skip _ hby, un_back f _ (by rw [List.length_drop]; omega) G _ r (by omega), List.append_assoc, ← List.map_append, List.take_append_drop]
/-- What the document's Unquote finds in quotes: what they are of. -/
theorem un_quote (t : ByteArray) : unF (quoteB t) (quoteB t).size 1 [] = some (t.data.toList.map (·.toNat)) := by
  have e : rest (quoteB t) 1 = bodyB t ++ 34 :: [] := by unfold rest; rw [quoteB_data]; rfl
  rw [unF_eq, e]
  have h := un_back t.size t.data.toList (by rw [len_data]; exact Nat.le_refl _) (quoteB t).size [] [] (by rw [quoteB_size]; unfold bodyB; rw [List.length_map]; omega)
  exact h
theorem mkN_of (t : ByteArray) : mkN (t.data.toList.map (·.toNat)) = t := by unfold mkN; rw [map_back, mkB_of]

/-- Is a text the quotes of one? Of which? -/
def ofB (q : ByteArray) : ByteArray := plainB (q.extract 1 (q.size - 1))
def isQ (q : ByteArray) : Prop := 2 ≤ q.size ∧ quoteB (ofB q) = q
theorem isQ_of (t q : ByteArray) (h : quoteB t = q) : isQ q ∧ ofB q = t := by
  have h1 : ofB q = t := by unfold ofB; rw [← h]; exact plain_quote t
  exact ⟨⟨by rw [← h, quoteB_size]; omega, by rw [h1]; exact h⟩, h1⟩
theorem un_isQ (q : ByteArray) (h : isQ q) : unF q q.size 1 [] = some ((ofB q).data.toList.map (·.toNat)) := by
  have := un_quote (ofB q)
  rw [h.2] at this; exact this
theorem plF_len (s : ByteArray) : ∀ f pos st hi, (plFrom s f pos st hi).length ≤ 4 * f
  | 0, _, _, _ => by simp [plFrom]
  | f + 1, pos, st, hi => by
    rw [plFrom]
    have h := plF_len s f
    have he := encN_len (Utf8.decode s pos).1
    split
    · split
      · exact Nat.le_trans (h _ _ _) (by omega)
      · split
        · exact Nat.le_trans (h _ _ _) (by omega)
        · split
          · exact Nat.le_trans (h _ _ _) (by omega)
          · split
            · rw [List.length_cons]; have := h (pos + (Utf8.decode s pos).2) 0 hi; omega
            · rw [List.length_append]; have := h (pos + (Utf8.decode s pos).2) 0 hi; omega
    · simp
theorem plainB_size (s : ByteArray) : (plainB s).size ≤ 4 * s.size := by unfold plainB; rw [mkB_size, List.length_map]; exact plF_len s _ _ _ _
theorem unF_len (s : ByteArray) : ∀ f pos out o, unF s f pos out = some o → o.length ≤ out.length + f
  | 0, _, _, _, h => by cases h
  | f + 1, pos, out, o, h => by
    rw [unF] at h
    have ih := unF_len s f
    split at h
    · cases h
    · split at h
      · cases h; omega
      · split at h
        · have := ih _ _ _ h; rw [List.length_append] at this; simp only [List.length_cons, List.length_nil] at this; omega
        · split at h
          · cases h
          · split at h
            · have := ih _ _ _ h; rw [List.length_append] at this; simp only [List.length_cons, List.length_nil] at this; omega
            · split at h
              · cases h
              · have := ih _ _ _ h; rw [List.length_append] at this; simp only [List.length_cons, List.length_nil] at this; omega
end Go.Proofs.YtnhonjhpggnglaaDoor
