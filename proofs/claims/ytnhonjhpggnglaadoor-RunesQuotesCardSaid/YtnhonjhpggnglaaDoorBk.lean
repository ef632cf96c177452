/- Layer 1 (runes): plain facts: what is put in quotes comes back, and is one word. No program. -/
import Derived.Test.YtnhonjhpggnglaaDoorPl
import Derived.Test.YtnhonjhpggnglaaDoorDl
namespace Go.Proofs.YtnhonjhpggnglaaDoor

/-- What the first rune of a row of bytes becomes in quotes; all of them. -/
def qaL (l : List UInt8) : List Nat :=
  if dl l = (65533, 1) ∨ bl l 0 < 32 ∨ bl l 0 = 127 then [92, 120, hexd (bl l 0 / 16), hexd (bl l 0 % 16)]
  else if bl l 0 = 34 ∨ bl l 0 = 92 then [92, bl l 0] else (l.take (dl l).2).map (·.toNat)
def qL : Nat → List UInt8 → List Nat
  | 0, _ => []
  | f + 1, l => if l = [] then [] else qaL l ++ qL f (l.drop (dl l).2)
def plL : Nat → List UInt8 → Nat → Nat → List Nat
  | 0, _, _, _ => []
  | f + 1, l, st, hi =>
    if l = [] then []
    else if st = 0 ∧ (dl l).1 = 92 then plL f (l.drop (dl l).2) 1 hi
    else if st = 1 ∧ (dl l).1 = 120 then plL f (l.drop (dl l).2) 2 hi
    else if st = 2 then plL f (l.drop (dl l).2) 3 (figV (dl l).1)
    else if st = 3 then (hi * 16 + figV (dl l).1) :: plL f (l.drop (dl l).2) 0 hi
    else encN (dl l).1 ++ plL f (l.drop (dl l).2) 0 hi
theorem qAt_eq (s : ByteArray) (k : Nat) (h : k < s.size) : qAt s k = qaL (rest s k) := by
  unfold qAt qaL
  rw [bt_rest s k h, dl_at]
  have e : (bad s k = true) = (dl (rest s k) = (65533, 1)) := by unfold bad; rw [dl_at]; simp
  have e2 : mid s k (k + (dl (rest s k)).2) = (rest s k).take (dl (rest s k)).2 := by unfold mid rest; rw [Nat.add_sub_cancel_left]
  rw [e2]
  simp only [e]
theorem qFrom_eq (s : ByteArray) : ∀ f k, qFrom s f k = qL f (rest s k)
  | 0, _ => rfl
  | f + 1, k => by
    rw [qFrom, qL]
    by_cases h : k < s.size
    · rw [if_pos h, if_neg (fun e => (rest_nil s k).1 e h), qAt_eq s k h, qFrom_eq s f, dl_at, rest_drop]
    · rw [if_neg h, if_pos ((rest_nil s k).2 h)]
theorem plFrom_eq (s : ByteArray) : ∀ f k st hi, plFrom s f k st hi = plL f (rest s k) st hi
  | 0, _, _, _ => rfl
  | f + 1, k, st, hi => by
    rw [plFrom, plL]
    by_cases h : k < s.size
    · rw [if_pos h, if_neg (fun e => (rest_nil s k).1 e h)]
      simp only [plFrom_eq s f, dl_at, rest_drop]
    · rw [if_neg h, if_pos ((rest_nil s k).2 h)]
theorem hexd_fig : ∀ n : Fin 16, figV (hexd n.val) = n.val ∧ hexd n.val < 128 ∧ hexd n.val ≠ 34 ∧ hexd n.val ≠ 92 := by decide
theorem hexd_facts (n : Nat) (h : n < 16) : figV (hexd n) = n ∧ hexd n < 128 ∧ hexd n ≠ 34 ∧ hexd n ≠ 92 := hexd_fig ⟨n, h⟩
theorem ofNat_toNat (n : Nat) (h : n < 256) : (UInt8.ofNat n).toNat = n := by simp; omega
theorem dl_num (n : Nat) (h : n < 128) (l : List UInt8) : dl (UInt8.ofNat n :: l) = (n, 1) := by
  rw [dl_ascii _ _ (by rw [ofNat_toNat n (by omega)]; exact h), ofNat_toNat n (by omega)]
theorem map_back (l : List UInt8) : (l.map (·.toNat)).map UInt8.ofNat = l := by
  rw [List.map_map]
  conv => rhs; rw [← List.map_id l]
  apply List.map_congr_left
  intro x _
  simp
theorem enc_take (l : List UInt8) (h : dl l ≠ (65533, 1)) (hl : l ≠ []) : encN (dl l).1 = (l.take (dl l).2).map (·.toNat) := by
  have h1 := enc_mid (mkB l) 0 (by rw [mkB_size]; cases l; exact absurd rfl hl; simp) (by unfold bad; rw [decide_eq_false_iff_not]; exact h)
  have h2 : mid (mkB l) 0 (0 + (Utf8.decode (mkB l) 0).2) = l.take (dl l).2 := by unfold mid; rw [mkB_data, List.drop_zero, Nat.zero_add, Nat.sub_zero]; rfl
  rw [h2] at h1
  exact h1
theorem quote_back : ∀ (f : Nat) (l : List UInt8), l.length ≤ f → ∀ F hi, (qL f l).length ≤ F → plL F ((qL f l).map UInt8.ofNat) 0 hi = l.map (·.toNat)
  | 0, l, h, F, hi, _ => by
    obtain rfl := List.eq_nil_of_length_eq_zero (by omega : l.length = 0)
    cases F <;> rfl
  | f + 1, l, h, F, hi, hF => by
    by_cases hl : l = []
    · subst hl; cases F <;> rfl
    · obtain ⟨b, r, rfl⟩ : ∃ b r, l = b :: r := by cases l; exact absurd rfl hl; exact ⟨_, _, rfl⟩
      have hb := b.toNat_lt
      rw [qL, if_neg hl] at hF ⊢
      by_cases he : dl (b :: r) = (65533, 1) ∨ bl (b :: r) 0 < 32 ∨ bl (b :: r) 0 = 127
      · have hw : (dl (b :: r)).2 = 1 := by
          rcases he with he | he | he
          · rw [he]
          · rw [bl_zero] at he; rw [dl_ascii b r (by omega)]
          · rw [bl_zero] at he; rw [dl_ascii b r (by omega)]
        have hq : qaL (b :: r) = [92, 120, hexd (b.toNat / 16), hexd (b.toNat % 16)] := by unfold qaL; rw [if_pos he]; rfl
        rw [hq, hw] at hF ⊢
        simp only [List.length_append, List.length_cons, List.length_nil, List.drop_succ_cons, List.drop_zero] at hF
        obtain ⟨G, rfl⟩ : ∃ G, F = G + 4 := ⟨F - 4, by omega⟩
        have f1 := hexd_facts (b.toNat / 16) (by omega)
        have f2 := hexd_facts (b.toNat % 16) (by omega)
        have ih := quote_back f r (by simpa using h) G (b.toNat / 16) (by simpa using (by omega : (qL f r).length ≤ G))
        simp only [List.map_append, List.map_cons, List.map_nil, List.cons_append, List.nil_append, List.drop_succ_cons, List.drop_zero]
        rw [show G + 4 = G + 1 + 1 + 1 + 1 from rfl, plL, if_neg (by simp), dl_num 92 (by omega), if_pos ⟨rfl, rfl⟩]
        simp only [List.drop_succ_cons, List.drop_zero]
        rw [plL, if_neg (by simp), dl_num 120 (by omega), if_neg (by omega), if_pos ⟨rfl, rfl⟩]
        simp only [List.drop_succ_cons, List.drop_zero]
        rw [plL, if_neg (by simp), dl_num _ f1.2.1, if_neg (by omega), if_neg (by omega), if_pos rfl]
        simp only [List.drop_succ_cons, List.drop_zero]
        rw [plL, if_neg (by simp), dl_num _ f2.2.1, if_neg (by omega), if_neg (by omega), if_neg (by omega), if_pos rfl]
        simp only [List.drop_succ_cons, List.drop_zero]
        rw [f1.1, f2.1, ih]
        congr 1; omega
      · by_cases hk : bl (b :: r) 0 = 34 ∨ bl (b :: r) 0 = 92
        · have hk' : b.toNat = 34 ∨ b.toNat = 92 := hk
          have hq : qaL (b :: r) = [92, b.toNat] := by unfold qaL; rw [if_neg he, if_pos hk]; rfl
          have hw : (dl (b :: r)).2 = 1 := by rw [dl_ascii b r (by omega)]
          rw [hq, hw] at hF ⊢
          simp only [List.length_append, List.length_cons, List.length_nil, List.drop_succ_cons, List.drop_zero] at hF
          obtain ⟨G, rfl⟩ : ∃ G, F = G + 2 := ⟨F - 2, by omega⟩
          have ih := quote_back f r (by simpa using h) G hi (by simpa using (by omega : (qL f r).length ≤ G))
          simp only [List.map_append, List.map_cons, List.map_nil, List.cons_append, List.nil_append, List.drop_succ_cons, List.drop_zero]
          rw [show G + 2 = G + 1 + 1 from rfl, plL, if_neg (by simp), dl_num 92 (by omega), if_pos ⟨rfl, rfl⟩]
          simp only [List.drop_succ_cons, List.drop_zero]
          rw [plL, if_neg (by simp), dl_num b.toNat (by omega), if_neg (by omega), if_neg (by rintro ⟨_, e⟩; simp only at e; omega), if_neg (by omega), if_neg (by omega)]
          simp only [List.drop_succ_cons, List.drop_zero]
          rw [ih]; unfold encN; rw [if_pos (by omega)]; rfl
        · have hne : dl (b :: r) ≠ (65533, 1) := fun e => he (Or.inl e)
          have hq : qaL (b :: r) = ((b :: r).take (dl (b :: r)).2).map (·.toNat) := by unfold qaL; rw [if_neg he, if_neg hk]
          have ht := dl_take (b :: r) ((qL f ((b :: r).drop (dl (b :: r)).2)).map UInt8.ofNat) hne hl
          have hn92 : (dl (b :: r)).1 ≠ 92 := by
            intro e
            by_cases h128 : b.toNat < 128
            · rw [dl_ascii b r h128] at e; exact hk (Or.inr e)
            · have := (dec_high (mkB (b :: r)) 0 (by rw [mkB_size]; simp) (by unfold bt; rw [mk_get]; show 128 ≤ b.toNat; omega)).1
              have e2 : (Utf8.decode (mkB (b :: r)) 0).1 = 92 := e
              omega
          rw [hq] at hF ⊢
          generalize hwd : (dl (b :: r)).2 = wd at *
          have hlen : (((b :: r).take wd).map (·.toNat)).length = wd := by rw [List.length_map, List.length_take]; omega
          rw [List.length_append, hlen] at hF
          obtain ⟨G, rfl⟩ : ∃ G, F = G + 1 := ⟨F - 1, by omega⟩
          have ih := quote_back f ((b :: r).drop wd) (by rw [List.length_drop]; omega) G hi (by omega)
          rw [List.map_append, map_back, plL, if_neg (by
            intro e
            have e3 := congrArg List.length e
            rw [List.length_append, List.length_take] at e3
            simp at e3; omega), ht.1, if_neg (by rintro ⟨_, e⟩; exact hn92 e), if_neg (by omega), if_neg (by omega), if_neg (by omega), enc_take (b :: r) hne hl, hwd]
          rw [List.drop_left' (by rw [List.length_take]; omega), ih, ← List.map_append, List.take_append_drop]

theorem qL_len : ∀ (f : Nat) (l : List UInt8), l.length ≤ f → (qL f l).length ≤ 4 * l.length
  | 0, l, h => by simp [qL]
  | f + 1, l, h => by
    rw [qL]
    by_cases hl : l = []
    · simp [hl]
    · rw [if_neg hl, List.length_append]
      have hpos : 1 ≤ l.length := by cases l; exact absurd rfl hl; simp
      have hw : 1 ≤ (dl l).2 ∧ (dl l).2 ≤ l.length ∧ (qaL l).length ≤ 4 * (dl l).2 := by
        by_cases hd : dl l = (65533, 1)
        · rw [hd]; refine ⟨by simp, hpos, ?_⟩; unfold qaL; rw [if_pos (Or.inl hd)]; simp
        · have ht := dl_take l [] hd hl
          refine ⟨ht.2.2, ht.2.1, ?_⟩
          unfold qaL
          split
          · simp; omega
          · split
            · simp; omega
            · rw [List.length_map, List.length_take]; omega
      have ih := qL_len f (l.drop (dl l).2) (by rw [List.length_drop]; omega)
      rw [List.length_drop] at ih; omega
theorem quoteN_eq (s : ByteArray) : quoteN s = 34 :: qL s.size s.data.toList ++ [34] := by unfold quoteN; rw [qFrom_eq, rest_zero]
/-- The bytes between the quotes. -/
def bodyB (s : ByteArray) : List UInt8 := (qL s.size s.data.toList).map UInt8.ofNat
theorem quoteB_data (s : ByteArray) : (quoteB s).data.toList = 34 :: (bodyB s ++ [34]) := by
  unfold quoteB; rw [mkB_data, quoteN_eq]; unfold bodyB
  rw [List.map_append]; rfl
theorem quoteB_size (s : ByteArray) : (quoteB s).size = (bodyB s).length + 2 := by rw [← len_data, quoteB_data]; simp
theorem body_len (s : ByteArray) : (bodyB s).length ≤ 4 * s.size := by
  unfold bodyB; rw [List.length_map]
  have := qL_len s.size s.data.toList (by rw [len_data]; exact Nat.le_refl _)
  rwa [len_data] at this
theorem inner_data (s : ByteArray) : (quoteB s).extract 1 ((quoteB s).size - 1) = mkB (bodyB s) := by
  apply bytes_inj'
  rw [← mid_extract, mkB_data, mkB_data]
  unfold mid
  rw [quoteB_data, quoteB_size]
  simp
/-- What is put in quotes comes back. -/
theorem plain_quote (s : ByteArray) : plainB ((quoteB s).extract 1 ((quoteB s).size - 1)) = s := by
  rw [inner_data]
  unfold plainB
  rw [plFrom_eq, rest_zero, mkB_data, mkB_size]
  have h := quote_back s.size s.data.toList (by rw [len_data]; exact Nat.le_refl _) (bodyB s).length 0 (by unfold bodyB; rw [List.length_map]; exact Nat.le_refl _)
  have h2 : plL (bodyB s).length (bodyB s) 0 0 = s.data.toList.map (·.toNat) := h
  rw [h2, map_back, mkB_of]

/-! In a line it is one word. -/
theorem u8_is (n : Nat) (h : n < 256) (c : UInt8) : UInt8.ofNat n = c ↔ n = c.toNat := by
  constructor
  · intro e; rw [← e, ofNat_toNat n h]
  · intro e; rw [e]; simp
theorem wd_in (D : List (List UInt8)) (rest : List UInt8) : ∀ (f : Nat) (l : List UInt8), l.length ≤ f → ∀ cur, wdRun ((qL f l).map UInt8.ofNat ++ rest) D cur 2 = wdRun rest D (cur ++ (qL f l).map UInt8.ofNat) 2
  | 0, l, _, cur => by simp [qL]
  | f + 1, l, h, cur => by
    by_cases hl : l = []
    · subst hl; simp [qL]
    · obtain ⟨b, r, rfl⟩ : ∃ b r, l = b :: r := by cases l; exact absurd rfl hl; exact ⟨_, _, rfl⟩
      have hb := b.toNat_lt
      rw [qL, if_neg hl]
      by_cases he : dl (b :: r) = (65533, 1) ∨ bl (b :: r) 0 < 32 ∨ bl (b :: r) 0 = 127
      · have hw : (dl (b :: r)).2 = 1 := by
          rcases he with he | he | he
          · rw [he]
          · rw [bl_zero] at he; rw [dl_ascii b r (by omega)]
          · rw [bl_zero] at he; rw [dl_ascii b r (by omega)]
        have hq : qaL (b :: r) = [92, 120, hexd (b.toNat / 16), hexd (b.toNat % 16)] := by unfold qaL; rw [if_pos he]; rfl
        have f1 := hexd_facts (b.toNat / 16) (by omega)
        have f2 := hexd_facts (b.toNat % 16) (by omega)
        rw [hq, hw]
        have ih := wd_in D rest f r (by simpa using h)
        simp only [List.map_append, List.map_cons, List.map_nil, List.cons_append, List.nil_append, List.drop_succ_cons, List.drop_zero]
        have n1 : ¬ UInt8.ofNat (hexd (b.toNat / 16)) = 34 := by rw [u8_is _ (by omega)]; exact f1.2.2.1
        have n2 : ¬ UInt8.ofNat (hexd (b.toNat / 16)) = 92 := by rw [u8_is _ (by omega)]; exact f1.2.2.2
        have n3 : ¬ UInt8.ofNat (hexd (b.toNat % 16)) = 34 := by rw [u8_is _ (by omega)]; exact f2.2.2.1
        have n4 : ¬ UInt8.ofNat (hexd (b.toNat % 16)) = 92 := by rw [u8_is _ (by omega)]; exact f2.2.2.2
        rw [wdRun, if_neg (by omega), if_neg (by omega), if_pos rfl, if_neg (by decide), if_pos (by decide), wdRun, if_neg (by omega), if_neg (by omega), if_neg (by omega),
          wdRun, if_neg (by omega), if_neg (by omega), if_pos rfl, if_neg n1, if_neg n2, wdRun, if_neg (by omega), if_neg (by omega), if_pos rfl, if_neg n3, if_neg n4, ih]
        simp [List.append_assoc]
      · by_cases hk : bl (b :: r) 0 = 34 ∨ bl (b :: r) 0 = 92
        · have hk' : b.toNat = 34 ∨ b.toNat = 92 := hk
          have hq : qaL (b :: r) = [92, b.toNat] := by unfold qaL; rw [if_neg he, if_pos hk]; rfl
          have hw : (dl (b :: r)).2 = 1 := by rw [dl_ascii b r (by omega)]
          rw [hq, hw]
          have ih := wd_in D rest f r (by simpa using h)
          simp only [List.map_append, List.map_cons, List.map_nil, List.cons_append, List.nil_append, List.drop_succ_cons, List.drop_zero]
          rw [wdRun, if_neg (by omega), if_neg (by omega), if_pos rfl, if_neg (by decide), if_pos (by decide), wdRun, if_neg (by omega), if_neg (by omega), if_neg (by omega), ih]
          simp [List.append_assoc]
        · have hne : dl (b :: r) ≠ (65533, 1) := fun e => he (Or.inl e)
          have hq : qaL (b :: r) = ((b :: r).take (dl (b :: r)).2).map (·.toNat) := by unfold qaL; rw [if_neg he, if_neg hk]
          have ht := dl_take (b :: r) [] hne hl
          have hby : ∀ c ∈ (b :: r).take (dl (b :: r)).2, c ≠ 34 ∧ c ≠ 92 := by
            by_cases h128 : b.toNat < 128
            · rw [dl_ascii b r h128]
              intro c hc
              simp at hc; subst hc
              exact ⟨fun e => hk (Or.inl (by rw [e]; rfl)), fun e => hk (Or.inr (by rw [e]; rfl))⟩
            · have hh := (dec_high (mkB (b :: r)) 0 (by rw [mkB_size]; simp) (by unfold bt; rw [mk_get]; show 128 ≤ b.toNat; omega)).2.2.2
              intro c hc
              obtain ⟨i, hi, hci⟩ := List.mem_iff_getElem.1 hc
              rw [List.length_take] at hi
              have h1 := hh i (by show i < (dl (b :: r)).2; omega)
              rw [Nat.zero_add] at h1
              unfold bt at h1
              rw [mk_get, List.getD_eq_getElem?_getD] at h1
              rw [List.getElem_take] at hci
              rw [List.getElem?_eq_getElem (by omega), hci] at h1
              simp only [Option.getD_some] at h1
              exact ⟨fun e => by rw [e] at h1; revert h1; decide, fun e => by rw [e] at h1; revert h1; decide⟩
          have skip : ∀ (m : List UInt8), (∀ c ∈ m, c ≠ 34 ∧ c ≠ 92) → ∀ x cur, wdRun (m ++ x) D cur 2 = wdRun x D (cur ++ m) 2 := by
            intro m
            induction m with
            | nil => intro _ x cur; simp
            | cons c m ihm =>
              intro hm x cur
              have hc := hm c (by simp)
              rw [List.cons_append, wdRun, if_neg (by omega), if_neg (by omega), if_pos rfl, if_neg hc.1, if_neg hc.2, ihm (fun y hy => hm y (by simp [hy]))]
              simp
          rw [hq, List.map_append, map_back, List.append_assoc, skip _ hby, wd_in D rest f _ (by rw [List.length_drop]; omega), List.append_assoc]
theorem wd_quote (s : ByteArray) (D : List (List UInt8)) (r cur : List UInt8) : wdRun ((quoteB s).data.toList ++ r) D cur 0 = wdRun r (D ++ [(quoteB s).data.toList]) [] 0 := by
  rw [quoteB_data]
  rw [show (34 :: (bodyB s ++ [34])) ++ r = 34 :: (bodyB s ++ (34 :: r)) from by simp]
  rw [wdRun, if_pos rfl, if_neg (by decide), if_pos rfl]
  have h := wd_in D (34 :: r) s.size s.data.toList (by rw [len_data]; exact Nat.le_refl _) [34]
  rw [show (qL s.size s.data.toList).map UInt8.ofNat = bodyB s from rfl] at h
  rw [h, wdRun, if_neg (by omega), if_neg (by omega), if_pos rfl, if_pos rfl]
  simp
/-- The line of the statement: two blanks, the quotes twice, an x. -/
theorem words_line (s : ByteArray) : wordsL ((⟨#[32, 32]⟩ : ByteArray) ++ quoteB s ++ ⟨#[32]⟩ ++ quoteB s ++ ⟨#[32, 120]⟩).data.toList = [(quoteB s).data.toList, (quoteB s).data.toList, [120]] := by
  have e : ((⟨#[32, 32]⟩ : ByteArray) ++ quoteB s ++ ⟨#[32]⟩ ++ quoteB s ++ ⟨#[32, 120]⟩).data.toList = 32 :: 32 :: ((quoteB s).data.toList ++ (32 :: ((quoteB s).data.toList ++ [32, 120]))) := by
    simp [ByteArray.toList_data_append]
  rw [e]
  unfold wordsL
  rw [wdRun, if_pos rfl, if_pos rfl, wdRun, if_pos rfl, if_pos rfl, wd_quote, wdRun, if_pos rfl, if_pos rfl, wd_quote]
  rfl
end Go.Proofs.YtnhonjhpggnglaaDoor
