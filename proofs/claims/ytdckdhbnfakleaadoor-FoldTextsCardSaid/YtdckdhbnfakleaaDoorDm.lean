/- The rune that a row of bytes begins with; texts as runes and back. No program. (XDl without the layer runes beneath it: never import both.) -/
import Derived.Test.YtdckdhbnfakleaaDoorRow
import Derived.Test.YtdckdhbnfakleaaDoorUt
import Derived.Laws.Cover4
import Derived.Laws.Runes
import Derived.Lib.ValidLaws
import Derived.Lib.RuneCountTail
namespace Go.Proofs.YtdckdhbnfakleaaDoor

/-- The bytes of a text from a place on. -/
def rest (s : ByteArray) (k : Nat) : List UInt8 := s.data.toList.drop k
theorem rest_cons (s : ByteArray) (k : Nat) (h : k < s.size) : rest s k = s[k] :: rest s (k + 1) := by
  unfold rest
  have hl : k < s.data.toList.length := by simpa using h
  rw [List.drop_eq_getElem_cons hl]; rfl
theorem rest_end (s : ByteArray) (k : Nat) (h : s.size ≤ k) : rest s k = [] := List.drop_of_length_le (by simpa using h)
/-- The rune that a row of bytes begins with, and its width. -/
def dl (l : List UInt8) : Nat × Nat := Utf8.decode (mkB l) 0
theorem mkB_rest (s : ByteArray) (k : Nat) : s.extract k s.size = mkB (rest s k) := by
  rw [← mid_extract]
  congr 1
  unfold mid rest
  rw [List.take_of_length_le (by rw [List.length_drop, len_data]; exact Nat.le_refl _)]
theorem dl_at (s : ByteArray) (k : Nat) : Utf8.decode s k = dl (rest s k) := by
  unfold dl
  rw [← mkB_rest, Lib.tail_decode]; rfl
theorem mk_get (l : List UInt8) (i : Nat) : (mkB l).get! i = l.getD i 0 := by
  unfold mkB
  simp [ByteArray.get!, List.getD]
  rfl
def bl (l : List UInt8) (i : Nat) : Nat := (l.getD i 0).toNat
theorem dl_eq (l : List UInt8) : dl l = Lib.decodeN l.length (bl l 0) (bl l 1) (bl l 2) (bl l 3) := by
  unfold dl
  rw [Lib.decode_at, mkB_size, mk_get, mk_get, mk_get, mk_get]; rfl
theorem dl_ascii (b : UInt8) (l : List UInt8) (h : b.toNat < 128) : dl (b :: l) = (b.toNat, 1) := by
  rw [dl_eq]; unfold Lib.decodeN
  rw [if_pos (show bl (b :: l) 0 < 128 from h)]; rfl
/-- A rune that may be is told by its own bytes alone. -/
theorem dl_take (l r : List UInt8) (h : dl l ≠ (65533, 1)) (hl : l ≠ []) : dl (l.take (dl l).2 ++ r) = dl l ∧ (dl l).2 ≤ l.length ∧ 1 ≤ (dl l).2 := by
  have hp := decN_parts l.length (bl l 0) (bl l 1) (bl l 2) (bl l 3)
  rw [← dl_eq] at hp
  have hpos : 1 ≤ l.length := by cases l; exact absurd rfl hl; simp
  have key : ∀ wd, wd ≤ l.length → ∀ i, i < wd → bl (l.take wd ++ r) i = bl l i := fun wd hwd i hi => by
    unfold bl
    congr 1
    simp only [List.getD_eq_getElem?_getD]
    rw [List.getElem?_append_left (by rw [List.length_take]; omega), List.getElem?_take_of_lt hi]
  have len : ∀ wd, wd ≤ l.length → wd ≤ (l.take wd ++ r).length := fun wd hwd => by rw [List.length_append, List.length_take]; omega
  rcases hp with ⟨h1, e⟩ | ⟨h1, e⟩ | ⟨hn, h1, h2, hv, e⟩ | ⟨hn, h1, h2, h3, hv, hv2, e⟩ | ⟨hn, h1, h2, h3, h4, hv, hv2, e⟩
  · rw [e]; refine ⟨?_, hpos, by simp⟩
    have k0 := key 1 hpos 0 (by omega)
    rw [dl_eq, k0]; unfold Lib.decodeN; rw [if_pos h1]
  · exact absurd e h
  · rw [e]; refine ⟨?_, hn, by simp⟩
    have k0 := key 2 hn 0 (by omega)
    have k1 := key 2 hn 1 (by omega)
    have kl := len 2 hn
    simp only at k0 k1 kl ⊢
    rw [dl_eq, k0, k1]; unfold Lib.decodeN
    rw [if_neg (by omega), if_pos ⟨h1, by omega, h2⟩, if_pos hv]
  · rw [e]; refine ⟨?_, hn, by simp⟩
    have k0 := key 3 hn 0 (by omega)
    have k1 := key 3 hn 1 (by omega)
    have k2 := key 3 hn 2 (by omega)
    have kl := len 3 hn
    simp only at k0 k1 k2 kl ⊢
    rw [dl_eq, k0, k1, k2]; unfold Lib.decodeN
    rw [if_neg (by omega), if_neg (by omega), if_pos ⟨h1, ⟨by omega, h2⟩, by omega, h3⟩, if_pos ⟨hv, by omega⟩]
  · rw [e]; refine ⟨?_, hn, by simp⟩
    have k0 := key 4 hn 0 (by omega)
    have k1 := key 4 hn 1 (by omega)
    have k2 := key 4 hn 2 (by omega)
    have k3 := key 4 hn 3 (by omega)
    have kl := len 4 hn
    simp only at k0 k1 k2 k3 kl ⊢
    rw [dl_eq, k0, k1, k2, k3]; unfold Lib.decodeN
    rw [if_neg (by omega), if_neg (by omega), if_neg (by omega), if_pos ⟨h1, ⟨by omega, h2⟩, ⟨by omega, h3⟩, by omega, h4⟩, if_pos ⟨hv, by omega⟩]

theorem rest_nil (s : ByteArray) (k : Nat) : rest s k = [] ↔ ¬ k < s.size := by
  unfold rest
  rw [List.drop_eq_nil_iff, len_data]; omega
theorem rest_len (s : ByteArray) (k : Nat) : (rest s k).length = s.size - k := by unfold rest; rw [List.length_drop, len_data]
theorem rest_drop (s : ByteArray) (k n : Nat) : rest s (k + n) = (rest s k).drop n := by unfold rest; rw [List.drop_drop]
theorem bt_rest (s : ByteArray) (k : Nat) (h : k < s.size) : bt s k = bl (rest s k) 0 := by
  rw [rest_cons s k h, ← bt_at s k h]; rfl
theorem bl_zero (b : UInt8) (l : List UInt8) : bl (b :: l) 0 = b.toNat := rfl
/-- A rune's bytes are what it becomes. -/
theorem rest_zero (s : ByteArray) : rest s 0 = s.data.toList := by unfold rest; rfl
/-- A rune is told by its own bytes, whatever is cut off behind it. -/
theorem dl_pre (l : List UInt8) (hl : l ≠ []) (m : Nat) (hm : (dl l).2 ≤ m) : dl (l.take m) = dl l := by
  by_cases h : dl l = (65533, 1)
  · by_cases h2 : dl (l.take m) = (65533, 1)
    · rw [h, h2]
    · exfalso
      rw [h] at hm
      have hn : l.take m ≠ [] := by
        intro e
        have := congrArg List.length e
        rw [List.length_take] at this
        have hpos : 1 ≤ l.length := by cases l; exact absurd rfl hl; simp
        simp only [List.length_nil] at this
        simp only at hm
        omega
      have h3 := dl_take (l.take m) (l.drop (dl (l.take m)).2) h2 hn
      have h4 := h3.2.1
      rw [List.length_take] at h4
      rw [List.take_take, show min (dl (l.take m)).2 m = (dl (l.take m)).2 from by omega, List.take_append_drop] at h3
      rw [← h3.1] at h2
      exact h2 h
  · have h3 := dl_take l ((l.take m).drop (dl l).2) h hl
    have e : l.take (dl l).2 ++ (l.take m).drop (dl l).2 = l.take m := by
      conv => rhs; rw [← List.take_append_drop (dl l).2 (l.take m)]
      rw [List.take_take, show min (dl l).2 m = (dl l).2 from by omega]
    rw [e] at h3
    exact h3.1
theorem dl_wide (l : List UInt8) (hl : l ≠ []) : 1 ≤ (dl l).2 ∧ (dl l).2 ≤ l.length := by
  by_cases h : dl l = (65533, 1)
  · rw [h]
    have hpos : 1 ≤ l.length := by cases l; exact absurd rfl hl; simp
    exact ⟨by simp, hpos⟩
  · have h3 := dl_take l [] h hl
    exact ⟨h3.2.2, h3.2.1⟩
/-- The bytes of a rune. -/
def encL (r : Int) : List UInt8 := (Utf8.encode r).data.toList
/-- A rune that is told by its bytes, whatever stands behind them. -/
def Gd (r : Int) : Prop := ∃ n : Nat, r = (n : Int) ∧ encL r ≠ [] ∧ (∀ l, dl (encL r ++ l) = (n, (encL r).length)) ∧ ¬ (n = 65533 ∧ (encL r).length = 1)
theorem encL_eq (r : Int) : encL r = (Utf8.encode r).data.toList := rfl
theorem enc_small (n : Nat) (h : n < 128) : (Utf8.encode (n : Int)).data.toList = [UInt8.ofNat n] := by
  have v : Utf8.valid (n : Int) = true := by simp [Utf8.valid]; omega
  simp [Utf8.encode, v, h]
theorem enc_two (n : Nat) (h1 : ¬ n < 128) (h : n < 2048) : (Utf8.encode (n : Int)).data.toList = [UInt8.ofNat (192 + n / 64), UInt8.ofNat (128 + n % 64)] := by
  have v : Utf8.valid (n : Int) = true := by simp [Utf8.valid]; omega
  simp [Utf8.encode, v, h1, h]
theorem enc_three (n : Nat) (h1 : ¬ n < 2048) (h : n < 65536) (hs : n < 55296 ∨ 57344 ≤ n) : (Utf8.encode (n : Int)).data.toList = [UInt8.ofNat (224 + n / 4096), UInt8.ofNat (128 + n / 64 % 64), UInt8.ofNat (128 + n % 64)] := by
  have v : Utf8.valid (n : Int) = true := by simp [Utf8.valid]; omega
  have c1 : ¬ n < 128 := by omega
  simp [Utf8.encode, v, c1, h1, h]
theorem enc_four (n : Nat) (h1 : ¬ n < 65536) (h : n ≤ 1114111) : (Utf8.encode (n : Int)).data.toList = [UInt8.ofNat (240 + n / 262144), UInt8.ofNat (128 + n / 4096 % 64), UInt8.ofNat (128 + n / 64 % 64), UInt8.ofNat (128 + n % 64)] := by
  have v : Utf8.valid (n : Int) = true := by simp [Utf8.valid]; omega
  have c1 : ¬ n < 128 := by omega
  have c2 : ¬ n < 2048 := by omega
  simp [Utf8.encode, v, c1, c2, h1]
theorem encL_small (n : Nat) (h : n < 128) : encL (n : Int) = [UInt8.ofNat n] := by rw [encL_eq, enc_small n h]
theorem encL_two (n : Nat) (h1 : 128 ≤ n) (h : n < 2048) : encL (n : Int) = [UInt8.ofNat (192 + n / 64), UInt8.ofNat (128 + n % 64)] := by rw [encL_eq, enc_two n (by omega) h]
theorem encL_three (n : Nat) (h1 : 2048 ≤ n) (h : n < 65536) (hs : n < 55296 ∨ 57344 ≤ n) : encL (n : Int) = [UInt8.ofNat (224 + n / 4096), UInt8.ofNat (128 + n / 64 % 64), UInt8.ofNat (128 + n % 64)] := by rw [encL_eq, enc_three n (by omega) h hs]
theorem encL_four (n : Nat) (h1 : 65536 ≤ n) (h : n ≤ 1114111) : encL (n : Int) = [UInt8.ofNat (240 + n / 262144), UInt8.ofNat (128 + n / 4096 % 64), UInt8.ofNat (128 + n / 64 % 64), UInt8.ofNat (128 + n % 64)] := by rw [encL_eq, enc_four n (by omega) h]
theorem ofN (n : Nat) (h : n < 256) : (UInt8.ofNat n).toNat = n := by simp; omega
theorem encL_bl (n : Nat) (h : n < 55296 ∨ 57344 ≤ n ∧ n ≤ 1114111) : Gd (n : Int) := by
  refine ⟨n, rfl, ?_⟩
  by_cases h1 : n < 128
  · rw [encL_small n h1]
    refine ⟨by simp, fun l => ?_, by omega⟩
    rw [List.singleton_append, dl_ascii _ _ (by rw [ofN n (by omega)]; exact h1), ofN n (by omega)]; rfl
  by_cases h2 : n < 2048
  · rw [encL_two n (by omega) h2]
    refine ⟨by simp, fun l => ?_, by simp⟩
    rw [dl_eq]
    have k0 : bl ([UInt8.ofNat (192 + n / 64), UInt8.ofNat (128 + n % 64)] ++ l) 0 = 192 + n / 64 := ofN _ (by omega)
    have k1 : bl ([UInt8.ofNat (192 + n / 64), UInt8.ofNat (128 + n % 64)] ++ l) 1 = 128 + n % 64 := ofN _ (by omega)
    rw [k0, k1]
    unfold Lib.decodeN
    rw [if_neg (by omega), if_pos ⟨by omega, by simp, by omega⟩, if_pos (by omega)]
    show _ = (n, 2)
    rw [Prod.mk.injEq]; exact ⟨by omega, rfl⟩
  by_cases h3 : n < 65536
  · rw [encL_three n (by omega) h3 (by omega)]
    refine ⟨by simp, fun l => ?_, by simp⟩
    rw [dl_eq]
    have k0 : bl ([UInt8.ofNat (224 + n / 4096), UInt8.ofNat (128 + n / 64 % 64), UInt8.ofNat (128 + n % 64)] ++ l) 0 = 224 + n / 4096 := ofN _ (by omega)
    have k1 : bl ([UInt8.ofNat (224 + n / 4096), UInt8.ofNat (128 + n / 64 % 64), UInt8.ofNat (128 + n % 64)] ++ l) 1 = 128 + n / 64 % 64 := ofN _ (by omega)
    have k2 : bl ([UInt8.ofNat (224 + n / 4096), UInt8.ofNat (128 + n / 64 % 64), UInt8.ofNat (128 + n % 64)] ++ l) 2 = 128 + n % 64 := ofN _ (by omega)
    rw [k0, k1, k2]
    unfold Lib.decodeN
    rw [if_neg (by omega), if_neg (by omega), if_pos ⟨by omega, ⟨by simp, by omega⟩, by simp, by omega⟩, if_pos ⟨by omega, by omega⟩]
    show _ = (n, 3)
    rw [Prod.mk.injEq]; exact ⟨by omega, rfl⟩
  · rw [encL_four n (by omega) (by omega)]
    refine ⟨by simp, fun l => ?_, by simp⟩
    rw [dl_eq]
    have k0 : bl ([UInt8.ofNat (240 + n / 262144), UInt8.ofNat (128 + n / 4096 % 64), UInt8.ofNat (128 + n / 64 % 64), UInt8.ofNat (128 + n % 64)] ++ l) 0 = 240 + n / 262144 := ofN _ (by omega)
    have k1 : bl ([UInt8.ofNat (240 + n / 262144), UInt8.ofNat (128 + n / 4096 % 64), UInt8.ofNat (128 + n / 64 % 64), UInt8.ofNat (128 + n % 64)] ++ l) 1 = 128 + n / 4096 % 64 := ofN _ (by omega)
    have k2 : bl ([UInt8.ofNat (240 + n / 262144), UInt8.ofNat (128 + n / 4096 % 64), UInt8.ofNat (128 + n / 64 % 64), UInt8.ofNat (128 + n % 64)] ++ l) 2 = 128 + n / 64 % 64 := ofN _ (by omega)
    have k3 : bl ([UInt8.ofNat (240 + n / 262144), UInt8.ofNat (128 + n / 4096 % 64), UInt8.ofNat (128 + n / 64 % 64), UInt8.ofNat (128 + n % 64)] ++ l) 3 = 128 + n % 64 := ofN _ (by omega)
    rw [k0, k1, k2, k3]
    unfold Lib.decodeN
    rw [if_neg (by omega), if_neg (by omega), if_neg (by omega), if_pos ⟨by omega, ⟨by simp, by omega⟩, ⟨by simp, by omega⟩, by simp, by omega⟩, if_pos ⟨by omega, by omega⟩]
    show _ = (n, 4)
    rw [Prod.mk.injEq]; exact ⟨by omega, rfl⟩
/-- What is decoded is such a rune. -/
theorem dl_rune (l : List UInt8) : (dl l).1 < 55296 ∨ 57344 ≤ (dl l).1 ∧ (dl l).1 ≤ 1114111 := by
  have hp := decN_parts l.length (bl l 0) (bl l 1) (bl l 2) (bl l 3)
  rw [← dl_eq] at hp
  rcases hp with ⟨h1, e⟩ | ⟨h1, e⟩ | ⟨hn, h1, h2, hv, e⟩ | ⟨hn, h1, h2, h3, hv, hv2, e⟩ | ⟨hn, h1, h2, h3, h4, hv, hv2, e⟩ <;> rw [e] <;> dsimp only <;> omega
theorem dl_gd (l : List UInt8) : Gd ((dl l).1 : Int) := encL_bl _ (dl_rune l)
/-- The runes of a row of bytes. -/
def gL : Nat → List UInt8 → List Int
  | 0, _ => []
  | f + 1, l => if l = [] then [] else ((dl l).1 : Int) :: gL f (l.drop (dl l).2)
theorem gL_more : ∀ (f g : Nat) (l : List UInt8), l.length ≤ f → l.length ≤ g → gL f l = gL g l
  | 0, g, l, h, _ => by
    have : l = [] := List.eq_nil_of_length_eq_zero (by omega)
    subst this
    cases g <;> simp [gL]
  | f + 1, 0, l, _, h => by
    have : l = [] := List.eq_nil_of_length_eq_zero (by omega)
    subst this; simp [gL]
  | f + 1, g + 1, l, h1, h2 => by
    rw [gL, gL]
    by_cases h : l = []
    · simp [h]
    · have hw := dl_wide l h
      rw [if_neg h, if_neg h, gL_more f g (l.drop (dl l).2) (by rw [List.length_drop]; omega) (by rw [List.length_drop]; omega)]
theorem gL_gd : ∀ (f : Nat) (l : List UInt8), ∀ r ∈ gL f l, Gd r
  | 0, l, r, h => by simp [gL] at h
  | f + 1, l, r, h => by
    rw [gL] at h
    split at h
    · simp at h
    · rcases List.mem_cons.1 h with rfl | h1
      · exact dl_gd l
      · exact gL_gd f _ r h1
/-- The bytes of runes. -/
def flatL (L : List Int) : List UInt8 := L.flatMap encL
theorem flatL_cons (r : Int) (L : List Int) : flatL (r :: L) = encL r ++ flatL L := by simp [flatL]
theorem flatL_append (L M : List Int) : flatL (L ++ M) = flatL L ++ flatL M := by simp [flatL]
theorem gL_flat : ∀ (L : List Int) (f : Nat), (∀ r ∈ L, Gd r) → (flatL L).length ≤ f → gL f (flatL L) = L
  | [], f, _, _ => by cases f <;> simp [flatL, gL]
  | r :: L, f, h, hf => by
    obtain ⟨n, hn, hne, hd, _⟩ := h r (List.mem_cons_self ..)
    rw [flatL_cons] at hf ⊢
    rw [List.length_append] at hf
    have hl : 0 < (encL r).length := List.length_pos_iff.2 hne
    obtain ⟨g, rfl⟩ : ∃ g, f = g + 1 := ⟨f - 1, by omega⟩
    rw [gL, if_neg (by simp [hne]), hd]
    simp only [List.drop_left, hn]
    rw [gL_flat L g (fun r hr => h r (List.mem_cons_of_mem _ hr)) (by omega)]
theorem valid_flat : ∀ (L : List Int), (∀ r ∈ L, Gd r) → Lib.validD (flatL L) = true
  | [], _ => rfl
  | r :: L, h => by
    obtain ⟨n, hn, hne, hd, hv⟩ := h r (List.mem_cons_self ..)
    rw [flatL_cons, Lib.validD_step _ (by simp [hne])]
    have e : Lib.decodeL (encL r ++ flatL L) = (n, (encL r).length) := hd _
    rw [e]
    dsimp only
    rw [if_neg hv, List.drop_left]
    exact valid_flat L (fun r hr => h r (List.mem_cons_of_mem _ hr))
theorem rb_flat (L : List Int) : (runesBytes L).data.toList = flatL L := by
  have key : ∀ (L : List Int) (b : ByteArray), (L.foldl (fun r n => r ++ Utf8.encode n) b).data.toList = b.data.toList ++ flatL L := by
    intro L
    induction L with
    | nil => intro b; simp [flatL]
    | cons r L ih => intro b; rw [List.foldl_cons, ih, flatL_cons, ByteArray.toList_data_append, List.append_assoc]; rfl
  unfold runesBytes
  rw [key]; rfl
/-- A row of bytes that is valid is made of its runes. -/
theorem enc_dl (l : List UInt8) (h : dl l ≠ (65533, 1)) (hl : l ≠ []) : encL ((dl l).1 : Int) = l.take (dl l).2 := by
  have hp := decN_parts l.length (bl l 0) (bl l 1) (bl l 2) (bl l 3)
  rw [← dl_eq] at hp
  have hpos : 1 ≤ l.length := by cases l; exact absurd rfl hl; simp
  rcases hp with ⟨h1, e⟩ | ⟨h1, e⟩ | ⟨hn, h1, h2, hv, e⟩ | ⟨hn, h1, h2, h3, hv, hv2, e⟩ | ⟨hn, h1, h2, h3, h4, hv, hv2, e⟩
  · rw [e]; dsimp only
    rw [encL_small _ h1]
    rw [Lib.takeA l hpos]; unfold bl; rw [← Lib.byteOfM]
  · exact absurd e h
  · rw [e]; dsimp only
    have hb0 : bl l 0 < 256 := (l.getD 0 0).toNat_lt
    have hb1 : bl l 1 < 256 := (l.getD 1 0).toNat_lt
    rw [encL_two _ hv (by omega)]
    rw [show 192 + (bl l 0 % 32 * 64 + bl l 1 % 64) / 64 = bl l 0 from by omega, show 128 + (bl l 0 % 32 * 64 + bl l 1 % 64) % 64 = bl l 1 from by omega]
    rw [Lib.takeB l hn]; unfold bl; rw [← Lib.byteOfM, ← Lib.byteOfM]
  · rw [e]; dsimp only
    have hb0 : bl l 0 < 256 := (l.getD 0 0).toNat_lt
    have hb1 : bl l 1 < 256 := (l.getD 1 0).toNat_lt
    have hb2 : bl l 2 < 256 := (l.getD 2 0).toNat_lt
    rw [encL_three _ hv (by omega) (by omega)]
    rw [show 224 + (bl l 0 % 16 * 4096 + bl l 1 % 64 * 64 + bl l 2 % 64) / 4096 = bl l 0 from by omega, show 128 + (bl l 0 % 16 * 4096 + bl l 1 % 64 * 64 + bl l 2 % 64) / 64 % 64 = bl l 1 from by omega, show 128 + (bl l 0 % 16 * 4096 + bl l 1 % 64 * 64 + bl l 2 % 64) % 64 = bl l 2 from by omega]
    rw [Lib.takeC l hn]; unfold bl; rw [← Lib.byteOfM, ← Lib.byteOfM, ← Lib.byteOfM]
  · rw [e]; dsimp only
    have hb0 : bl l 0 < 256 := (l.getD 0 0).toNat_lt
    have hb1 : bl l 1 < 256 := (l.getD 1 0).toNat_lt
    have hb2 : bl l 2 < 256 := (l.getD 2 0).toNat_lt
    have hb3 : bl l 3 < 256 := (l.getD 3 0).toNat_lt
    rw [encL_four _ hv hv2]
    rw [show 240 + (bl l 0 % 8 * 262144 + bl l 1 % 64 * 4096 + bl l 2 % 64 * 64 + bl l 3 % 64) / 262144 = bl l 0 from by omega, show 128 + (bl l 0 % 8 * 262144 + bl l 1 % 64 * 4096 + bl l 2 % 64 * 64 + bl l 3 % 64) / 4096 % 64 = bl l 1 from by omega, show 128 + (bl l 0 % 8 * 262144 + bl l 1 % 64 * 4096 + bl l 2 % 64 * 64 + bl l 3 % 64) / 64 % 64 = bl l 2 from by omega, show 128 + (bl l 0 % 8 * 262144 + bl l 1 % 64 * 4096 + bl l 2 % 64 * 64 + bl l 3 % 64) % 64 = bl l 3 from by omega]
    rw [Lib.takeD l hn]; unfold bl; rw [← Lib.byteOfM, ← Lib.byteOfM, ← Lib.byteOfM, ← Lib.byteOfM]
theorem flat_gL : ∀ (f : Nat) (l : List UInt8), l.length ≤ f → Lib.validD l = true → flatL (gL f l) = l
  | 0, l, h, _ => by
    have : l = [] := List.eq_nil_of_length_eq_zero (by omega)
    subst this; simp [gL, flatL]
  | f + 1, l, h, hv => by
    rw [gL]
    by_cases hl : l = []
    · rw [if_pos hl, hl]; rfl
    · rw [if_neg hl, flatL_cons]
      rw [Lib.validD_step l hl] at hv
      have hne : dl l ≠ (65533, 1) := by
        intro e
        have e2 : Lib.decodeL l = (65533, 1) := e
        rw [e2] at hv; simp at hv
      have hw := dl_wide l hl
      have e3 : (Lib.decodeL l).2 = (dl l).2 := rfl
      split at hv
      · simp at hv
      · rw [e3] at hv
        rw [enc_dl l hne hl, flat_gL f (l.drop (dl l).2) (by rw [List.length_drop]; omega) hv, List.take_append_drop]
/-- A byte of no rune's inside stands for itself at the end, too. -/
theorem dl_snoc (l : List UInt8) (hl : l ≠ []) (c : UInt8) (hc : c.toNat < 128) : dl (l ++ [c]) = dl l := by
  have hw := dl_wide (l ++ [c]) (by simp)
  have hlen : 1 ≤ l.length := by cases l; exact absurd rfl hl; simp
  have hbc : bl (l ++ [c]) l.length = c.toNat := by unfold bl; simp [List.getD]
  have hle : (dl (l ++ [c])).2 ≤ l.length := by
    have hp := decN_parts (l ++ [c]).length (bl (l ++ [c]) 0) (bl (l ++ [c]) 1) (bl (l ++ [c]) 2) (bl (l ++ [c]) 3)
    rw [← dl_eq] at hp
    rw [List.length_append, List.length_singleton] at hw hp
    rcases hp with ⟨h1, e⟩ | ⟨h1, e⟩ | ⟨hn, h1, h2, hv, e⟩ | ⟨hn, h1, h2, h3, hv, hv2, e⟩ | ⟨hn, h1, h2, h3, h4, hv, hv2, e⟩
    · rw [e]; exact hlen
    · rw [e]; exact hlen
    · rw [e] at hw ⊢
      dsimp only at hw ⊢
      by_cases h : l.length = 1
      · rw [h] at hbc; omega
      · omega
    · rw [e] at hw ⊢
      dsimp only at hw ⊢
      by_cases h : l.length = 2
      · rw [h] at hbc; omega
      · omega
    · rw [e] at hw ⊢
      dsimp only at hw ⊢
      by_cases h : l.length = 3
      · rw [h] at hbc; omega
      · omega
  have := dl_pre (l ++ [c]) (by simp) l.length hle
  rw [List.take_left] at this
  exact this.symm
theorem valid_snoc : ∀ (f : Nat) (l : List UInt8), l.length ≤ f → ∀ (c : UInt8), c.toNat < 128 → Lib.validD (l ++ [c]) = Lib.validD l
  | 0, l, h, c, hc => by
    have : l = [] := List.eq_nil_of_length_eq_zero (by omega)
    subst this
    rw [List.nil_append, Lib.validD_cons c [] hc]
  | f + 1, l, h, c, hc => by
    by_cases hl : l = []
    · subst hl
      rw [List.nil_append, Lib.validD_cons c [] hc]
    · have e : Lib.decodeL (l ++ [c]) = Lib.decodeL l := dl_snoc l hl c hc
      have hw : 1 ≤ (Lib.decodeL l).2 ∧ (Lib.decodeL l).2 ≤ l.length := dl_wide l hl
      rw [Lib.validD_step _ (by simp), Lib.validD_step l hl, e, List.drop_append_of_le_length hw.2, valid_snoc f (l.drop (Lib.decodeL l).2) (by rw [List.length_drop]; omega) c hc]
end Go.Proofs.YtdckdhbnfakleaaDoor
