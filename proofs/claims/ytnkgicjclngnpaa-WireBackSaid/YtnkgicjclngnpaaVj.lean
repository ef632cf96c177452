/- Layer 3 (wire): the statement that what was put is read as it was. -/
import Derived.Test.YtnkgicjclngnpaaVi
namespace Go.Proofs.Ytnkgicjclngnpaa
open Go.RowKit

theorem back_num (n : Nat) (r : List UInt8) (h : n < 4611686018427387904) : cntS (put n ++ r) 0 0 9223372036854775807 = (n, (put n).length, 0) := by
  unfold cntS
  rw [if_neg (by simp), List.drop_zero, rd_put n r h]
  dsimp only
  rw [if_pos rfl, if_neg (by omega), Nat.zero_add]
theorem back_cnt (p : List UInt8) (k : Nat) (r : List UInt8) (h : k < 4611686018427387904) : cntS (p ++ (put k ++ r)) p.length 0 k = (k, p.length + (put k).length, 0) := by
  unfold cntS
  rw [if_neg (by simp), List.drop_left, rd_put k r h]
  dsimp only
  rw [if_pos rfl, if_neg (by omega)]
theorem back_txt (p t r : List UInt8) (h : t.length < 4611686018427387904) : txtS (p ++ (put t.length ++ (t ++ r))) p.length 0 t.length = (t, (p ++ put t.length ++ t).length, 0) := by
  unfold txtS
  rw [back_cnt p t.length (t ++ r) h]
  dsimp only
  rw [if_neg (by simp; omega)]
  rw [show p ++ (put t.length ++ (t ++ r)) = (p ++ put t.length) ++ (t ++ r) from by simp, show p.length + (put t.length).length = (p ++ put t.length).length from by simp, List.drop_left, List.take_left]
  simp [Nat.add_assoc]

set_option maxHeartbeats 4000000 in
theorem back_some (n : Nat) (s : ByteArray) (v : Value) (r : List UInt8) (hn : n < 4611686018427387904) (hs : s.size ≤ 1000) (hr : r.length ≤ 1000) (w : World) (h : BS w v r) :
    Calls Try.prog 5 #[.int .i64 n, .string s, v] w fun e w' => e = .returned (.bool true) ∧ Below w.heap.size w w' := by
  obtain ⟨va, vc, rfl⟩ := h.form
  have hp1 := put_len n
  have hp2 := put_len s.size
  have HB := Hid.mk' h
  clear h
  have hL : ∀ L, L = put n ++ put s.size ++ s.data.toList → L.length ≤ 1020 := by intro L e; rw [e, List.length_append, List.length_append, len_data]; omega
  obtain ⟨F, hF⟩ : ∃ F, F = put n ++ put s.size ++ s.data.toList := ⟨_, rfl⟩
  have hFl := hL F hF
  have e0 : F ++ r = put n ++ (put s.size ++ (s.data.toList ++ r)) := by rw [hF]; simp
  have e1 : cntS (F ++ r) 0 0 9223372036854775807 = (n, (put n).length, 0) := by rw [e0]; exact back_num n _ hn
  have e2 : txtS (F ++ r) (put n).length 0 s.size = (s.data.toList, F.length, 0) := by
    have := back_txt (put n) s.data.toList r (by rw [len_data]; omega)
    rw [len_data] at this
    rw [e0, this, hF]
  have e3 : ((F ++ r).length : Int) - (F.length : Int) = (r.length : Int) := by rw [List.length_append]; omega
  have HE := Hid.mk' (And.intro hF (And.intro e1 (And.intro e2 e3)))
  have hall : (F ++ r).length ≤ 100000 := by rw [List.length_append]; omega
  have hpF : (put n).length ≤ (F ++ r).length := by rw [e0, List.length_append]; omega
  have hFF : F.length ≤ (F ++ r).length := by rw [List.length_append]; omega
  have hni : (n : Int) < 4611686018427387904 := by omega
  have hn0 : (0 : Int) ≤ (n : Int) := by omega
  obtain ⟨z, hz⟩ : ∃ z : Int, (n : Int) = z := ⟨_, rfl⟩
  have HZ := Hid.mk' hz
  rw [hz] at hni hn0 ⊢
  have P1 := Hid.mk' (fun w => put_any (.slice none 0 0) [] z (by omega) (by simp) w (BS.nil w))
  have HZN := Hid.mk' (show z.toNat = n by omega)
  clear hF hL e0 e1 e2 e3 hn hz
  go_enter Try.func5, Try.ntmps5
  go_wp2_with fail
  refine (P1.out _).mono ?_; rintro e w1 ⟨v1, rfl, hO1, hb1⟩
  rw [List.nil_append, HZN.out] at hO1
  have H1 := Hid.mk' (And.intro hO1.bs hb1)
  clear hO1 hb1
  go_wp2_with fail
  refine (text_any _ (put n) s (by omega) (by omega) _ H1.out.1).mono ?_; rintro e w2 ⟨v2, rfl, hO2, hb2⟩
  rw [← HE.out.1] at hO2
  have hO2' : BO w2 w.heap.size v2 F := hO2.base H1.out.2.size
  obtain ⟨v2a, v2c, rfl⟩ := hO2'.bs.form
  have H2 := Hid.mk' (And.intro hO2' (bnext H1.out.2 hb2))
  clear hO2 hO2' hb2 H1
  go_wp2_with (at_builtin; refine wpList_append_bs rfl (.tmp 32) (.tmp 33) rfl w.heap.size (.slice v2a F.length v2c) _ F r rfl rfl H2.out.1 (HB.out.next H2.out.2) (by omega) H2.out.2.size ?_; intro v3 w3 hO3 hgr3)
  have hb3 : Below w.heap.size w w3 := H2.out.2.grown hgr3 H2.out.2.size (fun k hk => (H2.out.1.lt k hk).1)
  have H3 := Hid.mk' (And.intro hO3.bs hb3)
  clear hO3 hb3 hgr3 H2
  go_wp2_with fail
  refine (newr_any _ (F ++ r) hall _ H3.out.1).mono ?_; rintro e w4 ⟨R, vr, rfl, hR, hRw, hA, hb4⟩
  have H4 := Hid.mk' (And.intro hR (And.intro (Nat.le_trans H3.out.2.size hRw) (And.intro hA (bnext H3.out.2 hb4))))
  clear hR hRw hA hb4 H3
  go_wp2_with fail
  have C5 := num_any R vr (F ++ r) 0 0 (Nat.zero_le _) hall H4.out.2.2.1 _ H4.out.1
  rw [HE.out.2.1] at C5
  dsimp only at C5
  rw [HZ.out] at C5
  refine C5.mono ?_; rintro e w5 ⟨rfl, hR5, hg5⟩
  have H5 := Hid.mk' (And.intro hR5 (below_gb H4.out.2.2.2 hg5 H4.out.2.1))
  clear hR5 hg5 C5
  dsimp only at *
  go_wp2_with fail
  have C6 := rtext_any R vr (F ++ r) (put n).length 0 s.size hpF hall H4.out.2.2.1 _ H5.out.1
  rw [HE.out.2.2.1] at C6
  dsimp only at C6
  rw [mkB_of] at C6
  refine C6.mono ?_; rintro e w6 ⟨rfl, hR6, hg6⟩
  have H6 := Hid.mk' (And.intro hR6 (below_gb H5.out.2 hg6 H4.out.2.1))
  clear hR6 hg6 C6 H5
  dsimp only at *
  go_wp2_with fail
  refine (why_any R vr (F ++ r) _ _ _ H6.out.1).mono ?_; rintro e w' ⟨rfl, rfl⟩
  go_wp2_with fail
  refine (at_any R vr (F ++ r) _ _ _ H6.out.1).mono ?_; rintro e w' ⟨rfl, rfl⟩
  go_wp2_with fail
  have C7 := left_any R vr (F ++ r) F.length 0 hFF hall _ H6.out.1
  rw [HE.out.2.2.2] at C7
  refine C7.mono ?_; rintro e w7 ⟨rfl, hb7⟩
  have H7 := Hid.mk' (bnext H6.out.2 hb7)
  clear hb7 C7 H6
  go_wp2_with fail
  refine (alive3_any _).mono ?_; rintro e w8 ⟨rfl, hb8⟩
  have H8 := Hid.mk' (bnext H7.out hb8)
  clear hb8 H7
  go_wp2_with fail
  go_ret
  exact ⟨rfl, H8.out⟩
theorem back_out (n : Int) (s : ByteArray) (v : Value) (r : List UInt8) (hs : s.size ≤ maxLen) (hr : r.length ≤ maxLen) (hg : n < 0 ∨ 4611686018427387904 ≤ n ∨ 1000 < s.size ∨ 1000 < r.length) (w : World) (h : BS w v r) :
    Calls Try.prog 5 #[.int .i64 n, .string s, v] w fun e w' => e = .returned (.bool true) ∧ Below w.heap.size w w' := by
  obtain ⟨va, vc, rfl⟩ := h.form
  unfold maxLen at hs hr
  clear h
  by_cases h1 : n < 0
  · go_enter Try.func5, Try.ntmps5
    go_wp2_with fail
    go_ret
    exact ⟨rfl, Below.refl _ _⟩
  · by_cases h2 : 4611686018427387904 ≤ n
    · go_enter Try.func5, Try.ntmps5
      go_wp2_with fail
      go_ret
      exact ⟨rfl, Below.refl _ _⟩
    · by_cases h3 : 1000 < s.size
      · go_enter Try.func5, Try.ntmps5
        go_wp2_with fail
        go_ret
        exact ⟨rfl, Below.refl _ _⟩
      · have h4 : 1000 < r.length := by omega
        go_enter Try.func5, Try.ntmps5
        go_wp2_with fail
        go_ret
        exact ⟨rfl, Below.refl _ _⟩
theorem backlaw (n : Int) (s : ByteArray) (v : Value) (hs : s.size ≤ maxLen) (w : World) (h : ∃ l, BS w v l ∧ l.length ≤ maxLen) :
    Calls Try.prog 5 #[.int .i64 n, .string s, v] w fun e w' => e = .returned (.bool true) ∧ Below w.heap.size w w' := by
  obtain ⟨r, h, hm⟩ := h
  by_cases hg : n < 0 ∨ 4611686018427387904 ≤ n ∨ 1000 < s.size ∨ 1000 < r.length
  · exact back_out n s v r hs hm hg w h
  · obtain ⟨k, rfl⟩ : ∃ k : Nat, n = (k : Int) := ⟨n.toNat, by omega⟩
    exact back_some k s v r (by omega) (by omega) (by omega) w h
end Go.Proofs.Ytnkgicjclngnpaa
