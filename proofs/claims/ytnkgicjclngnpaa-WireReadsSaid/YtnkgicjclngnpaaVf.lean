/- Layer 3 (wire): a reader made; the chapter's example; the statement on bytes of numbers and texts. -/
import Derived.Test.YtnkgicjclngnpaaVe
import Derived.Test.YtnkgicjclngnpaaVo
namespace Go.Proofs.Ytnkgicjclngnpaa
open Go.RowKit

/-- A reader of bytes: they, how many are read, the fault. -/
def Rdr (w : World) (R : Nat) (v : Value) (l : List UInt8) (at_ : Nat) (why : Int) : Prop := Bx w R 72 #[v, .int .i64 at_, .int .i64 why] ∧ BS w v l
theorem newr_any (v : Value) (l : List UInt8) (hl : l.length ≤ 100000) (w : World) (h : BS w v l) :
    Calls Try.prog 16 #[v] w fun e w' => ∃ R vr, e = .returned (.pointer (some ⟨R, 0, none⟩)) ∧ Rdr w' R vr l 0 0 ∧ w.heap.size ≤ R ∧ (∀ k, vr.ownBlock = some k → k < R) ∧ Below w.heap.size w w' := by
  have C := Hid.mk' (bclone_any v l hl w h)
  clear h
  go_enter Try.func16, Try.ntmps16
  go_wp2_with fail
  refine (C.out).mono ?_; rintro e w1 ⟨v1, rfl, hO, hb1⟩
  have hlt : ∀ k, v1.ownBlock = some k → k < w1.heap.size := fun k hk => (hO.lt k hk).2
  have hbs := hO.bs
  obtain ⟨a, cap, rfl⟩ := hbs.form
  have H := Hid.mk' (And.intro hlt (And.intro hbs hb1))
  clear hO hlt hbs hb1
  go_wp2_with fail
  go_ret
  exact ⟨_, _, rfl, ⟨Bx.fresh _ _ _, H.out.2.1.next ((Below.refl _ _).alloc (Nat.le_refl _) _)⟩, H.out.2.2.size, H.out.1, H.out.2.2.alloc H.out.2.2.size _⟩
theorem ex_put (w : World) : Calls Try.prog 13 #[.slice none 0 0, .int .i64 300] w (Made w [130, 44]) := by
  have := put_any (.slice none 0 0) [] 300 (by omega) (by simp) w (BS.nil w)
  rw [show ([] : List UInt8) ++ put (300 : Int).toNat = [130, 44] from by decide] at this
  exact this
theorem ex_lit (w : World) : BS (w.alloc (.cells #[.int .u8 130, .int .u8 44] 5)) (.slice (some ⟨w.heap.size, 0, none⟩) 2 2) [130, 44] :=
  BO.bs (B := w.heap.size) (World.ownsRow_lit w #[.int .u8 130, .int .u8 44] 2 (Nat.le_refl _) (by decide) rfl)
set_option maxHeartbeats 1000000 in
theorem alive3_any (w : World) : Calls Try.prog 15 #[] w fun e w' => e = .returned (.bool true) ∧ Below w.heap.size w w' := by
  go_enter Try.func15, Try.ntmps15
  go_wp2_with fail
  refine (ex_put _).mono ?_; rintro e w1 ⟨v1, rfl, hO, hb1⟩
  have h2 := hO.bs.next (w' := w1.alloc (.cells #[.int .u8 130, .int .u8 44] 5)) ((Below.refl _ _).alloc (Nat.le_refl _) _)
  have h3 := ex_lit w1
  have hb2 := hb1.alloc hb1.size (.cells #[.int .u8 130, .int .u8 44] 5)
  have H := Hid.mk' (And.intro h2 (And.intro h3 hb2))
  clear hO hb1 h2 h3 hb2
  go_wp2_with fail
  refine (equal_yes _ _ _ (by simp) _ H.out.1 H.out.2.1).mono ?_; rintro e w3 ⟨rfl, hb3⟩
  have H3 := Hid.mk' (bnext H.out.2.2 hb3)
  clear hb3 H
  go_wp2_with fail
  refine (newr_any _ [] (by simp) _ (BS.nil _)).mono ?_; rintro e w4 ⟨R, vr, rfl, _, _, _, hb4⟩
  have H4 := Hid.mk' (bnext H3.out hb4)
  clear hb4 H3
  go_wp2_with fail
  go_ret
  exact ⟨rfl, H4.out⟩

set_option maxHeartbeats 2000000 in
theorem puts_some (v : Value) (l : List UInt8) (n : Int) (s : ByteArray) (hl : l.length ≤ 1000) (hs : s.size ≤ 1000) (hn : n ≤ 9223372036854775807) (w : World) (h : BS w v l) :
    Calls Try.prog 3 #[v, .int .i64 n, .string s] w fun e w' => e = .returned (.bool true) ∧ Below w.heap.size w w' := by
  obtain ⟨va, vc, rfl⟩ := h.form
  have hp1 := put_len n.toNat
  have hp2 := put_len s.size
  have HB := Hid.mk' h
  clear h
  go_enter Try.func3, Try.ntmps3
  go_wp2_with fail
  refine (sclone_any _ l (by omega) _ HB.out).mono ?_; rintro e w1 ⟨v1, rfl, hO1, hb1⟩
  have H1 := Hid.mk' (And.intro hO1 hb1)
  clear hO1 hb1
  go_wp2_with fail
  refine (refput_any n hn _).mono ?_; rintro e w2 ⟨v2, rfl, hO2, hb2⟩
  have H2 := Hid.mk' (And.intro (H1.out.1.next hb2) (And.intro hO2.bs (bnext H1.out.2 hb2)))
  clear hO2 hb2 H1
  go_wp2_with (at_builtin; refine wpList_append_bs rfl (.tmp 18) (.tmp 20) rfl w.heap.size v1 _ l (put n.toNat) rfl rfl H2.out.1 H2.out.2.1 (by omega) H2.out.2.2.size ?_; intro v3 w3 hO3 hgr3)
  have hb3 : Below w.heap.size w w3 := H2.out.2.2.grown hgr3 H2.out.2.2.size (fun k hk => (H2.out.1.lt k hk).1)
  have H3 := Hid.mk' (And.intro hO3 hb3)
  have hb3size := Hid.mk' hb3.size
  clear hO3 hb3 hgr3 H2
  go_wp2_with fail
  refine (sclone_any _ l (by omega) _ (HB.out.next H3.out.2)).mono ?_; rintro e w4 ⟨v4, rfl, hO4, hb4⟩
  have HV := Hid.mk' (show ∀ k, v3.ownBlock = some k → k < w3.heap.size from fun k hk => (H3.out.1.lt k hk).2)
  have H4 := Hid.mk' (And.intro (H3.out.1.next hb4) (And.intro hO4 (And.intro (bnext H3.out.2 hb4) hb4.size)))
  clear hO4 hb4 H3
  go_wp2_with fail
  refine (reftext_any s (by omega) _).mono ?_; rintro e w5 ⟨v5, rfl, hO5, hb5⟩
  have H5 := Hid.mk' (And.intro (H4.out.1.next hb5) (And.intro (H4.out.2.1.next hb5) (And.intro hO5.bs (And.intro (bnext H4.out.2.2.1 hb5) (Nat.le_trans H4.out.2.2.2 hb5.size)))))
  have HX := Hid.mk' (show w.heap.size ≤ w3.heap.size from Nat.le_trans (by have := H4.out.2.2.1.size; exact hb3size.out) (Nat.le_refl _))
  clear hO5 hb5 H4
  go_wp2_with (at_builtin; refine wpList_append_bs rfl (.tmp 23) (.tmp 25) rfl w3.heap.size v4 _ l (put s.size ++ s.data.toList) rfl rfl H5.out.2.1 H5.out.2.2.1 (by rw [List.length_append, len_data]; omega) H5.out.2.2.2.2 ?_; intro v6 w6 hO6 hgr6)
  have hb6 : Below w.heap.size w w6 := H5.out.2.2.2.1.grown hgr6 H5.out.2.2.2.1.size (fun k hk => Nat.le_trans HX.out (H5.out.2.1.lt k hk).1)
  have hx6 : BS w6 v3 (l ++ put n.toNat) := BO.bs (B := w.heap.size) (World.ownsRow.kept H5.out.1 hgr6 (by
    cases hv : v3.ownBlock with
    | none => exact .inl rfl
    | some k =>
      right
      intro hk
      have h1 := HV.out k hv
      have h2 := (H5.out.2.1.lt k hk.symm).1
      omega))
  have H6 := Hid.mk' (And.intro hx6 (And.intro hO6.bs hb6))
  clear hx6 hO6 hb6 hgr6 H5
  go_wp2_with fail
  refine (sclone_any _ l (by omega) _ (HB.out.next H6.out.2.2)).mono ?_; rintro e w7 ⟨v7, rfl, hO7, hb7⟩
  have H7 := Hid.mk' (And.intro (H6.out.1.next hb7) (And.intro (H6.out.2.1.next hb7) (And.intro hO7.bs (bnext H6.out.2.2 hb7))))
  clear hO7 hb7 H6
  go_wp2_with fail
  refine (put_any _ l n hn (by omega) _ H7.out.2.2.1).mono ?_; rintro e w8 ⟨v8, rfl, hO8, hb8⟩
  have H8 := Hid.mk' (And.intro (H7.out.1.next hb8) (And.intro (H7.out.2.1.next hb8) (And.intro hO8.bs (bnext H7.out.2.2.2 hb8))))
  clear hO8 hb8 H7
  go_wp2_with fail
  refine (equal_yes _ _ _ (by rw [List.length_append]; omega) _ H8.out.2.2.1 H8.out.1).mono ?_; rintro e w9 ⟨rfl, hb9⟩
  have H9 := Hid.mk' (And.intro (H8.out.2.1.next hb9) (bnext H8.out.2.2.2 hb9))
  clear hb9 H8
  go_wp2_with fail
  refine (sclone_any _ l (by omega) _ (HB.out.next H9.out.2)).mono ?_; rintro e w10 ⟨v10, rfl, hO10, hb10⟩
  have H10 := Hid.mk' (And.intro (H9.out.1.next hb10) (And.intro hO10.bs (bnext H9.out.2 hb10)))
  clear hO10 hb10 H9
  go_wp2_with fail
  refine (text_any _ l s (by omega) (by omega) _ H10.out.2.1).mono ?_; rintro e w11 ⟨v11, rfl, hO11, hb11⟩
  have H11 := Hid.mk' (And.intro (H10.out.1.next hb11) (And.intro hO11.bs (bnext H10.out.2.2 hb11)))
  clear hO11 hb11 H10
  go_wp2_with fail
  refine (equal_yes _ _ (l ++ put s.size ++ s.data.toList) (by rw [List.length_append, List.length_append, len_data]; omega) _ H11.out.2.1 (by rw [List.append_assoc]; exact H11.out.1)).mono ?_; rintro e w12 ⟨rfl, hb12⟩
  have H12 := Hid.mk' (bnext H11.out.2.2 hb12)
  clear hb12 H11
  go_wp2_with fail
  refine (alive3_any _).mono ?_; rintro e w13 ⟨rfl, hb13⟩
  have H13 := Hid.mk' (bnext H12.out hb13)
  clear hb13 H12
  go_wp2_with fail
  go_ret
  exact ⟨rfl, H13.out⟩
theorem puts_great (v : Value) (l : List UInt8) (n : Int) (s : ByteArray) (hm : l.length ≤ maxLen) (hs : s.size ≤ maxLen) (hg : 1000 < l.length ∨ 1000 < s.size) (w : World) (h : BS w v l) :
    Calls Try.prog 3 #[v, .int .i64 n, .string s] w fun e w' => e = .returned (.bool true) ∧ Below w.heap.size w w' := by
  obtain ⟨va, vc, rfl⟩ := h.form
  unfold maxLen at hm hs
  clear h
  by_cases h1 : 1000 < l.length
  · go_enter Try.func3, Try.ntmps3
    go_wp2_with fail
    go_ret
    exact ⟨rfl, Below.refl _ _⟩
  · have h2 : 1000 < s.size := by omega
    go_enter Try.func3, Try.ntmps3
    go_wp2_with fail
    go_ret
    exact ⟨rfl, Below.refl _ _⟩
theorem i64_top {n : Int} (h : (Lit.int .i64 n).wf = true) : n ≤ 9223372036854775807 := by
  have h2 : (decide (IntKind.i64.min ≤ n) && decide (n ≤ IntKind.i64.max)) = true := h
  rw [Bool.and_eq_true, decide_eq_true_eq, decide_eq_true_eq, show IntKind.i64.max = 9223372036854775807 from by decide] at h2
  exact h2.2
theorem putslaw (v : Value) (n : Int) (s : ByteArray) (hn : n ≤ 9223372036854775807) (hs : s.size ≤ maxLen) (w : World) (h : ∃ l, BS w v l ∧ l.length ≤ maxLen) :
    Calls Try.prog 3 #[v, .int .i64 n, .string s] w fun e w' => e = .returned (.bool true) ∧ Below w.heap.size w w' := by
  obtain ⟨l, h, hm⟩ := h
  by_cases hg : 1000 < l.length ∨ 1000 < s.size
  · exact puts_great v l n s hm hs hg w h
  · exact puts_some v l n s (by omega) (by omega) hn w h
end Go.Proofs.Ytnkgicjclngnpaa
