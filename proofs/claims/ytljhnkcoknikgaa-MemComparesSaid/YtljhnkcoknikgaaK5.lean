/- Layer 3 (wire): Put and Text of the document; Text of the code. -/
import Derived.Test.YtljhnkcoknikgaaK4
namespace Go.Proofs.Ytljhnkcoknikgaa
open Go.RowKit

theorem text_any (v : Value) (l : List UInt8) (s : ByteArray) (hs : s.size ≤ 10000) (hl : l.length ≤ 10000) (w : World) (h : BS w v l) :
    Calls Try.prog 86 #[v, .string s] w (Made w (l ++ put s.size ++ s.data.toList)) := by
  obtain ⟨i0, hi, hz0, hz1, hz2⟩ := info_parts b_info
  have HI := Hid.mk' (And.intro hi (And.intro hz0 (And.intro hz1 hz2)))
  clear hi hz0 hz1 hz2
  have hp := put_any v l (s.size : Int) (by omega) hl w h
  rw [Int.toNat_natCast] at hp
  have HP := Hid.mk' hp
  have hpl := put_len s.size
  clear hp h
  go_enter Try.func86, Try.ntmps86
  go_wp2_with fail
  refine (HP.out).mono ?_; rintro e w1 ⟨v1, rfl, hO, hb1⟩
  have H1 := Hid.mk' (And.intro hO hb1)
  clear hO hb1
  have hlen : (l ++ put s.size).length ≤ 10010 := by rw [List.length_append]; omega
  go_wp2_with (at_builtin; refine Lib.wpList_append_own_string _ rfl (.tmp 8) (.tmp 9) 59 9 rfl w.heap.size 5 i0 Try.underlying59 Try.underlying9 HI.out.1 HI.out.2.1 HI.out.2.2.1 HI.out.2.2.2 v1 _ _ rfl H1.out.1 s rfl (by unfold maxLen; omega) (by omega) H1.out.2.size ?_; intro v2 w2 hown2 hgr2 _)
  have hO2 : BO w2 w.heap.size v2 (l ++ put s.size ++ s.data.toList) := by
    unfold BO
    rw [bv_app, List.length_append, len_data]
    exact hown2
  have hb2 : Below w.heap.size w w2 := H1.out.2.grown hgr2 H1.out.2.size (fun k hk => (H1.out.1.lt k hk).1)
  clear hown2 hgr2
  go_wp2_with fail
  go_ret
  exact ⟨_, rfl, hO2, hb2⟩

theorem put_step (n : Nat) (h : 128 ≤ n) (hn : n < 128 ^ 9) : hi (n / 128) = hi (n / 128 / 128) ++ [up (n / 128)] := hi_step _ (by omega) (by omega)
theorem set_last (l : List UInt8) (c d : UInt8) : (bv (l ++ [c])).set l.length (.int .u8 (d.toNat : Int)) = bv (l ++ [d]) := by
  rw [bv_app, bv_app, List.set_append_right _ _ (by rw [bv_len]; omega)]
  simp [bv]
set_option maxHeartbeats 1000000 in
theorem refput_nat (f : Nat) : ∀ (n : Nat) (w : World), n < 128 ^ (f + 1) → n < 9223372036854775808 → Calls Try.prog 93 #[.int .i64 n] w (Made w (put n)) := by
  have small : ∀ (n : Nat) (w : World), n < 128 → Calls Try.prog 93 #[.int .i64 n] w (Made w (put n)) := by
    intro n w hn
    have hv : [Value.int .u8 (n : Int)] = bv (put n) := by
      rw [put_small n hn]; show _ = [Value.int .u8 ((lo n).toNat : Int)]; rw [lo_nat, Nat.mod_eq_of_lt hn]
    have hO : BO (w.alloc (.cells #[.int .u8 (n : Int)] 5)) w.heap.size (.slice (some ⟨w.heap.size, 0, none⟩) 1 1) (put n) := by
      unfold BO
      rw [← hv, put_small n hn]
      exact World.ownsRow_lit w _ 1 (Nat.le_refl _) (by decide) rfl
    have H := Hid.mk' hO
    clear hO hv
    have h0 : (0 : Int) ≤ (n : Int) := by omega
    have h1 : (n : Int) < 128 := by omega
    clear hn
    generalize (n : Int) = z at *
    go_enter Try.func93, Try.ntmps93
    go_wp2_with fail
    go_ret
    exact ⟨_, rfl, H.out, (Below.refl _ _).alloc (Nat.le_refl _) _⟩
  induction f with
  | zero => intro n w hn _; exact small n w (by simpa using hn)
  | succ f ih =>
    intro n w hn hn9
    by_cases h1 : n < 128
    · exact small n w h1
    · obtain ⟨i0, hi, hz0, hz1, hz2⟩ := info_parts b_info
      have HI := Hid.mk' (And.intro hi (And.intro hz0 (And.intro hz1 hz2)))
      clear hi hz0 hz1 hz2
      have IH := ih (n / 128) w (by rw [Nat.pow_succ] at hn; omega) (by omega)
      have HIH := Hid.mk' IH
      have h9 : (128 : Nat) ^ 9 = 9223372036854775808 := by decide
      have hst := put_step n (by omega) (by rw [h9]; exact hn9)
      have HST := Hid.mk' hst
      clear IH ih small hst h9 hn
      have h0 : (128 : Int) ≤ (n : Int) := by omega
      rw [Int.natCast_ediv] at HIH
      have h2 : (n : Int) < 9223372036854775808 := by omega
      have hlo : ((lo n).toNat : Int) = (n : Int) % 128 := by rw [lo_nat]; omega
      have HLO := Hid.mk' hlo
      clear h1 hn9 hlo
      generalize (n : Int) = z at *
      rw [show ((128 : Nat) : Int) = 128 from rfl] at HIH
      go_enter Try.func93, Try.ntmps93
      go_wp2_with fail
      refine (HIH.out).mono ?_; rintro e w1 ⟨v1, rfl, hO, hb1⟩
      obtain ⟨P, hP⟩ : ∃ P, P = hi (n / 128 / 128) := ⟨_, rfl⟩
      have hpl : P.length ≤ 9 := by rw [hP]; exact hiF_len 9 _
      have hO1 : w1.ownsRow w.heap.size 5 1 v1 (P.length + 1) (bv (P ++ [lo (n / 128)])) := by
        have h3 : BO w1 w.heap.size v1 (P ++ [lo (n / 128)]) := by rw [hP]; exact hO
        unfold BO at h3
        rw [List.length_append] at h3
        exact h3
      obtain ⟨g, cap, rfl, hbg, hg⟩ := hO1.form (by omega)
      have c0 := hO1.cellAt P.length (by omega)
      rw [bv_at _ _ (by simp)] at c0
      simp only [List.getElem_append_right (Nat.le_refl _), Nat.sub_self, List.getElem_cons_zero] at c0
      have f0 := hO1.frozenAt P.length
      have hcb : (0 : Int) ≤ ((lo (n / 128)).toNat : Int) ∧ ((lo (n / 128)).toNat : Int) < 128 := by rw [lo_nat]; omega
      have hd : ((up (n / 128)).toNat : Int) = ((lo (n / 128)).toNat : Int) + 128 := by rw [lo_nat, up_nat]; omega
      have hO2 : (w1.setCell ⟨g, P.length, none⟩ (.int .u8 (((lo (n / 128)).toNat : Int) + 128))).ownsRow w.heap.size 5 1 (.slice (some ⟨g, 0, none⟩) (P.length + 1) cap) (P.length + 1) (bv (P ++ [up (n / 128)])) := by
        rw [← set_last P (lo (n / 128)) (up (n / 128)), hd]
        exact (hO1.stored _ _).1
      have hb2 : Below w.heap.size w (w1.setCell ⟨g, P.length, none⟩ (.int .u8 (((lo (n / 128)).toNat : Int) + 128))) := hb1.setCell hbg _
      have H2 := Hid.mk' (And.intro hO2 (And.intro hb2 (And.intro hbg hP)))
      clear hO hO1 hO2 hb1 hb2 hd hP hbg hg
      obtain ⟨hcb1, hcb2⟩ := hcb
      generalize ((lo (n / 128)).toNat : Int) = c at *
      generalize P.length = k at *
      have i0' : (0 : Int) ≤ (k : Int) := by omega
      go_wp2_with (at_builtin; refine wpList_append_own _ rfl (.tmp 22) (.tmp 26) 59 rfl w.heap.size 5 i0 _ 1 1 Try.underlying59 HI.out.1 HI.out.2.1 HI.out.2.2.1 HI.out.2.2.2 rfl (by decide) _ (k + 1) _ rfl (World.ownsRow.alloc H2.out.1 _) ⟨_, 0, none⟩ 1 1 [.int .u8 (z % 128)] rfl rfl ?c1 ?c2 ?c3 ?c4 ?c5 ?_)
      case c1 =>
        have h1 := World.news_of_block (w := (w1.setCell ⟨g, k, none⟩ (.int .u8 (c + 128))).alloc (.cells #[.int .u8 (z % 128)] 5)) (cs := #[.int .u8 (z % 128)]) (t := 5) (fr := (0, 0)) (heap_alloc_new (w1.setCell ⟨g, k, none⟩ (.int .u8 (c + 128))) _)
        simpa using h1
      case c2 => simp [Value.oneCell']
      case c3 => simp only [maxLen]; omega
      case c4 => omega
      case c5 => have := H2.out.2.1.size; simp at this ⊢; omega
      intro v3 w3 hown3 hgr3 _
      obtain ⟨hO2, hb2, hbg, hP⟩ := H2.out
      have hO3 : BO w3 w.heap.size v3 (put n) := by
        have e : put n = P ++ [up (n / 128)] ++ [lo n] := by unfold put; rw [HST.out, hP]
        have el : (put n).length = k + 1 + 1 := by
          have := hO2.1
          rw [bv_len, Nat.mul_one] at this
          rw [e, List.length_append, this]; rfl
        unfold BO
        rw [el, e, bv_app _ [lo n], show bv [lo n] = [Value.int .u8 ((lo n).toNat : Int)] from rfl, HLO.out]
        exact hown3
      have hb3 : Below w.heap.size w w3 := (hb2.alloc hb2.size _).grown hgr3 (by have := hb2.size; simp at this ⊢; omega) (fun j hj => by cases hj; exact hbg)
      clear hO2 hb2 hown3 hgr3 H2 c0 f0
      go_wp2_with fail
      go_ret
      exact ⟨_, rfl, hO3, hb3⟩
theorem refput_any (n : Int) (hn : n ≤ 9223372036854775807) (w : World) : Calls Try.prog 93 #[.int .i64 n] w (Made w (put n.toNat)) := by
  by_cases h0 : n < 0
  · have hv : n.toNat = 0 := by omega
    rw [hv]
    have hO : BO (w.alloc (.cells #[.int .u8 0] 5)) w.heap.size (.slice (some ⟨w.heap.size, 0, none⟩) 1 1) (put 0) := World.ownsRow_lit w #[.int .u8 0] 1 (Nat.le_refl _) (by decide) rfl
    have H := Hid.mk' hO
    clear hO hv
    go_enter Try.func93, Try.ntmps93
    go_wp2_with fail
    go_ret
    exact ⟨_, rfl, H.out, (Below.refl _ _).alloc (Nat.le_refl _) _⟩
  · have hv : (n.toNat : Int) = n := by omega
    have h9 : (128 : Nat) ^ 9 = 9223372036854775808 := by decide
    have := refput_nat 8 n.toNat w (by rw [h9]; omega) (by omega)
    rwa [hv] at this
end Go.Proofs.Ytljhnkcoknikgaa
