/- Layer 39 (fold): the chapter's example; the law that it is an order: its walk. -/
import Derived.Test.YtdckdhbnfakleaaDoorFj
namespace Go.Proofs.YtdckdhbnfakleaaDoor
open Go.RowKit

set_option maxRecDepth 100000 in
set_option maxHeartbeats 4000000 in
theorem alive39_any (w : World) : Calls Tryd.prog 11 #[] w fun e w' => e = .returned (.bool true) ∧ Below w.heap.size w w' := by
  have e1 : Below w.heap.size w (w.alloc (.cells #[.string ⟨#[110, 49, 48]⟩, .string ⟨#[78, 57]⟩, .string ⟨#[110, 49]⟩] 9)) := (Below.refl _ _).alloc (Nat.le_refl _) _
  have t1 : T3 (w.alloc (.cells #[.string ⟨#[110, 49, 48]⟩, .string ⟨#[78, 57]⟩, .string ⟨#[110, 49]⟩] 9)) w.heap.size ⟨#[110, 49, 48]⟩ ⟨#[78, 57]⟩ ⟨#[110, 49]⟩ := by
    have hb := Bx.fresh w 9 #[.string ⟨#[110, 49, 48]⟩, .string ⟨#[78, 57]⟩, .string ⟨#[110, 49]⟩]
    exact ⟨hb.read (i := 0) rfl, hb.read (i := 1) rfl, hb.read (i := 2) rfl⟩
  have C1 := Hid.mk' (sort3 w.heap.size 3 ⟨#[110, 49, 48]⟩ ⟨#[78, 57]⟩ ⟨#[110, 49]⟩ (by decide) (by decide) (by decide) ex_10 ex_20 ex_21 (by decide +kernel) (by decide +kernel) _ t1)
  have C2 := Hid.mk' (same_yes ⟨#[65, 98]⟩ ⟨#[97, 66]⟩ (by decide) (by decide) ex_same)
  have C3 := Hid.mk' (fun (g k : Nat) (W : World) (h : T3 W g ⟨#[110, 49]⟩ ⟨#[78, 57]⟩ ⟨#[110, 49, 48]⟩) => equal3_yes g W.heap.size k 3 ⟨#[110, 49]⟩ ⟨#[78, 57]⟩ ⟨#[110, 49, 48]⟩ (W.alloc (.cells #[.string ⟨#[110, 49]⟩, .string ⟨#[78, 57]⟩, .string ⟨#[110, 49, 48]⟩] 9)) (h.next ((Below.refl _ _).alloc (Nat.le_refl _) _)) (by
    have hb := Bx.fresh W 9 #[.string ⟨#[110, 49]⟩, .string ⟨#[78, 57]⟩, .string ⟨#[110, 49, 48]⟩]
    exact ⟨hb.read (i := 0) rfl, hb.read (i := 1) rfl, hb.read (i := 2) rfl⟩))
  have H1 := Hid.mk' e1
  clear e1 t1
  go_enter Tryd.func11, Tryd.ntmps11
  go_wp2_with fail
  refine C1.out.mono ?_; rintro e w1 ⟨g, k, rfl, ht, hb1⟩
  have C4 := Hid.mk' (C3.out g k w1 ht)
  have H2 := Hid.mk' ((bnext H1.out hb1).alloc (bnext H1.out hb1).size (.cells #[.string ⟨#[110, 49]⟩, .string ⟨#[78, 57]⟩, .string ⟨#[110, 49, 48]⟩] 9))
  clear ht hb1 C1 C3
  go_wp2_with fail
  refine C4.out.mono ?_; rintro e w2 ⟨rfl, hb2⟩
  have H3 := Hid.mk' (bnext H2.out hb2)
  clear hb2 C4
  go_wp2_with fail
  refine (C2.out _).mono ?_; rintro e w3 ⟨rfl, hb3⟩
  have H4 := Hid.mk' (bnext H3.out hb3)
  clear hb3
  go_wp2_with fail
  go_ret
  exact ⟨rfl, H4.out⟩
set_option maxRecDepth 100000 in
set_option maxHeartbeats 4000000 in
theorem great_no (g k : Nat) (a b c : ByteArray) (ha : a.size ≤ 200) (hb : b.size ≤ 200) (hc : c.size ≤ 200) (w : World) (h : T3 w g a b c) :
    Calls Tryd.prog 12 #[.slice (some ⟨g, 0, none⟩) 3 k] w fun e w' => e = .returned (.bool false) ∧ w = w' := by
  obtain ⟨x0, x1, x2⟩ := h
  have y0 : ¬ (200 : Int) < (a.size : Int) := by omega
  have y1 : ¬ (200 : Int) < (b.size : Int) := by omega
  have y2 : ¬ (200 : Int) < (c.size : Int) := by omega
  go_enter Tryd.func12, Tryd.ntmps12
  go_wp2_with fail
  go_loopw [3] (fun i wr => ∃ k : Nat, i = .int .i64 k ∧ k ≤ 3 ∧ wr = w) (fun i _ => 3 - (intOf i).toNat)
  case atStart => exact ⟨0, rfl, by omega, rfl⟩
  case round =>
    obtain ⟨k, rfl, hk, rfl⟩ := hrel
    rcases (show k = 0 ∨ k = 1 ∨ k = 2 ∨ k = 3 from by omega) with rfl | rfl | rfl | rfl
    · go_wp2_with fail
      go_roundw
      case rel => exact ⟨1, by go_num, by omega, by first | rfl | trivial⟩
      case measure => simp [intOf]
    · go_wp2_with fail
      go_roundw
      case rel => exact ⟨2, by go_num, by omega, by first | rfl | trivial⟩
      case measure => simp [intOf]
    · go_wp2_with fail
      go_roundw
      case rel => exact ⟨3, by go_num, by omega, by first | rfl | trivial⟩
      case measure => simp [intOf]
    · go_wp2_with fail
      go_ret
      exact ⟨rfl, rfl⟩
set_option maxRecDepth 100000 in
set_option maxHeartbeats 4000000 in
theorem great_yes (g k : Nat) (a b c : ByteArray) (hg : 200 < a.size ∨ 200 < b.size ∨ 200 < c.size) (w : World) (h : T3 w g a b c) :
    Calls Tryd.prog 12 #[.slice (some ⟨g, 0, none⟩) 3 k] w fun e w' => e = .returned (.bool true) ∧ w = w' := by
  obtain ⟨x0, x1, x2⟩ := h
  have hc : (200 : Int) < (a.size : Int) ∨ (¬ (200 : Int) < (a.size : Int) ∧ (200 : Int) < (b.size : Int)) ∨ (¬ (200 : Int) < (a.size : Int) ∧ ¬ (200 : Int) < (b.size : Int) ∧ (200 : Int) < (c.size : Int)) := by omega
  clear hg
  rcases hc with y0 | ⟨y0, y1⟩ | ⟨y0, y1, y2⟩
  · go_enter Tryd.func12, Tryd.ntmps12
    go_wp2_with fail
    go_loopw [3] (fun i wr => i = .int .i64 0 ∧ wr = w) (fun i _ => 3 - (intOf i).toNat)
    case atStart => exact ⟨rfl, rfl⟩
    case round =>
      obtain ⟨rfl, rfl⟩ := hrel
      go_wp2_with fail
      go_ret
      exact ⟨rfl, rfl⟩
  · go_enter Tryd.func12, Tryd.ntmps12
    go_wp2_with fail
    go_loopw [3] (fun i wr => ∃ k : Nat, i = .int .i64 k ∧ k ≤ 1 ∧ wr = w) (fun i _ => 3 - (intOf i).toNat)
    case atStart => exact ⟨0, rfl, by omega, rfl⟩
    case round =>
      obtain ⟨k, rfl, hk, rfl⟩ := hrel
      rcases (show k = 0 ∨ k = 1 from by omega) with rfl | rfl
      · go_wp2_with fail
        go_roundw
        case rel => exact ⟨1, by go_num, by omega, by first | rfl | trivial⟩
        case measure => simp [intOf]
      · go_wp2_with fail
        go_ret
        exact ⟨rfl, rfl⟩
  · go_enter Tryd.func12, Tryd.ntmps12
    go_wp2_with fail
    go_loopw [3] (fun i wr => ∃ k : Nat, i = .int .i64 k ∧ k ≤ 2 ∧ wr = w) (fun i _ => 3 - (intOf i).toNat)
    case atStart => exact ⟨0, rfl, by omega, rfl⟩
    case round =>
      obtain ⟨k, rfl, hk, rfl⟩ := hrel
      rcases (show k = 0 ∨ k = 1 ∨ k = 2 from by omega) with rfl | rfl | rfl
      · go_wp2_with fail
        go_roundw
        case rel => exact ⟨1, by go_num, by omega, by first | rfl | trivial⟩
        case measure => simp [intOf]
      · go_wp2_with fail
        go_roundw
        case rel => exact ⟨2, by go_num, by omega, by first | rfl | trivial⟩
        case measure => simp [intOf]
      · go_wp2_with fail
        go_ret
        exact ⟨rfl, rfl⟩
theorem t3_fresh (w : World) (a b c : ByteArray) : T3 (w.alloc (.cells #[.string a, .string b, .string c] 9)) w.heap.size a b c := by
  have hb := Bx.fresh w 9 #[.string a, .string b, .string c]
  exact ⟨hb.read (i := 0) rfl, hb.read (i := 1) rfl, hb.read (i := 2) rfl⟩
set_option maxRecDepth 100000 in
set_option maxHeartbeats 4000000 in
theorem orderlaw (a b c : ByteArray) (_ : a.size ≤ maxLen) (_ : b.size ≤ maxLen) (_ : c.size ≤ maxLen) (w : World) : Calls Tryd.prog 5 #[.string a, .string b, .string c] w fun e w' => e = .returned (.bool true) ∧ Below w.heap.size w w' := by
  have e1 : Below w.heap.size w (w.alloc (.cells #[.string a, .string b, .string c] 9)) := (Below.refl _ _).alloc (Nat.le_refl _) _
  have H1 := Hid.mk' e1
  clear e1
  by_cases hg : 200 < a.size ∨ 200 < b.size ∨ 200 < c.size
  · have C := Hid.mk' (great_yes w.heap.size 3 a b c hg _ (t3_fresh w a b c))
    clear hg
    go_enter Tryd.func5, Tryd.ntmps5
    go_wp2_with fail
    refine C.out.mono ?_; rintro e w1 ⟨rfl, rfl⟩
    go_wp2_with fail
    go_ret
    exact ⟨rfl, H1.out⟩
  · have ha : a.size ≤ 200 := by omega
    have hb : b.size ≤ 200 := by omega
    have hc : c.size ≤ 200 := by omega
    have C := Hid.mk' (great_no w.heap.size 3 a b c ha hb hc _ (t3_fresh w a b c))
    have N1 := natural_any a b (by omega) (by omega)
    have N2 := natural_any b c (by omega) (by omega)
    have N3 := natural_any a c (by omega) (by omega)
    have N4 := natural_any b a (by omega) (by omega)
    rw [to_nat.anti a b] at N4
    have hx := to_nat.bd a b
    have hs := nat_same a b
    have htr := to_nat.tr a b c
    have heq : ((natS a b == 0) = true ∧ (a.toList == b.toList) = true) ∨ ((natS a b == 0) = false ∧ (a.toList == b.toList) = false) := by
      by_cases h : a = b
      · left; subst h; exact ⟨by rw [hs.2 rfl]; rfl, by simp⟩
      · right
        refine ⟨by rw [beq_eq_false_iff_ne]; exact fun e => h (hs.1 e), ?_⟩
        rw [beq_eq_false_iff_ne, ByteArray.toList_eq, ByteArray.toList_eq]
        exact fun e => h (bytes_inj' e)
    clear hs hg ha hb hc
    generalize natS a b = x at *
    generalize natS b c = y at *
    generalize natS a c = z at *
    have hneg : IntKind.i64.wrap (-x) = -x := IntWalk.i64_in _ (by omega)
    have hne : (-x != -x) = false := by simp
    have hor : 0 < x ∨ (¬ 0 < x ∧ 0 < y) ∨ (¬ 0 < x ∧ ¬ 0 < y ∧ z ≤ 0) := by
      by_cases h1 : 0 < x
      · exact .inl h1
      · by_cases h2 : 0 < y
        · exact .inr (.inl ⟨h1, h2⟩)
        · exact .inr (.inr ⟨h1, h2, htr (by omega) (by omega)⟩)
    have N1' := Hid.mk' N1
    have N2' := Hid.mk' N2
    have N3' := Hid.mk' N3
    have N4' := Hid.mk' N4
    have HO := Hid.mk' hor
    have HX := Hid.mk' heq
    clear N1 N2 N3 N4 htr hor heq
    go_enter Tryd.func5, Tryd.ntmps5
    go_wp2_with fail
    refine C.out.mono ?_; rintro e w1 ⟨rfl, rfl⟩
    clear C
    go_wp2_with fail
    refine (N1'.out _).mono ?_; rintro e w2 ⟨rfl, hb2⟩
    have H2 := Hid.mk' (bnext H1.out hb2)
    clear hb2
    go_wp2_with fail
    refine (N2'.out _).mono ?_; rintro e w3 ⟨rfl, hb3⟩
    have H3 := Hid.mk' (bnext H2.out hb3)
    clear hb3
    go_wp2_with fail
    refine (N3'.out _).mono ?_; rintro e w4 ⟨rfl, hb4⟩
    have H4 := Hid.mk' (bnext H3.out hb4)
    clear hb4
    go_wp2_with fail
    refine (N4'.out _).mono ?_; rintro e w5 ⟨rfl, hb5⟩
    have H5 := Hid.mk' (bnext H4.out hb5)
    clear hb5
    rcases HX.out with ⟨q1, q2⟩ | ⟨q1, q2⟩
    all_goals
      rcases HO.out with r1 | ⟨r1, r2⟩ | ⟨r1, r2, r3⟩
      all_goals
        go_wp2_with fail
        refine (alive39_any _).mono ?_; rintro e w6 ⟨rfl, hb6⟩
        have H6 := Hid.mk' (bnext H5.out hb6)
        clear hb6
        go_wp2_with fail
        go_ret
        exact ⟨rfl, H6.out⟩
end Go.Proofs.YtdckdhbnfakleaaDoor
