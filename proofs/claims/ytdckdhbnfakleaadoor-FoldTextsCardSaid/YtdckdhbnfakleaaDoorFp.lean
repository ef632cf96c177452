/- Layer 39 (fold): the law on texts folded and their chunks: its walk. -/
import Derived.Test.YtdckdhbnfakleaaDoorFn
import Derived.Test.YtdckdhbnfakleaaDoorFk
namespace Go.Proofs.YtdckdhbnfakleaaDoor
open Go.RowKit

theorem CrO.next {w w' : World} {B : Nat} {v : Value} {L : List (ByteArray × Bool)} (h : CrO w B v L) (hb : Below w.heap.size w w') : CrO w' B v L := own_next h hb
theorem CrO.form {w : World} {B : Nat} {v : Value} {L : List (ByteArray × Bool)} (h : CrO w B v L) : ∃ a c, v = .slice a L.length c := by
  rcases h.2 with ⟨rfl, hl⟩ | ⟨g, cap, cur, rfl, _⟩
  · exact ⟨none, 0, by rw [hl]⟩
  · exact ⟨_, _, rfl⟩
theorem CrO.cell {w : World} {B n c : Nat} {a : Option Addr} {L : List (ByteArray × Bool)} (h : CrO w B (.slice a n c) L) (k : Nat) (hk : k < L.length) : ∃ g, a = some ⟨g, 0, none⟩ ∧ w.cell? ⟨g, k * 2, none⟩ = some (.string L[k].1) ∧ w.cell? ⟨g, k * 2 + 1, none⟩ = some (.bool L[k].2) := by
  rcases h.2 with ⟨hv, hl⟩ | ⟨g, cap, cur, hv, hg, _⟩
  · omega
  · have h2 := h
    obtain ⟨f0, f1⟩ := flatC_at L k hk
    cases hv
    have hc := World.ownsRow.cells h (g := g) rfl
    have r0 := hc _ _ f0
    have r1 := hc _ _ f1
    rw [gaddp, Nat.zero_add] at r0 r1
    exact ⟨g, rfl, r0, r1⟩
set_option maxHeartbeats 4000000 in
theorem same_any (a b : ByteArray) (ha : a.size ≤ 20000) (hb : b.size ≤ 20000) (w : World) : Calls Tryd.prog 10 #[.string a, .string b] w fun e w' => e = .returned (.bool ((foldB a).toList == (foldB b).toList)) ∧ Below w.heap.size w w' := by
  have C1 := Hid.mk' (fold_any a ha)
  have C2 := Hid.mk' (fold_any b hb)
  generalize foldB a = f at *
  generalize foldB b = g at *
  go_enter Tryd.func10, Tryd.ntmps10
  go_wp2_with fail
  refine (C1.out _).mono ?_; rintro e w1 ⟨rfl, hb1⟩
  have H1 := Hid.mk' hb1
  clear hb1
  go_wp2_with fail
  refine (C2.out _).mono ?_; rintro e w2 ⟨rfl, hb2⟩
  have H2 := Hid.mk' (bnext H1.out hb2)
  clear hb2
  go_wp2_with fail
  go_ret
  exact ⟨rfl, H2.out⟩
set_option maxRecDepth 100000 in
set_option maxHeartbeats 4000000 in
theorem texts_big (a b : ByteArray) (h : 500 < a.size ∨ 500 < b.size) (w : World) : Calls Tryd.prog 3 #[.string a, .string b] w fun e w' => e = .returned (.bool true) ∧ Below w.heap.size w w' := by
  by_cases h1 : (500 : Int) < (a.size : Int)
  · clear h
    go_enter Tryd.func3, Tryd.ntmps3
    go_wp2_with fail
    go_ret
    exact ⟨rfl, Below.refl _ _⟩
  · have h2 : (500 : Int) < (b.size : Int) := by omega
    clear h
    go_enter Tryd.func3, Tryd.ntmps3
    go_wp2_with fail
    go_ret
    exact ⟨rfl, Below.refl _ _⟩
set_option maxRecDepth 100000 in
set_option maxHeartbeats 8000000 in
theorem texts_main (a b : ByteArray) (ha : a.size ≤ 500) (hb : b.size ≤ 500) (w : World) : Calls Tryd.prog 3 #[.string a, .string b] w fun e w' => e = .returned (.bool true) ∧ Below w.heap.size w w' := by
  have K1 := Hid.mk' (chunks_any a (by omega))
  have K2 := Hid.mk' (refchunks_any a (by omega))
  have c1 := fold_any a (by omega)
  have c2 := reffold_any a (by omega)
  have c3 := same_any a b (by omega) (by omega)
  have c4 := reffold_any b (by omega)
  have c5 := fold_any (foldB a) (by have := foldB_len a; omega)
  rw [fold_fold] at c5
  have y1 : ¬ (500 : Int) < (a.size : Int) := by omega
  have y2 : ¬ (500 : Int) < (b.size : Int) := by omega
  have hff : ((foldB a).toList == (foldB a).toList) = true := by simp
  obtain ⟨q, hq⟩ : ∃ q, ((foldB a).toList == (foldB b).toList) = q := ⟨_, rfl⟩
  have hqq : (q == q) = true := by simp
  rw [hq] at c3
  generalize foldB a = fa at *
  generalize foldB b = fb at *
  have hnl : (chunkS a).length ≤ 2001 := by
    have h1 := chunk_len (rsB a) (rsB a).size 0 0 false
    have h2 := rsB_len a
    unfold chunkS; omega
  generalize chunkS a = L at *
  have C1 := Hid.mk' c1
  have C2 := Hid.mk' c2
  have C3 := Hid.mk' c3
  have C4 := Hid.mk' c4
  have C5 := Hid.mk' c5
  have hnn : ((L.length : Int) != (L.length : Int)) = false := by simp
  clear c1 c2 c3 c4 c5 ha hb
  go_enter Tryd.func3, Tryd.ntmps3
  go_wp2_with fail
  refine (K1.out _).mono ?_; rintro e w1 ⟨v1, rfl, hk1, hb1⟩
  have H1 := Hid.mk' (And.intro hk1 hb1)
  clear hk1 hb1 K1
  go_wp2_with fail
  refine (K2.out _).mono ?_; rintro e w2 ⟨v2, rfl, hk2, hb2⟩
  have hk1 := H1.out.1.next hb2
  obtain ⟨a1, p1, rfl⟩ := hk1.form
  obtain ⟨a2, p2, rfl⟩ := hk2.form
  have H2 := Hid.mk' (And.intro hk1 (And.intro hk2 (bnext H1.out.2 hb2)))
  clear hk1 hk2 hb2 K2 H1
  go_wp2_with fail
  go_loopw [7] (fun i wr => ∃ k m : Nat, i = .int .i64 k ∧ k ≤ L.length ∧ wr = w2.drewN m) (fun i _ => L.length - (intOf i).toNat)
  case atStart => exact ⟨0, 0, rfl, by omega, rfl⟩
  case round =>
    obtain ⟨k, m, rfl, hk, rfl⟩ := hrel
    by_cases h1 : k < L.length
    · obtain ⟨g1, rfl, _, x0, x1⟩ := H2.out.1.cell k h1
      obtain ⟨g2, rfl, z0, z1⟩ := H2.out.2.1.cell k h1
      have hi1 : (k : Int) < (L.length : Int) := by omega
      have hpp : (L[k].1.toList == L[k].1.toList) = true := by simp
      have hbb : (L[k].2 != L[k].2) = false := by simp
      generalize L[k] = p at *
      obtain ⟨pt, pn⟩ := p
      dsimp only at *
      go_wp2_with fail
      go_quiet (fail)
      go_wp2_with fail
      go_roundw
      case rel => exact ⟨k + 1, m + nq, by go_num, by omega, rfl⟩
      case measure => simp [intOf]; omega
    · have hi1 : ¬ (k : Int) < (L.length : Int) := by omega
      have H3 := Hid.mk' (bnext H2.out.2.2 (below_drewN (Below.refl _ _) m))
      go_wp2_with fail
      refine (C1.out _).mono ?_; rintro e w3 ⟨rfl, hb3⟩
      have H4 := Hid.mk' (bnext H3.out hb3)
      clear hb3
      go_wp2_with fail
      refine (C2.out _).mono ?_; rintro e w4 ⟨rfl, hb4⟩
      have H5 := Hid.mk' (bnext H4.out hb4)
      clear hb4
      go_wp2_with fail
      refine (C3.out _).mono ?_; rintro e w5 ⟨rfl, hb5⟩
      have H6 := Hid.mk' (bnext H5.out hb5)
      clear hb5
      go_wp2_with fail
      refine (C2.out _).mono ?_; rintro e w6 ⟨rfl, hb6⟩
      have H7 := Hid.mk' (bnext H6.out hb6)
      clear hb6
      go_wp2_with fail
      refine (C4.out _).mono ?_; rintro e w7 ⟨rfl, hb7⟩
      have H8 := Hid.mk' (bnext H7.out hb7)
      clear hb7
      go_wp2_with fail
      refine (C1.out _).mono ?_; rintro e w8 ⟨rfl, hb8⟩
      have H9 := Hid.mk' (bnext H8.out hb8)
      clear hb8
      go_wp2_with fail
      refine (C5.out _).mono ?_; rintro e w9 ⟨rfl, hb9⟩
      have H10 := Hid.mk' (bnext H9.out hb9)
      clear hb9
      go_wp2_with fail
      refine (C1.out _).mono ?_; rintro e w10 ⟨rfl, hb10⟩
      have H11 := Hid.mk' (bnext H10.out hb10)
      clear hb10
      go_wp2_with fail
      refine (alive39_any _).mono ?_; rintro e w11 ⟨rfl, hb11⟩
      have H12 := Hid.mk' (bnext H11.out hb11)
      clear hb11
      go_wp2_with fail
      go_ret
      exact ⟨rfl, H12.out⟩
theorem textslaw (a b : ByteArray) (_ : a.size ≤ maxLen) (_ : b.size ≤ maxLen) (w : World) : Calls Tryd.prog 3 #[.string a, .string b] w fun e w' => e = .returned (.bool true) ∧ Below w.heap.size w w' := by
  by_cases h : 500 < a.size ∨ 500 < b.size
  · exact texts_big a b h w
  · exact texts_main a b (by omega) (by omega) w
end Go.Proofs.YtdckdhbnfakleaaDoor
