/- Layer 5 (vector): the law's Of, in memory. -/
import Derived.Test.YtaeflfgkdjfnfaaQd
import Derived.Deep.RegionHeld3
namespace Go.Proofs.Ytaeflfgkdjfnfaa
open Go.RowKit

theorem cell_grown {W W' : World} {row : Option Nat} {a : Addr} {v : Value} (h : W.cell? a = some v) (hg : W.grownBy W' row) (hr : row ≠ some a.block) : W'.cell? a = some v :=
  (World.cell?_of_block (hg.block a.block (World.block_lt_of_cell? _ _ h) (fun e => hr e.symm))).trans h
set_option maxRecDepth 100000 in
set_option maxHeartbeats 8000000 in
theorem lawof_any (vl : Value) (l : List (Int × Int)) (hn : l.length ≤ 5000) (w : World) (h : DR w vl l) : Calls Try.prog 67 #[vl] w fun e w' => ∃ M n v2, e = .returned (.tuple #[.map (some M), v2]) ∧ VM w' M n (ofD l) ∧ n ≤ l.length ∧ DD w' w.heap.size v2 (ofL l) ∧ w.heap.size ≤ M ∧ Below w.heap.size w w' := by
  obtain ⟨i0, hi0, hz0, hz1, hz2⟩ := info_parts D_info
  have HI := Lib.hid (And.intro hi0 (And.intro hz0 (And.intro hz1 hz2)))
  have HR := Lib.hid h
  obtain ⟨a, cap, rfl, hx, hc⟩ := h
  have HX := Lib.hid hx
  clear hx hc hi0 hz0 hz1 hz2
  have H0 := Lib.hid (show DD w w.heap.size (.slice none 0 0) (l.take 0) ∧ Below w.heap.size w w from ⟨DD.nil _ _, Below.refl _ _⟩)
  go_enter Try.func67, Try.ntmps67
  go_wp2_with fail
  go_loopw [4, 5] (fun r i wr => ∃ (k : Nat) (v4 : Value), i = .int .i64 k ∧ v4 = r ∧ k ≤ l.length ∧ Hid (DD wr w.heap.size v4 (l.take k) ∧ Below w.heap.size w wr)) (fun _ i _ => l.length - (intOf i).toNat)
  case atStart => exact ⟨0, _, rfl, rfl, Nat.zero_le _, H0⟩
  case round =>
    clear H0
    obtain ⟨k, v4, rfl, rfl, hk, HS⟩ := hrel
    by_cases hlt : k < l.length
    · obtain ⟨a', cap', hv, _, hc⟩ := id HR.out
      obtain ⟨b, off, ha, hcell⟩ := hc (fun e => by rw [e] at hlt; simp at hlt)
      subst ha
      cases hv
      have HBK := Lib.hid (World.block_lt_of_cell? _ _ (hcell k hlt).1)
      have x0 := cell_nxd HS.out.2 (hcell k hlt).1
      have x1 := cell_nxd HS.out.2 (hcell k hlt).2
      have hi1 : (k : Int) < (l.length : Int) := by omega
      have HN := Lib.hid (show l.take (k + 1) = l.take k ++ [l[k]] from List.take_succ_eq_append_getElem hlt)
      have HLEN := Lib.hid (show (l.take k).length ≤ 5000 by rw [List.length_take]; omega)
      clear hcell hc
      generalize l[k] = p at *
      obtain ⟨pw, pn⟩ := p
      dsimp only at *
      generalize l.take k = out at *
      have HNB := Lib.hid (show v4.ownBlock ≠ some b from fun e => by
        have h1 := (World.ownsRow.lt HS.out.1 _ e).1
        have h2 : b < w.heap.size := HBK.out
        omega)
      have HCV := Lib.hid (fun W (hg : wr.grownBy W v4.ownBlock) => (show W.cell? ⟨b, off + k * 2, none⟩ = some (.int .i64 pw) ∧ W.cell? ⟨b, off + k * 2 + 1, none⟩ = some (.int .i64 pn) ∧ Hid (wr.grownBy W v4.ownBlock) from ⟨cell_grown x0 hg HNB.out, cell_grown x1 hg HNB.out, Lib.hid hg⟩))
      have hO : DD ((wr.drew).alloc (.cells #[.int .i64 pw, .int .i64 pn] 122)) w.heap.size v4 out := HS.out.1.next ((Below.refl _ wr).drew.alloc (Nat.le_refl _) _)
      have HO := Lib.hid hO
      have hs0 : (fun W : World => W.cell? ⟨b, off + k * 2, none⟩ = some (.int .i64 pw) ∧ W.cell? ⟨b, off + k * 2 + 1, none⟩ = some (.int .i64 pn) ∧ Hid (wr.grownBy W v4.ownBlock)) wr.drew := HCV.out _ (gb_below ((Below.refl _ wr).drew) _)
      have SK := Lib.hid (fun (W : World) (o : Obj) (hW : W.cell? ⟨b, off + k * 2, none⟩ = some (.int .i64 pw) ∧ W.cell? ⟨b, off + k * 2 + 1, none⟩ = some (.int .i64 pn) ∧ Hid (wr.grownBy W v4.ownBlock)) => HCV.out (W.alloc o) (gb_trans hW.2.2.out (gb_below ((Below.refl _ _).alloc (Nat.le_refl _) _) _)))
      have hsz := HS.out.2.size
      clear hO
      go_wp2_with fail
      go_region_held3 (fun W => W.cell? ⟨b, off + k * 2, none⟩ = some (.int .i64 pw) ∧ W.cell? ⟨b, off + k * 2 + 1, none⟩ = some (.int .i64 pn) ∧ Hid (wr.grownBy W v4.ownBlock))
        (first | assumption | exact hs0 | exact SK.out _ _ hs0 | (refine ⟨?_, ?_, ?_⟩ <;> assumption))
        ((refine wp_append_own _ (.tmp 12) (.tmp 24) 117 rfl w.heap.size 122 i0 _ 2 16 Try.underlying117 HI.out.1 HI.out.2.1 HI.out.2.2.1 HI.out.2.2.2 rfl (by decide) v4 out.length (flatD out) rfl HO.out ⟨wr.heap.size, 0, none⟩ 1 1 [.int .i64 pw, .int .i64 pn] rfl rfl (World.news_of_block (cs := #[.int .i64 pw, .int .i64 pn]) (t := 122) (fr := (0, 0)) (heap_alloc_new wr.drew _)) (by simp [Value.oneCell']) (by have := HLEN.out; simp only [maxLen]; omega) (by have := HLEN.out; omega) (by simp; omega) ?_; intro v6 W6 hown6 hgr6 _; obtain ⟨k0, k1, k2⟩ := HCV.out _ (gb_trans (gb_below ((Below.refl _ wr).drew.alloc (Nat.le_refl _) (.cells #[.int .i64 pw, .int .i64 pn] 122)) _) hgr6)))
      all_goals
        have hd6 : DD W6 w.heap.size v6 (out ++ [(pw, pn)]) := by unfold DD; rw [List.length_append, flatD_snoc]; exact hown6
        have HF := Lib.hid (show DD W6 w.heap.size v6 (l.take (k + 1)) ∧ Below w.heap.size w W6 from ⟨by rw [HN.out]; exact hd6, HS.out.2.grown k2.out hsz (fun j hj => (World.ownsRow.lt HS.out.1 j hj).1)⟩)
        clear hown6 hgr6 hd6 k0 k1 k2 hs0
        go_wp2_with fail
        go_roundw
        case rel => exact ⟨k + 1, _, by go_num, rfl, by omega, HF⟩
        case measure => simp [intOf]; omega
    · obtain rfl : k = l.length := by omega
      have hi1 : ¬ (l.length : Int) < (l.length : Int) := by omega
      have HM := Lib.hid (show DD wr w.heap.size v4 l ∧ Below w.heap.size w wr from ⟨by have := HS.out.1; rw [List.take_length] at this; exact this, HS.out.2⟩)
      have CO := Lib.hid (of_any (.slice a l.length cap) l (by omega) wr (HR.out.next HM.out.2))
      have CR := Lib.hid (fun W (hW : Below wr.heap.size wr W) => of05_any v4 l hn W ((HM.out.1.next hW).dr HX.out))
      clear HS
      go_wp2_with fail
      refine (CO.out).mono ?_; rintro e w5 ⟨M, n, rfl, hV, hM, hnl, hb5⟩
      have CR1 := Lib.hid (CR.out _ hb5)
      have HV := Lib.hid (And.intro hV (And.intro hM (And.intro hnl hb5)))
      clear hV hM hnl hb5
      go_wp2_with fail
      refine (CR1.out).mono ?_; rintro e w6 ⟨v6, rfl, hd6, hb6⟩
      have HF := Lib.hid (show VM w6 M n (ofD l) ∧ n ≤ l.length ∧ DD w6 w.heap.size v6 (ofL l) ∧ w.heap.size ≤ M ∧ Below w.heap.size w w6 from ⟨World.ownsMap.kept HV.out.1 (gb_below hb6 none) (by simp), HV.out.2.2.1, hd6.base (Nat.le_trans HM.out.2.size HV.out.2.2.2.size), Nat.le_trans HM.out.2.size HV.out.2.1, bnext (bnext HM.out.2 HV.out.2.2.2) hb6⟩)
      clear hd6 hb6
      go_wp2_with fail
      go_ret2
      exact ⟨M, n, v6, rfl, HF.out⟩
end Go.Proofs.Ytaeflfgkdjfnfaa
