/- Layer 11 (disk): the chapter's example; the statement that what was synced is there, at every input. -/
import Derived.Test.YtdckdhbnfakleaaDe
namespace Go.Proofs.Ytdckdhbnfakleaa
open Go.RowKit
open Go.Maps (Keyed)

theorem BS.lit (w : World) (l : List UInt8) (cs : Array Value) (n : Nat) (hn : l.length = n) (h : cs = (bv l).toArray) : BS (w.alloc (.cells cs 5)) (.slice (some ⟨w.heap.size, 0, none⟩) n n) l := by
  subst h
  subst hn
  have hb : Bx (w.alloc (.cells (bv l).toArray 5)) w.heap.size 5 (bv l).toArray := Bx.fresh w _ _
  refine ⟨_, _, rfl, Nat.le_refl _, (fun h => by cases h), fun _ => ⟨_, _, rfl, fun i hi => ?_⟩⟩
  rw [Nat.zero_add]
  exact hb.read (by rw [List.getElem?_toArray]; exact bv_at l i hi)
theorem key_a : keyB ⟨#[97]⟩ = true := by decide +kernel
theorem key_f : keyB ⟨#[102]⟩ = true := by decide +kernel
theorem op_never : opS (-1) = (0, false, -1) := rfl
theorem op_zero : opS 0 = (110, true, -1) := rfl
theorem op_more (a : Int) (h : 1 ≤ a) : opS a = (0, false, a - 1) := by unfold opS; rw [if_neg (by omega), if_neg (by omega)]
section
variable {w w' : World} {B D M F : Nat} {s : ByteArray} {room ops ahead : Int} {v : Value} {sy : Int} {l : List UInt8} {off : Bool}
theorem DS.crashed (h : DS w B D M F s room off ops ahead v sy) (hv : BO w B v l) (hB : B ≤ w.heap.size) (hd : Dk w' D (.map (some M)) room true ops (-1)) (hg : w.grownBy w' (some D)) : DS w' B D M F s room true ops (-1) v sy ∧ BO w' B v l ∧ Below B w w' :=
  ⟨h.dkset hd hg, h.rowset hv hg, bgB hB (Below.refl B w) hg h.bd⟩
end
set_option maxRecDepth 100000 in
set_option maxHeartbeats 4000000 in
theorem alive11_any (w : World) : Calls Try.prog 50 #[] w fun e w' => e = .returned (.bool true) ∧ Below w.heap.size w w' := by
  go_enter Try.func50, Try.ntmps50
  go_wp2_with fail
  refine (new_any _ _).mono ?_; rintro e w1 ⟨rfl, hd1, hm1, hb1⟩
  rw [show max (100 : Int) 0 = 100 from rfl] at hd1
  have e1 : Below w1.heap.size w1 (w1.alloc (.cells #[.int .u8 1, .int .u8 2] 5)) := (Below.refl _ _).alloc (Nat.le_refl _) _
  have hbs := BS.lit w1 [1, 2] #[.int .u8 1, .int .u8 2] 2 rfl rfl
  have C2 := Hid.mk' (append_first w.heap.size (w.heap.size + 1) w.heap.size ⟨#[97]⟩ key_a (by decide) 100 0 (-1) (by omega) (by omega) (by omega) (by omega) _ [1, 2] (by decide) (by decide) (by omega) _ (hd1.next e1) (hm1.kept (row := none) (gb_below e1 none) (by simp)) (Nat.le_trans hb1.size e1.size) (Nat.le_succ _) (Nat.le_refl _) hbs)
  have H1 := Hid.mk' (show Below w.heap.size w (w1.alloc (.cells #[.int .u8 1, .int .u8 2] 5)) from bnext hb1 e1)
  clear hd1 hm1 hb1 e1 hbs
  go_wp2_with fail
  refine C2.out.mono ?_; rintro e w2 ⟨rfl, F, v, hds2, hbo2, hb2⟩
  rw [op_never] at hds2
  have H2 := Hid.mk' (show DS w2 w.heap.size (w.heap.size + 1) w.heap.size F ⟨#[97]⟩ 100 false (0 + 1) (-1) v 0 ∧ BO w2 w.heap.size v [1, 2] ∧ Below w.heap.size w w2 from ⟨hds2, hbo2, H1.out.trans hb2⟩)
  have C3 := Hid.mk' (sync_on (by unfold maxLen; decide) (by omega) (by omega) (by omega) (by omega) w2 H2.out.1 H2.out.2.1 H2.out.2.2.size)
  clear hds2 hbo2 hb2 C2 H1
  go_wp2_with fail
  refine C3.out.mono ?_; rintro e w3 ⟨rfl, hds3, hbo3, hb3⟩
  have e4 : Below w3.heap.size w3 (w3.alloc (.cells #[.int .u8 3, .int .u8 4, .int .u8 5] 5)) := (Below.refl _ _).alloc (Nat.le_refl _) _
  have hbs := BS.lit w3 [3, 4, 5] #[.int .u8 3, .int .u8 4, .int .u8 5] 3 rfl rfl
  have hds3' : DS w3 w.heap.size (w.heap.size + 1) w.heap.size F ⟨#[97]⟩ 100 false (0 + 1 + 1) (-1) v 2 := hds3
  have hbe := (H2.out.2.2.trans hb3)
  have H4 := Hid.mk' (show Below w.heap.size w (w3.alloc (.cells #[.int .u8 3, .int .u8 4, .int .u8 5] 5)) from bnext hbe e4)
  have C4 := Hid.mk' (append_next w.heap.size (w.heap.size + 1) w.heap.size F ⟨#[97]⟩ key_a (by decide) 100 (0 + 1 + 1) (-1) (by omega) (by omega) (by omega) (by omega) v 2 [1, 2] _ [3, 4, 5] (by decide) (by decide) (by decide) (by omega) _ (hds3'.next e4) (hbo3.next e4) H4.out.size hbs)
  clear hds3 hbo3 hb3 C3 H2 e4 hbs hds3' hbe
  go_wp2_with fail
  refine C4.out.mono ?_; rintro e w5 ⟨rfl, v5, hds5, hbo5, hb5⟩
  have hds5' : DS w5 w.heap.size (w.heap.size + 1) w.heap.size F ⟨#[97]⟩ 100 false (0 + 1 + 1 + 1) (-1) v5 2 := hds5
  have H5 := Hid.mk' (And.intro hds5' (And.intro hbo5 (H4.out.trans hb5)))
  have C5 := Hid.mk' (crash_any _ _ _ _ _ _ w5 hds5'.dk)
  clear hds5 hbo5 hb5 hds5' C4 H4
  go_wp2_with fail
  refine C5.out.mono ?_; rintro e w6 ⟨rfl, hd6, hg6⟩
  obtain ⟨hds6, hbo6, hb6⟩ := H5.out.1.crashed H5.out.2.1 H5.out.2.2.size hd6 hg6
  have H6 := Hid.mk' (H5.out.2.2.trans hb6)
  have C6 := Hid.mk' (up_on _ _ _ _ _ _ _ _ _ _ _ 1 (by omega) (by omega) (by decide) (by decide) w6 hds6 hbo6 H6.out.size)
  rw [show upN (([1, 2] ++ [3, 4, 5] : List UInt8).length : Int) 2 1 = 3 from by decide] at C6
  clear hd6 hg6 hds6 hbo6 hb6 C5 H5
  go_wp2_with fail
  refine C6.out.mono ?_; rintro e w7 ⟨rfl, v7, hds7, hbs7, hb7⟩
  have H7 := Hid.mk' (H6.out.trans hb7)
  have C7 := Hid.mk' (read_on (l := [1, 2, 3]) (by unfold maxLen; decide) (by decide) w7 hds7 hbs7)
  clear hds7 hbs7 hb7 C6 H6
  go_wp2_with fail
  refine C7.out.mono ?_; rintro e w8 ⟨v8, rfl, hbs8, hb8⟩
  have e8 : Below w8.heap.size w8 (w8.alloc (.cells #[.int .u8 1, .int .u8 2, .int .u8 3] 5)) := (Below.refl _ _).alloc (Nat.le_refl _) _
  have C8 := Hid.mk' (equal_yes v8 _ [1, 2, 3] (by decide) _ (hbs8.next e8) (BS.lit w8 [1, 2, 3] #[.int .u8 1, .int .u8 2, .int .u8 3] 3 rfl rfl))
  have H8 := Hid.mk' (bnext H7.out (bnext hb8 e8))
  obtain ⟨a8, c8, hv8⟩ := hbs8.form
  subst hv8
  clear hbs8 hb8 e8 C7 H7
  go_wp2_with fail
  refine C8.out.mono ?_; rintro e w9 ⟨rfl, hb9⟩
  have H9 := Hid.mk' (bnext H8.out hb9)
  clear hb9 C8 H8
  go_wp2_with fail
  go_ret
  exact ⟨rfl, H9.out⟩
end Go.Proofs.Ytdckdhbnfakleaa
