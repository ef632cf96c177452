/- Layer 1 (runes): bytes of runes: unicode/utf8.AppendRune onto a row of the call's own. -/
import Derived.Test.YtnhonjhpggnglaaDoorKy
import Derived.Laws.BitsAllLaws
import Derived.Laws.BitsLemmas
namespace Go.Proofs.YtnhonjhpggnglaaDoor
open Go.RowKit

/-- The bytes of a rune (the numbers). -/
def encN (r : Nat) : List Nat :=
  if r < 128 then [r] else if r < 2048 then [192 + r / 64, 128 + r % 64]
  else if r < 65536 then [224 + r / 4096, 128 + r / 64 % 64, 128 + r % 64]
  else [240 + r / 262144, 128 + r / 4096 % 64, 128 + r / 64 % 64, 128 + r % 64]
def u8s (l : List Nat) : List Value := l.map fun (n : Nat) => Value.int .u8 (n : Int)
theorem u8_info : (Tryd.prog.info? 5).map (fun i => (i.zero, i.size, i.bytes)) = some (some (.int .u8 0), 1, 1) := by kernel_rfl
/-- What a call answers that appends bytes to a row that is its caller's own. -/
def Adds (base : Nat) (w : World) (v : Value) (n : Nat) (xs : List Value) (ys : List Value) (e : Ending) (w' : World) : Prop :=
  ∃ v', e = .returned v' ∧ w'.ownsRow base 5 1 v' (n + ys.length) (xs ++ ys) ∧ w.grownBy w' v.ownBlock

theorem enc1 (r : Nat) (h : r < 128) : u8s (encN r) = [.int .u8 ((r : Int))] := by unfold encN; rw [if_pos h]; rfl
theorem enc2 (r : Nat) (h1 : 128 ≤ r) (h2 : r < 2048) : u8s (encN r) = [.int .u8 (192 + (r : Int) / 64), .int .u8 (128 + (r : Int) % 64)] := by unfold encN; rw [if_neg (by omega), if_pos h2]; rfl
theorem enc3 (r : Nat) (h1 : 2048 ≤ r) (h2 : r < 65536) : u8s (encN r) = [.int .u8 (224 + (r : Int) / 4096), .int .u8 (128 + (r : Int) / 64 % 64), .int .u8 (128 + (r : Int) % 64)] := by unfold encN; rw [if_neg (by omega), if_neg (by omega), if_pos h2]; rfl
theorem enc4 (r : Nat) (h1 : 65536 ≤ r) : u8s (encN r) = [.int .u8 (240 + (r : Int) / 262144), .int .u8 (128 + (r : Int) / 4096 % 64), .int .u8 (128 + (r : Int) / 64 % 64), .int .u8 (128 + (r : Int) % 64)] := by unfold encN; rw [if_neg (by omega), if_neg (by omega), if_neg (by omega)]; rfl
set_option maxRecDepth 100000 in
set_option maxHeartbeats 1000000 in
theorem nonascii2 (base : Nat) (v : Value) (n : Nat) (xs : List Value) (r : Int) (w : World) (hown : w.ownsRow base 5 1 v n xs) (hn : n ≤ 1000000) (hb : base ≤ w.heap.size) (h1 : 128 ≤ r) (h2 : r < 2048) :
    Calls Tryd.prog 33 #[v, .int .i32 r] w (Adds base w v n xs [.int .u8 (192 + r / 64), .int .u8 (128 + r % 64)]) := by
  obtain ⟨i0, hi, hz0, hz1, hz2⟩ := info_parts u8_info
  go_enter Tryd.func33, Tryd.ntmps33
  go_wp2_with (at_builtin; refine wpList_append_own _ rfl (.tmp 14) (.tmp 23) 43 rfl base 5 i0 _ 1 1 Tryd.underlying43 hi hz0 hz1 hz2 rfl (by decide) v n xs rfl (hown.alloc _) ⟨w.heap.size, 0, none⟩ 2 2 [.int .u8 (192 + r / 64), .int .u8 (128 + r % 64)] rfl rfl (World.news_of_block (cs := #[.int .u8 (192 + r / 64), .int .u8 (128 + r % 64)]) (t := 5) (fr := (0, 0)) (heap_alloc_new w _)) (by simp [Value.oneCell']) (by simp only [maxLen]; omega) (by omega) (by simp; omega) ?_)
  intro v1 w1 hown1 hgr1 _
  go_wp2_with fail
  go_ret
  exact ⟨_, rfl, hown1, gtrans (World.grownBy_alloc w _ _) hgr1⟩
set_option maxRecDepth 100000 in
set_option maxHeartbeats 1000000 in
theorem nonascii3a (base : Nat) (v : Value) (n : Nat) (xs : List Value) (r : Int) (w : World) (hown : w.ownsRow base 5 1 v n xs) (hn : n ≤ 1000000) (hb : base ≤ w.heap.size) (h1 : 2048 ≤ r) (h2 : r < 55296) :
    Calls Tryd.prog 33 #[v, .int .i32 r] w (Adds base w v n xs [.int .u8 (224 + r / 4096), .int .u8 (128 + r / 64 % 64), .int .u8 (128 + r % 64)]) := by
  obtain ⟨i0, hi, hz0, hz1, hz2⟩ := info_parts u8_info
  go_enter Tryd.func33, Tryd.ntmps33
  go_wp2_with (at_builtin; refine wpList_append_own _ rfl (.tmp 34) (.tmp 48) 43 rfl base 5 i0 _ 1 1 Tryd.underlying43 hi hz0 hz1 hz2 rfl (by decide) v n xs rfl (hown.alloc _) ⟨w.heap.size, 0, none⟩ 3 3 [.int .u8 (224 + r / 4096), .int .u8 (128 + r / 64 % 64), .int .u8 (128 + r % 64)] rfl rfl (World.news_of_block (cs := #[.int .u8 (224 + r / 4096), .int .u8 (128 + r / 64 % 64), .int .u8 (128 + r % 64)]) (t := 5) (fr := (0, 0)) (heap_alloc_new w _)) (by simp [Value.oneCell']) (by simp only [maxLen]; omega) (by omega) (by simp; omega) ?_)
  intro v1 w1 hown1 hgr1 _
  go_wp2_with fail
  go_ret
  exact ⟨_, rfl, hown1, gtrans (World.grownBy_alloc w _ _) hgr1⟩
set_option maxRecDepth 100000 in
set_option maxHeartbeats 1000000 in
theorem nonascii3b (base : Nat) (v : Value) (n : Nat) (xs : List Value) (r : Int) (w : World) (hown : w.ownsRow base 5 1 v n xs) (hn : n ≤ 1000000) (hb : base ≤ w.heap.size) (h1 : 57343 < r) (h2 : r ≤ 65535) :
    Calls Tryd.prog 33 #[v, .int .i32 r] w (Adds base w v n xs [.int .u8 (224 + r / 4096), .int .u8 (128 + r / 64 % 64), .int .u8 (128 + r % 64)]) := by
  obtain ⟨i0, hi, hz0, hz1, hz2⟩ := info_parts u8_info
  go_enter Tryd.func33, Tryd.ntmps33
  go_wp2_with (at_builtin; refine wpList_append_own _ rfl (.tmp 34) (.tmp 48) 43 rfl base 5 i0 _ 1 1 Tryd.underlying43 hi hz0 hz1 hz2 rfl (by decide) v n xs rfl (hown.alloc _) ⟨w.heap.size, 0, none⟩ 3 3 [.int .u8 (224 + r / 4096), .int .u8 (128 + r / 64 % 64), .int .u8 (128 + r % 64)] rfl rfl (World.news_of_block (cs := #[.int .u8 (224 + r / 4096), .int .u8 (128 + r / 64 % 64), .int .u8 (128 + r % 64)]) (t := 5) (fr := (0, 0)) (heap_alloc_new w _)) (by simp [Value.oneCell']) (by simp only [maxLen]; omega) (by omega) (by simp; omega) ?_)
  intro v1 w1 hown1 hgr1 _
  go_wp2_with fail
  go_ret
  exact ⟨_, rfl, hown1, gtrans (World.grownBy_alloc w _ _) hgr1⟩
set_option maxRecDepth 100000 in
set_option maxHeartbeats 1000000 in
theorem nonascii4 (base : Nat) (v : Value) (n : Nat) (xs : List Value) (r : Int) (w : World) (hown : w.ownsRow base 5 1 v n xs) (hn : n ≤ 1000000) (hb : base ≤ w.heap.size) (h1 : 65535 < r) (h2 : r ≤ 1114111) :
    Calls Tryd.prog 33 #[v, .int .i32 r] w (Adds base w v n xs [.int .u8 (240 + r / 262144), .int .u8 (128 + r / 4096 % 64), .int .u8 (128 + r / 64 % 64), .int .u8 (128 + r % 64)]) := by
  obtain ⟨i0, hi, hz0, hz1, hz2⟩ := info_parts u8_info
  go_enter Tryd.func33, Tryd.ntmps33
  go_wp2_with (at_builtin; refine wpList_append_own _ rfl (.tmp 57) (.tmp 76) 43 rfl base 5 i0 _ 1 1 Tryd.underlying43 hi hz0 hz1 hz2 rfl (by decide) v n xs rfl (hown.alloc _) ⟨w.heap.size, 0, none⟩ 4 4 [.int .u8 (240 + r / 262144), .int .u8 (128 + r / 4096 % 64), .int .u8 (128 + r / 64 % 64), .int .u8 (128 + r % 64)] rfl rfl (World.news_of_block (cs := #[.int .u8 (240 + r / 262144), .int .u8 (128 + r / 4096 % 64), .int .u8 (128 + r / 64 % 64), .int .u8 (128 + r % 64)]) (t := 5) (fr := (0, 0)) (heap_alloc_new w _)) (by simp [Value.oneCell']) (by simp only [maxLen]; omega) (by omega) (by simp; omega) ?_)
  intro v1 w1 hown1 hgr1 _
  go_wp2_with fail
  go_ret
  exact ⟨_, rfl, hown1, gtrans (World.grownBy_alloc w _ _) hgr1⟩
set_option maxRecDepth 100000 in
set_option maxHeartbeats 1000000 in
theorem appendrune1 (base : Nat) (v : Value) (n : Nat) (xs : List Value) (r : Int) (w : World) (hown : w.ownsRow base 5 1 v n xs) (hn : n ≤ 1000000) (hb : base ≤ w.heap.size) (h0 : 0 ≤ r) (h1 : r < 128) :
    Calls Tryd.prog 28 #[v, .int .i32 r] w (Adds base w v n xs [.int .u8 (r)]) := by
  obtain ⟨i0, hi, hz0, hz1, hz2⟩ := info_parts u8_info
  go_enter Tryd.func28, Tryd.ntmps28
  go_wp2_with (at_builtin; refine wpList_append_own _ rfl (.tmp 8) (.tmp 11) 43 rfl base 5 i0 _ 1 1 Tryd.underlying43 hi hz0 hz1 hz2 rfl (by decide) v n xs rfl (hown.alloc _) ⟨w.heap.size, 0, none⟩ 1 1 [.int .u8 (r)] rfl rfl (World.news_of_block (cs := #[.int .u8 (r)]) (t := 5) (fr := (0, 0)) (heap_alloc_new w _)) (by simp [Value.oneCell']) (by simp only [maxLen]; omega) (by omega) (by simp; omega) ?_)
  intro v1 w1 hown1 hgr1 _
  go_wp2_with fail
  go_ret
  exact ⟨_, rfl, hown1, gtrans (World.grownBy_alloc w _ _) hgr1⟩
set_option maxRecDepth 100000 in
set_option maxHeartbeats 1000000 in
/-- AppendRune of a rune that may be. -/
theorem appendrune_any (base : Nat) (v : Value) (n : Nat) (xs : List Value) (r : Nat) (w : World) (hown : w.ownsRow base 5 1 v n xs) (hn : n ≤ 1000000) (hb : base ≤ w.heap.size) (h : r < 55296 ∨ 57344 ≤ r ∧ r ≤ 1114111) :
    Calls Tryd.prog 28 #[v, .int .i32 r] w (Adds base w v n xs (u8s (encN r))) := by
  by_cases h1 : r < 128
  · rw [enc1 r h1]; exact appendrune1 base v n xs r w hown hn hb (by omega) (by omega)
  · have C : Hid (Calls Tryd.prog 33 #[v, .int .i32 r] w (Adds base w v n xs (u8s (encN r)))) := by
      by_cases h2 : r < 2048
      · rw [enc2 r (by omega) h2]; exact nonascii2 base v n xs r w hown hn hb (by omega) (by omega)
      · by_cases h3 : r < 65536
        · rw [enc3 r (by omega) h3]
          by_cases h4 : r < 55296
          · exact nonascii3a base v n xs r w hown hn hb (by omega) (by omega)
          · exact nonascii3b base v n xs r w hown hn hb (by omega) (by omega)
        · rw [enc4 r (by omega)]; exact nonascii4 base v n xs r w hown hn hb (by omega) (by omega)
    have hr : (r : Int) ≤ 1114111 := by omega
    have hr2 : (128 : Int) ≤ (r : Int) := by omega
    clear h h1
    generalize (r : Int) = R at *
    go_enter Tryd.func28, Tryd.ntmps28
    go_wp2_with fail
    refine (C.out).mono ?_; rintro e w1 ⟨v1, rfl, hown1, hgr1⟩
    go_wp2_with fail
    go_ret
    exact ⟨_, rfl, hown1, hgr1⟩
end Go.Proofs.YtnhonjhpggnglaaDoor
