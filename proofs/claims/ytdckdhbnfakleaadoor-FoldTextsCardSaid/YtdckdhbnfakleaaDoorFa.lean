/- Layer 39 (fold): bytes of runes; a text folded, by the code. (XEn, XQu, XPl in part, without the layer runes: never import both.) -/
import Derived.Test.YtdckdhbnfakleaaDoorDm
import Derived.Test.YtdckdhbnfakleaaDoorKg
import Derived.Test.YtdckdhbnfakleaaDoorProg
import Derived.WalkSpells
import Derived.WalkLawsBesides
import Derived.Laws.AppendOwn
import Derived.OwnWalk
import Derived.Deep.AppendLies
import Derived.Deep.QuietTactic
import Derived.BigQuiet
import Derived.WalkSmall
import Derived.Laws.BitsAllLaws
import Derived.Laws.BitsLemmas
import Derived.Laws.IdiomStrings
namespace Go.Proofs.YtdckdhbnfakleaaDoor
open Go.RowKit

/-- The bytes of a rune (the numbers). -/
def encN (r : Nat) : List Nat :=
  if r < 128 then [r] else if r < 2048 then [192 + r / 64, 128 + r % 64]
  else if r < 65536 then [224 + r / 4096, 128 + r / 64 % 64, 128 + r % 64]
  else [240 + r / 262144, 128 + r / 4096 % 64, 128 + r / 64 % 64, 128 + r % 64]
def u8s (l : List Nat) : List Value := l.map fun (n : Nat) => Value.int .u8 (n : Int)
theorem u8_info : (Tryd.prog.info? 5).map (fun i => (i.zero, i.size, i.bytes)) = some (some (.int .u8 0), 1, 1) := by kernel_rfl
/-- What a call answers that appends bytes to a row that is its caller's own. -/
def Adds (base : Nat) (w : World) (v : Value) (n : Nat) (xs : List Value) (ys : List Value) (e : Ending) (w' : World) : Prop :=
  ∃ v', e = .returned v' ∧ w'.ownsRow base 5 1 v' (n + ys.length) (xs ++ ys) ∧ w.grownBy w' v.ownBlock

theorem enc1 (r : Nat) (h : r < 128) : u8s (encN r) = [.int .u8 ((r : Int))] := by unfold encN; rw [if_pos h]; rfl
theorem enc2 (r : Nat) (h1 : 128 ≤ r) (h2 : r < 2048) : u8s (encN r) = [.int .u8 (192 + (r : Int) / 64), .int .u8 (128 + (r : Int) % 64)] := by unfold encN; rw [if_neg (by omega), if_pos h2]; rfl
theorem enc3 (r : Nat) (h1 : 2048 ≤ r) (h2 : r < 65536) : u8s (encN r) = [.int .u8 (224 + (r : Int) / 4096), .int .u8 (128 + (r : Int) / 64 % 64), .int .u8 (128 + (r : Int) % 64)] := by unfold encN; rw [if_neg (by omega), if_neg (by omega), if_pos h2]; rfl
theorem enc4 (r : Nat) (h1 : 65536 ≤ r) : u8s (encN r) = [.int .u8 (240 + (r : Int) / 262144), .int .u8 (128 + (r : Int) / 4096 % 64), .int .u8 (128 + (r : Int) / 64 % 64), .int .u8 (128 + (r : Int) % 64)] := by unfold encN; rw [if_neg (by omega), if_neg (by omega), if_neg (by omega)]; rfl
set_option maxRecDepth 100000 in
set_option maxHeartbeats 1000000 in
theorem nonascii2 (base : Nat) (v : Value) (n : Nat) (xs : List Value) (r : Int) (w : World) (hown : w.ownsRow base 5 1 v n xs) (hn : n ≤ 1000000) (hb : base ≤ w.heap.size) (h1 : 128 ≤ r) (h2 : r < 2048) :
    Calls Tryd.prog 27 #[v, .int .i32 r] w (Adds base w v n xs [.int .u8 (192 + r / 64), .int .u8 (128 + r % 64)]) := by
  obtain ⟨i0, hi, hz0, hz1, hz2⟩ := info_parts u8_info
  go_enter Tryd.func27, Tryd.ntmps27
  go_wp2_with (at_builtin; refine wpList_append_own _ rfl (.tmp 14) (.tmp 23) 41 rfl base 5 i0 _ 1 1 Tryd.underlying41 hi hz0 hz1 hz2 rfl (by decide) v n xs rfl (hown.alloc _) ⟨w.heap.size, 0, none⟩ 2 2 [.int .u8 (192 + r / 64), .int .u8 (128 + r % 64)] rfl rfl (World.news_of_block (cs := #[.int .u8 (192 + r / 64), .int .u8 (128 + r % 64)]) (t := 5) (fr := (0, 0)) (heap_alloc_new w _)) (by simp [Value.oneCell']) (by simp only [maxLen]; omega) (by omega) (by simp; omega) ?_)
  intro v1 w1 hown1 hgr1 _
  go_wp2_with fail
  go_ret
  exact ⟨_, rfl, hown1, gtrans (World.grownBy_alloc w _ _) hgr1⟩
set_option maxRecDepth 100000 in
set_option maxHeartbeats 1000000 in
theorem nonascii3a (base : Nat) (v : Value) (n : Nat) (xs : List Value) (r : Int) (w : World) (hown : w.ownsRow base 5 1 v n xs) (hn : n ≤ 1000000) (hb : base ≤ w.heap.size) (h1 : 2048 ≤ r) (h2 : r < 55296) :
    Calls Tryd.prog 27 #[v, .int .i32 r] w (Adds base w v n xs [.int .u8 (224 + r / 4096), .int .u8 (128 + r / 64 % 64), .int .u8 (128 + r % 64)]) := by
  obtain ⟨i0, hi, hz0, hz1, hz2⟩ := info_parts u8_info
  go_enter Tryd.func27, Tryd.ntmps27
  go_wp2_with (at_builtin; refine wpList_append_own _ rfl (.tmp 34) (.tmp 48) 41 rfl base 5 i0 _ 1 1 Tryd.underlying41 hi hz0 hz1 hz2 rfl (by decide) v n xs rfl (hown.alloc _) ⟨w.heap.size, 0, none⟩ 3 3 [.int .u8 (224 + r / 4096), .int .u8 (128 + r / 64 % 64), .int .u8 (128 + r % 64)] rfl rfl (World.news_of_block (cs := #[.int .u8 (224 + r / 4096), .int .u8 (128 + r / 64 % 64), .int .u8 (128 + r % 64)]) (t := 5) (fr := (0, 0)) (heap_alloc_new w _)) (by simp [Value.oneCell']) (by simp only [maxLen]; omega) (by omega) (by simp; omega) ?_)
  intro v1 w1 hown1 hgr1 _
  go_wp2_with fail
  go_ret
  exact ⟨_, rfl, hown1, gtrans (World.grownBy_alloc w _ _) hgr1⟩
set_option maxRecDepth 100000 in
set_option maxHeartbeats 1000000 in
theorem nonascii3b (base : Nat) (v : Value) (n : Nat) (xs : List Value) (r : Int) (w : World) (hown : w.ownsRow base 5 1 v n xs) (hn : n ≤ 1000000) (hb : base ≤ w.heap.size) (h1 : 57343 < r) (h2 : r ≤ 65535) :
    Calls Tryd.prog 27 #[v, .int .i32 r] w (Adds base w v n xs [.int .u8 (224 + r / 4096), .int .u8 (128 + r / 64 % 64), .int .u8 (128 + r % 64)]) := by
  obtain ⟨i0, hi, hz0, hz1, hz2⟩ := info_parts u8_info
  go_enter Tryd.func27, Tryd.ntmps27
  go_wp2_with (at_builtin; refine wpList_append_own _ rfl (.tmp 34) (.tmp 48) 41 rfl base 5 i0 _ 1 1 Tryd.underlying41 hi hz0 hz1 hz2 rfl (by decide) v n xs rfl (hown.alloc _) ⟨w.heap.size, 0, none⟩ 3 3 [.int .u8 (224 + r / 4096), .int .u8 (128 + r / 64 % 64), .int .u8 (128 + r % 64)] rfl rfl (World.news_of_block (cs := #[.int .u8 (224 + r / 4096), .int .u8 (128 + r / 64 % 64), .int .u8 (128 + r % 64)]) (t := 5) (fr := (0, 0)) (heap_alloc_new w _)) (by simp [Value.oneCell']) (by simp only [maxLen]; omega) (by omega) (by simp; omega) ?_)
  intro v1 w1 hown1 hgr1 _
  go_wp2_with fail
  go_ret
  exact ⟨_, rfl, hown1, gtrans (World.grownBy_alloc w _ _) hgr1⟩
set_option maxRecDepth 100000 in
set_option maxHeartbeats 1000000 in
theorem nonascii4 (base : Nat) (v : Value) (n : Nat) (xs : List Value) (r : Int) (w : World) (hown : w.ownsRow base 5 1 v n xs) (hn : n ≤ 1000000) (hb : base ≤ w.heap.size) (h1 : 65535 < r) (h2 : r ≤ 1114111) :
    Calls Tryd.prog 27 #[v, .int .i32 r] w (Adds base w v n xs [.int .u8 (240 + r / 262144), .int .u8 (128 + r / 4096 % 64), .int .u8 (128 + r / 64 % 64), .int .u8 (128 + r % 64)]) := by
  obtain ⟨i0, hi, hz0, hz1, hz2⟩ := info_parts u8_info
  go_enter Tryd.func27, Tryd.ntmps27
  go_wp2_with (at_builtin; refine wpList_append_own _ rfl (.tmp 57) (.tmp 76) 41 rfl base 5 i0 _ 1 1 Tryd.underlying41 hi hz0 hz1 hz2 rfl (by decide) v n xs rfl (hown.alloc _) ⟨w.heap.size, 0, none⟩ 4 4 [.int .u8 (240 + r / 262144), .int .u8 (128 + r / 4096 % 64), .int .u8 (128 + r / 64 % 64), .int .u8 (128 + r % 64)] rfl rfl (World.news_of_block (cs := #[.int .u8 (240 + r / 262144), .int .u8 (128 + r / 4096 % 64), .int .u8 (128 + r / 64 % 64), .int .u8 (128 + r % 64)]) (t := 5) (fr := (0, 0)) (heap_alloc_new w _)) (by simp [Value.oneCell']) (by simp only [maxLen]; omega) (by omega) (by simp; omega) ?_)
  intro v1 w1 hown1 hgr1 _
  go_wp2_with fail
  go_ret
  exact ⟨_, rfl, hown1, gtrans (World.grownBy_alloc w _ _) hgr1⟩
set_option maxRecDepth 100000 in
set_option maxHeartbeats 1000000 in
theorem appendrune1 (base : Nat) (v : Value) (n : Nat) (xs : List Value) (r : Int) (w : World) (hown : w.ownsRow base 5 1 v n xs) (hn : n ≤ 1000000) (hb : base ≤ w.heap.size) (h0 : 0 ≤ r) (h1 : r < 128) :
    Calls Tryd.prog 19 #[v, .int .i32 r] w (Adds base w v n xs [.int .u8 (r)]) := by
  obtain ⟨i0, hi, hz0, hz1, hz2⟩ := info_parts u8_info
  go_enter Tryd.func19, Tryd.ntmps19
  go_wp2_with (at_builtin; refine wpList_append_own _ rfl (.tmp 8) (.tmp 11) 41 rfl base 5 i0 _ 1 1 Tryd.underlying41 hi hz0 hz1 hz2 rfl (by decide) v n xs rfl (hown.alloc _) ⟨w.heap.size, 0, none⟩ 1 1 [.int .u8 (r)] rfl rfl (World.news_of_block (cs := #[.int .u8 (r)]) (t := 5) (fr := (0, 0)) (heap_alloc_new w _)) (by simp [Value.oneCell']) (by simp only [maxLen]; omega) (by omega) (by simp; omega) ?_)
  intro v1 w1 hown1 hgr1 _
  go_wp2_with fail
  go_ret
  exact ⟨_, rfl, hown1, gtrans (World.grownBy_alloc w _ _) hgr1⟩
set_option maxRecDepth 100000 in
set_option maxHeartbeats 1000000 in
/-- AppendRune of a rune that may be. -/
theorem appendrune_any (base : Nat) (v : Value) (n : Nat) (xs : List Value) (r : Nat) (w : World) (hown : w.ownsRow base 5 1 v n xs) (hn : n ≤ 1000000) (hb : base ≤ w.heap.size) (h : r < 55296 ∨ 57344 ≤ r ∧ r ≤ 1114111) :
    Calls Tryd.prog 19 #[v, .int .i32 r] w (Adds base w v n xs (u8s (encN r))) := by
  by_cases h1 : r < 128
  · rw [enc1 r h1]; exact appendrune1 base v n xs r w hown hn hb (by omega) (by omega)
  · have C : Hid (Calls Tryd.prog 27 #[v, .int .i32 r] w (Adds base w v n xs (u8s (encN r)))) := by
      by_cases h2 : r < 2048
      · rw [enc2 r (by omega) h2]; exact nonascii2 base v n xs r w hown hn hb (by omega) (by omega)
      · by_cases h3 : r < 65536
        · rw [enc3 r (by omega) h3]
          by_cases h4 : r < 55296
          · exact nonascii3a base v n xs r w hown hn hb (by omega) (by omega)
          · exact nonascii3b base v n xs r w hown hn hb (by omega) (by omega)
        · rw [enc4 r (by omega)]; exact nonascii4 base v n xs r w hown hn hb (by omega) (by omega)
    have hr : (r : Int) ≤ 1114111 := by omega
    have hr2 : (128 : Int) ≤ (r : Int) := by omega
    clear h h1
    generalize (r : Int) = R at *
    go_enter Tryd.func19, Tryd.ntmps19
    go_wp2_with fail
    refine (C.out).mono ?_; rintro e w1 ⟨v1, rfl, hown1, hgr1⟩
    go_wp2_with fail
    go_ret
    exact ⟨_, rfl, hown1, hgr1⟩
theorem u8s_len (l : List Nat) : (u8s l).length = l.length := by simp [u8s]
theorem u8s_app (l r : List Nat) : u8s l ++ u8s r = u8s (l ++ r) := by simp [u8s]
theorem It.drawn {w : World} {k pos : Nat} {s : ByteArray} (h : It w k s pos) : It w.drew k s pos := h
theorem own_it {w : World} {B k n pos : Nat} {e : TypeId} {v : Value} {xs : List Value} {s : ByteArray} (h : w.ownsRow B e 1 v n xs) (hk : It w k s pos) : v.ownBlock ≠ some k := by
  rcases h.2 with ⟨rfl, _⟩ | ⟨g, cap, cur, rfl, _, hg, _⟩
  · simp [Value.ownBlock]
  · intro he
    have : g = k := by simpa [Value.ownBlock] using he
    subst this
    unfold It at hk; rw [hk] at hg; cases hg
theorem own_step {w : World} {B k n pos : Nat} {e : TypeId} {v : Value} {xs : List Value} {s : ByteArray} (h : w.ownsRow B e 1 v n xs) (hk : It w k s pos) (p : Nat) : (w.iterAt k s p).ownsRow B e 1 v n xs := by
  refine ⟨h.1, ?_⟩
  rcases h.2 with h2 | ⟨g, cap, cur, a, b, c, d⟩
  · exact .inl h2
  · refine .inr ⟨g, cap, cur, a, b, ?_, d⟩
    rw [Lib.iterAt_other _ _ _ _ _ (fun e => by subst e; unfold It at hk; rw [hk] at c; cases c)]
    exact c

theorem u8s_snoc (l : List Nat) (n : Nat) : u8s l ++ [.int .u8 (n : Int)] = u8s (l ++ [n]) := by simp [u8s]
theorem u8s_at (l : List Nat) (i : Nat) (h : i < l.length) : (u8s l)[i]? = some (.int .u8 ((l.map fun (n : Nat) => (n : Int)).getD i 0)) := by
  unfold u8s; simp [h]
theorem strOf_map (l : List Nat) : strOfNums (l.map fun (n : Nat) => (n : Int)) = mkB (l.map UInt8.ofNat) := by
  unfold strOfNums mkB; simp
theorem rune_ok (s : ByteArray) (pos : Nat) : (Utf8.decode s pos).1 < 55296 ∨ 57344 ≤ (Utf8.decode s pos).1 ∧ (Utf8.decode s pos).1 ≤ 1114111 := by
  rw [Lib.decode_at]
  have hp3 := decN_parts (s.size - pos) (s.get! pos).toNat (s.get! (pos + 1)).toNat (s.get! (pos + 2)).toNat (s.get! (pos + 3)).toNat
  rcases hp3 with ⟨h1, e⟩ | ⟨h1, e⟩ | ⟨hn, h1, h2, hv, e⟩ | ⟨hn, h1, h2, h3, hv, hv2, e⟩ | ⟨hn, h1, h2, h3, h4, hv, hv2, e⟩ <;> rw [e] <;> simp only <;> omega
theorem encN_len (R : Nat) : (encN R).length ≤ 4 := by unfold encN; repeat' split
                                                       all_goals simp
theorem conv_zero (w : World) (a : Option Addr) (c : Nat) : (convert 41 9 (.slice a 0 c)).run Tryd.prog w = .ok (.string (strOfNums [])) w := by
  rw [run_convert_bytes_string w _ _ _ _ 0 c Tryd.underlying41 Tryd.underlying5 Tryd.underlying9]
  cases a with
  | none => rfl
  | some ad =>
    simp [Conv.bytesToString, loadCells, loadCellsFrom]
    rfl

theorem rune_w (s : ByteArray) (pos : Nat) (hp : pos < s.size) : ∃ (wd R : Nat), Hid (Utf8.decode s pos = (R, wd)) ∧ 1 ≤ wd ∧ pos + wd ≤ s.size := by
  have hne : rest s pos ≠ [] := fun h => (rest_nil s pos).1 h hp
  have h := dl_wide (rest s pos) hne
  rw [rest_len, ← dl_at] at h
  obtain ⟨x, hx⟩ : ∃ x, Utf8.decode s pos = x := ⟨_, rfl⟩
  rw [hx] at h
  exact ⟨x.2, x.1, Hid.mk' hx, h.1, by omega⟩
/-- The small form of a rune. -/
def smN (r : Nat) : Nat := if 65 ≤ r ∧ r ≤ 90 then r + 32 else r
def fdFrom (s : ByteArray) : Nat → Nat → List Nat
  | 0, _ => []
  | f + 1, pos => if pos < s.size then encN (smN (Utf8.decode s pos).1) ++ fdFrom s f (pos + (Utf8.decode s pos).2) else []
def foldB (s : ByteArray) : ByteArray := mkB ((fdFrom s s.size 0).map UInt8.ofNat)
theorem fdFrom_len (s : ByteArray) : ∀ f pos, (fdFrom s f pos).length ≤ 4 * f := by
  intro f
  induction f with
  | zero => intro pos; simp [fdFrom]
  | succ f ih =>
    intro pos
    rw [fdFrom]
    split
    · rw [List.length_append]; have := ih (pos + (Utf8.decode s pos).2); have := encN_len (smN (Utf8.decode s pos).1); omega
    · simp
theorem foldB_len (s : ByteArray) : (foldB s).size ≤ 4 * s.size := by
  unfold foldB; rw [mkB_size, List.length_map]; exact fdFrom_len s s.size 0
set_option maxRecDepth 100000 in
set_option maxHeartbeats 4000000 in
theorem fold_any (s : ByteArray) (hs : s.size ≤ 20000) (w : World) : Calls Tryd.prog 8 #[.string s] w fun e w' => e = .returned (.string (foldB s)) ∧ Below w.heap.size w w' := by
  obtain ⟨i0, hi0, hz0, hz1, hz2⟩ := info_parts u8_info
  go_enter Tryd.func8, Tryd.ntmps8
  have hmk : i0.bytes * s.size ≤ 281474976710656 := by rw [hz2]; omega
  go_wp2_with (at_make; refine wpList_make_own _ rfl _ _ 41 rfl w.heap.size 5 i0 (.int .u8 0) 1 Tryd.underlying41 hi0 hz0 hz1 .i64 .i64 _ s.size rfl rfl (by omega) hmk (by unfold maxLen; omega) (Nat.le_refl _) ?_)
  intro w0 hown0 hgr0
  have hbel0 : Below w.heap.size w w0 := (Below.refl _ _).grown hgr0 (Nat.le_refl _) (fun k hk => by cases hk)
  clear hgr0 hmk
  go_wp2_with fail
  have hK : w.heap.size ≤ w0.heap.size := hbel0.size
  have hit1 := It.fresh w0 s 0
  have hown2 : (w0.iter s 0).ownsRow w.heap.size 5 1 (.slice (some ⟨w.heap.size, 0, none⟩) 0 s.size) 0 [] := hown0.alloc _
  have hbel2 : Below w.heap.size w (w0.iter s 0) := hbel0.alloc hbel0.size _
  clear hown0 hbel0
  generalize w0.heap.size = K at *
  generalize w0.iter s 0 = W2 at *
  go_loopw [3] (fun v wr => ∃ (pos f : Nat) (l : List Nat), It wr K s pos ∧ wr.ownsRow w.heap.size 5 1 v l.length (u8s l) ∧ Below w.heap.size w wr ∧ l.length ≤ 4 * pos ∧ pos ≤ s.size ∧ s.size ≤ pos + f ∧ Hid (l ++ fdFrom s f pos = fdFrom s s.size 0)) (fun _ wr => s.size - wr.iterPos K)
  case atStart => exact ⟨0, s.size, [], hit1, hown2, hbel2, by simp, by omega, by omega, rfl⟩
  case round =>
    obtain ⟨pos, f, l, hit, hown, hbel, hl, hpos, hf, hrun⟩ := hrel
    by_cases hp : pos < s.size
    · obtain ⟨wd, R, hdec, hw1, hw2⟩ := rune_w s pos hp
      obtain ⟨g, rfl⟩ : ∃ g, f = g + 1 := ⟨f - 1, by omega⟩
      have hd := hdec.out
      have hrun2 := hrun.out
      rw [fdFrom, if_pos hp, hd, ← List.append_assoc] at hrun2
      have hval : R < 55296 ∨ 57344 ≤ R ∧ R ≤ 1114111 := by have := rune_ok s pos; rw [hd] at this; exact this
      have hnx : ∀ ty, (Instr.next (.pointer (some ⟨K, 0, none⟩)) true ty).run Tryd.prog wr = .ok (.tuple #[.bool true, .int .i64 pos, .int .i32 R]) (wr.iterAt K s (pos + wd)) := fun ty => by
        have := Lib.run_next_any_at (P := Tryd.prog) wr K s pos ty hit hp
        rw [hd] at this; exact this
      have hit1 := hit.step (pos + wd)
      have hown1 := own_step hown hit (pos + wd)
      have hbel1 := Lib.below_iterAt hbel (k := K) hK s (pos + wd)
      have HPL := Hid.mk' hit.place
      have hsv : smN R < 55296 ∨ 57344 ≤ smN R ∧ smN R ≤ 1114111 := by unfold smN; split <;> omega
      have CA := Hid.mk' (appendrune_any w.heap.size u3 l.length (u8s l) (smN R) (wr.iterAt K s (pos + wd)) hown1 (by omega) hbel1.size hsv)
      have hql := encN_len (smN R)
      simp only at hrun2
      have HQ := Hid.mk' hrun2
      have hR2 : R ≤ 1114111 := by omega
      clear hrun2 hrun hd hit hown hbel hval hsv
      have fin : ∀ v2 w2, w2.ownsRow w.heap.size 5 1 v2 (l.length + (u8s (encN (smN R))).length) (u8s l ++ u8s (encN (smN R))) → (wr.iterAt K s (pos + wd)).grownBy w2 u3.ownBlock → It w2 K s (pos + wd) ∧ w2.ownsRow w.heap.size 5 1 v2 (l ++ encN (smN R)).length (u8s (l ++ encN (smN R))) ∧ Below w.heap.size w w2 := by
        intro v2 w2 hown2 hgr2
        refine ⟨It.grown hit1 hgr2 (own_it hown1 hit1), ?_, hbel1.grown hgr2 hbel1.size (fun k hk => (hown1.lt k hk).1)⟩
        rw [← u8s_app, List.length_append]
        rw [u8s_len] at hown2; exact hown2
      have FIN := Hid.mk' fin
      clear fin
      by_cases h : 65 ≤ R ∧ R ≤ 90
      · have hsm : smN R = R + 32 := if_pos h
        obtain ⟨Z, hZ⟩ : ∃ Z : Int, (R : Int) = Z := ⟨_, rfl⟩
        have hZ1 : (65 : Int) ≤ Z := by omega
        have hZ2 : Z ≤ (90 : Int) := by omega
        have CA2 : Hid (Calls Tryd.prog 19 #[u3, .int .i32 (Z + 32)] (wr.iterAt K s (pos + wd)) (Adds w.heap.size (wr.iterAt K s (pos + wd)) u3 l.length (u8s l) (u8s (encN (smN R))))) := by
          have := CA.out
          rw [show ((smN R : Nat) : Int) = Z + 32 from by rw [hsm]; omega] at this
          exact this
        rw [hZ] at hnx
        have HSM := Hid.mk' (And.intro hsm hZ)
        clear CA hsm hZ h
        go_wp2_with fail
        refine (CA2.out).mono ?_; rintro e w2 ⟨v2, rfl, hown2, hgr2⟩
        obtain ⟨hit2, hown3, hbel3⟩ := FIN.out v2 w2 hown2 hgr2
        clear hown2 hgr2 hown1 hit1 hbel1 CA2 FIN
        go_wp2_with fail
        go_roundw
        case rel => exact ⟨pos + wd, g, l ++ encN (smN R), hit2, hown3, hbel3, by rw [List.length_append]; omega, by omega, by omega, HQ⟩
        case measure => rw [hit2.place, HPL.out]; omega
      · have hsm : smN R = R := if_neg h
        obtain ⟨Z, hZ⟩ : ∃ Z : Int, (R : Int) = Z := ⟨_, rfl⟩
        have hZ1 : Z < 65 ∨ (65 ≤ Z ∧ 90 < Z) := by omega
        have CA2 : Hid (Calls Tryd.prog 19 #[u3, .int .i32 Z] (wr.iterAt K s (pos + wd)) (Adds w.heap.size (wr.iterAt K s (pos + wd)) u3 l.length (u8s l) (u8s (encN (smN R))))) := by
          have := CA.out
          rw [show ((smN R : Nat) : Int) = Z from by rw [hsm]; exact hZ] at this
          exact this
        rw [hZ] at hnx
        have HSM := Hid.mk' (And.intro hsm hZ)
        clear CA hsm hZ h
        rcases hZ1 with hZ1 | ⟨hZ1, hZ2⟩
        all_goals
          go_wp2_with fail
          refine (CA2.out).mono ?_; rintro e w2 ⟨v2, rfl, hown2, hgr2⟩
          obtain ⟨hit2, hown3, hbel3⟩ := FIN.out v2 w2 hown2 hgr2
          clear hown2 hgr2 hown1 hit1 hbel1 CA2 FIN
          go_wp2_with fail
          go_roundw
          case rel => exact ⟨pos + wd, g, l ++ encN (smN R), hit2, hown3, hbel3, by rw [List.length_append]; omega, by omega, by omega, HQ⟩
          case measure => rw [hit2.place, HPL.out]; omega
    · have hrun2 := hrun.out
      have hfin : l = fdFrom s s.size 0 := by
        cases f with
        | zero => simpa [fdFrom] using hrun2
        | succ g => rw [fdFrom, if_neg hp, List.append_nil] at hrun2; exact hrun2
      have hr := hfin
      have hnx : ∀ ty, (Instr.next (.pointer (some ⟨K, 0, none⟩)) true ty).run Tryd.prog wr = _ := fun ty => Lib.run_next_end_at wr K s pos ty hit hp
      have HC := Hid.mk' (show strOfNums (l.map fun (n : Nat) => (n : Int)) = foldB s by unfold foldB; rw [← hr]; exact strOf_map _)
      clear hr hrun hfin
      by_cases hl0 : l.length = 0
      · have hcv0 : ∀ a c, (convert 41 9 (.slice a 0 c)).run Tryd.prog wr = .ok (.string (foldB s)) wr := by
          intro a c
          rw [← HC.out]
          obtain rfl := List.eq_nil_of_length_eq_zero hl0
          exact conv_zero wr a c
        rcases hown.2 with ⟨rfl, _⟩ | ⟨g, cap, cur, rfl, _⟩
        · have hcv := hcv0 none 0
          clear hcv0
          go_wp2_with fail
          go_ret
          exact ⟨rfl, hbel⟩
        · rw [hl0] at *
          have hcv := hcv0 (some ⟨g, 0, none⟩) cap
          clear hcv0
          go_wp2_with fail
          go_ret
          exact ⟨rfl, hbel⟩
      · obtain ⟨gg, cap, hv, _, _⟩ := hown.form (by omega)
        subst hv
        have hcv := run_convert_bytes_arg (P := Tryd.prog) wr 41 5 Tryd.underlying41 Tryd.underlying5 gg 0 l.length cap (l.map fun (n : Nat) => (n : Int)) (by simp) (fun i hi => by
          rw [Nat.zero_add, hown.cellAt i (by omega), u8s_at _ _ hi]) 9 Tryd.underlying9
        rw [HC.out] at hcv
        clear hown hit
        go_wp2_with fail
        go_ret
        exact ⟨rfl, hbel⟩
end Go.Proofs.YtdckdhbnfakleaaDoor
