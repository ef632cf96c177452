/- Layer 1 (runes): a text in quotes, by the code. -/
import Derived.Test.YtnhonjhpggnglaaDoorEn
import Derived.Test.YtnhonjhpggnglaaDoorKz
import Derived.Deep.RegionHeld3
import Derived.Deep.RegionLaw
namespace Go.Proofs.YtnhonjhpggnglaaDoor
open Go.RowKit

def hexd (n : Nat) : Nat := if n < 10 then 48 + n else 87 + n
/-- What the rune at a place becomes in quotes. -/
def qAt (s : ByteArray) (pos : Nat) : List Nat :=
  if bad s pos = true ∨ bt s pos < 32 ∨ bt s pos = 127 then [92, 120, hexd (bt s pos / 16), hexd (bt s pos % 16)]
  else if bt s pos = 34 ∨ bt s pos = 92 then [92, bt s pos] else (mid s pos (pos + (Utf8.decode s pos).2)).map (·.toNat)
def qFrom (s : ByteArray) : Nat → Nat → List Nat
  | 0, _ => []
  | f + 1, pos => if pos < s.size then qAt s pos ++ qFrom s f (pos + (Utf8.decode s pos).2) else []
def quoteN (s : ByteArray) : List Nat := 34 :: qFrom s s.size 0 ++ [34]
def quoteB (s : ByteArray) : ByteArray := mkB ((quoteN s).map UInt8.ofNat)

/-- A rune's bytes are the bytes that it was read of. -/
theorem enc_mid (s : ByteArray) (pos : Nat) (hp : pos < s.size) (hb : bad s pos = false) : encN (Utf8.decode s pos).1 = (mid s pos (pos + (Utf8.decode s pos).2)).map (·.toNat) := by
  have hd := Lib.decode_at s pos
  have hp3 := decN_parts (s.size - pos) (bt s pos) (bt s (pos + 1)) (bt s (pos + 2)) (bt s (pos + 3))
  rw [show Lib.decodeN (s.size - pos) (bt s pos) (bt s (pos + 1)) (bt s (pos + 2)) (bt s (pos + 3)) = Utf8.decode s pos from hd.symm] at hp3
  have l0 := bt_lt s pos
  have l1 := bt_lt s (pos + 1)
  have l2 := bt_lt s (pos + 2)
  have l3 := bt_lt s (pos + 3)
  have step : ∀ b, pos ≤ b → b < s.size → (mid s pos (b + 1)).map (·.toNat) = (mid s pos b).map (·.toNat) ++ [bt s b] := fun b h1 h2 => by
    rw [mid_snoc s pos b h1 h2, List.map_append, List.map_cons, List.map_nil, bt_at s b h2]
  have z : (mid s pos pos).map (·.toNat) = [] := by rw [mid_self]; rfl
  rcases hp3 with ⟨h1, e⟩ | ⟨h1, e⟩ | ⟨hn, h1, h2, hv, e⟩ | ⟨hn, h1, h2, h3, hv, hv2, e⟩ | ⟨hn, h1, h2, h3, h4, hv, _, e⟩
  · rw [e, step pos (Nat.le_refl _) hp, z]; unfold encN; rw [if_pos h1]; rfl
  · unfold bad at hb; rw [e] at hb; simp at hb
  · rw [e, show pos + 2 = pos + 1 + 1 from rfl, step (pos + 1) (by omega) (by omega), step pos (Nat.le_refl _) hp, z]
    unfold encN; rw [if_neg (by omega), if_pos (by omega)]
    simp only [List.nil_append, List.cons_append, List.cons.injEq, and_true]; omega
  · rw [e, show pos + 3 = pos + 1 + 1 + 1 from rfl, step (pos + 1 + 1) (by omega) (by omega), step (pos + 1) (by omega) (by omega), step pos (Nat.le_refl _) hp, z]
    unfold encN; rw [if_neg (by omega), if_neg (by omega), if_pos (by omega)]
    simp only [List.nil_append, List.cons_append, List.cons.injEq, and_true]
    rw [show pos + 1 + 1 = pos + 2 from rfl]; omega
  · rw [e, show pos + 4 = pos + 1 + 1 + 1 + 1 from rfl, step (pos + 1 + 1 + 1) (by omega) (by omega), step (pos + 1 + 1) (by omega) (by omega), step (pos + 1) (by omega) (by omega), step pos (Nat.le_refl _) hp, z]
    unfold encN; rw [if_neg (by omega), if_neg (by omega), if_neg (by omega)]
    simp only [List.nil_append, List.cons_append, List.cons.injEq, and_true]
    rw [show pos + 1 + 1 = pos + 2 from rfl, show pos + 2 + 1 = pos + 3 from rfl]; omega
theorem u8s_len (l : List Nat) : (u8s l).length = l.length := by simp [u8s]
theorem u8s_app (l r : List Nat) : u8s l ++ u8s r = u8s (l ++ r) := by simp [u8s]
theorem It.drawn {w : World} {k pos : Nat} {s : ByteArray} (h : It w k s pos) : It w.drew k s pos := h
theorem own_it {w : World} {B k n pos : Nat} {e : TypeId} {v : Value} {xs : List Value} {s : ByteArray} (h : w.ownsRow B e 1 v n xs) (hk : It w k s pos) : v.ownBlock ≠ some k := by
  rcases h.2 with ⟨rfl, _⟩ | ⟨g, cap, cur, rfl, _, hg, _⟩
  · simp [Value.ownBlock]
  · intro he
    have : g = k := by simpa [Value.ownBlock] using he
    subst this
    unfold It at hk; rw [hk] at hg; cases hg
theorem own_step {w : World} {B k n pos : Nat} {e : TypeId} {v : Value} {xs : List Value} {s : ByteArray} (h : w.ownsRow B e 1 v n xs) (hk : It w k s pos) (p : Nat) : (w.iterAt k s p).ownsRow B e 1 v n xs := by
  refine ⟨h.1, ?_⟩
  rcases h.2 with h2 | ⟨g, cap, cur, a, b, c, d⟩
  · exact .inl h2
  · refine .inr ⟨g, cap, cur, a, b, ?_, d⟩
    rw [Lib.iterAt_other _ _ _ _ _ (fun e => by subst e; unfold It at hk; rw [hk] at c; cases c)]
    exact c

theorem u8s_snoc (l : List Nat) (n : Nat) : u8s l ++ [.int .u8 (n : Int)] = u8s (l ++ [n]) := by simp [u8s]
theorem u8s_at (l : List Nat) (i : Nat) (h : i < l.length) : (u8s l)[i]? = some (.int .u8 ((l.map fun (n : Nat) => (n : Int)).getD i 0)) := by
  unfold u8s; simp [h]
theorem strOf_map (l : List Nat) : strOfNums (l.map fun (n : Nat) => (n : Int)) = mkB (l.map UInt8.ofNat) := by
  unfold strOfNums mkB; simp
theorem qAt_esc (s : ByteArray) (pos : Nat) (h : bad s pos = true ∨ bt s pos < 32 ∨ bt s pos = 127) : qAt s pos = [92, 120, hexd (bt s pos / 16), hexd (bt s pos % 16)] := by unfold qAt; rw [if_pos h]
theorem qAt_back (s : ByteArray) (pos n : Nat) (hb : bad s pos = false) (h : bt s pos = n) (hn : n = 34 ∨ n = 92) : qAt s pos = [92, n] := by
  unfold qAt
  rw [if_neg (by rw [hb]; simp; omega), if_pos (by omega), h]
theorem qAt_other (s : ByteArray) (pos : Nat) (hp : pos < s.size) (hb : bad s pos = false) (h1 : bt s pos ≠ 34) (h2 : bt s pos ≠ 92) (h3 : bt s pos ≠ 127) (h4 : ¬ bt s pos < 32) : qAt s pos = encN (Utf8.decode s pos).1 := by
  unfold qAt
  rw [if_neg (by rw [hb]; simp; omega), if_neg (by omega), enc_mid s pos hp hb]
theorem rune_ok (s : ByteArray) (pos : Nat) : (Utf8.decode s pos).1 < 55296 ∨ 57344 ≤ (Utf8.decode s pos).1 ∧ (Utf8.decode s pos).1 ≤ 1114111 := by
  rw [Lib.decode_at]
  have hp3 := decN_parts (s.size - pos) (s.get! pos).toNat (s.get! (pos + 1)).toNat (s.get! (pos + 2)).toNat (s.get! (pos + 3)).toNat
  rcases hp3 with ⟨h1, e⟩ | ⟨h1, e⟩ | ⟨hn, h1, h2, hv, e⟩ | ⟨hn, h1, h2, h3, hv, hv2, e⟩ | ⟨hn, h1, h2, h3, h4, hv, hv2, e⟩ <;> rw [e] <;> simp only <;> omega
theorem fig_idx (n : Nat) (h : n < 16) (w : World) : (Instr.index 9 (.string ⟨#[48, 49, 50, 51, 52, 53, 54, 55, 56, 57, 97, 98, 99, 100, 101, 102]⟩) (.int .u8 (n : Int))).run Tryd.prog w = .ok (.int .u8 ((hexd n : Nat) : Int)) w := by
  rcases (show n = 0 ∨ n = 1 ∨ n = 2 ∨ n = 3 ∨ n = 4 ∨ n = 5 ∨ n = 6 ∨ n = 7 ∨ n = 8 ∨ n = 9 ∨ n = 10 ∨ n = 11 ∨ n = 12 ∨ n = 13 ∨ n = 14 ∨ n = 15 from by omega) with rfl | rfl | rfl | rfl | rfl | rfl | rfl | rfl | rfl | rfl | rfl | rfl | rfl | rfl | rfl | rfl <;> kernel_rfl
theorem and15 : ∀ b : Fin 256, bits BinOp.and IntKind.u8 (b.val : Int) 15 = (b.val : Int) % 16 := by decide +kernel
theorem and15_at (b : Nat) (h : b < 256) : bits BinOp.and IntKind.u8 (b : Int) 15 = (b : Int) % 16 := and15 ⟨b, h⟩
set_option maxRecDepth 100000 in
set_option maxHeartbeats 4000000 in
theorem quote_any (s : ByteArray) (hs : s.size ≤ 20000) (w : World) : Calls Tryd.prog 16 #[.string s] w fun e w' => e = .returned (.string (quoteB s)) ∧ Below w.heap.size w w' := by
  obtain ⟨i0, hi, hz0, hz1, hz2⟩ := info_parts u8_info
  have hm : s.size ≤ maxLen := Nat.le_trans hs (by unfold maxLen; omega)
  go_enter Tryd.func16, Tryd.ntmps16
  have hmk : i0.bytes * (s.size + 2) ≤ 281474976710656 := by rw [hz2]; omega
  go_wp2_with (at_make; refine wpList_make_own _ rfl _ _ 43 rfl w.heap.size 5 i0 (.int .u8 0) 1 Tryd.underlying43 hi hz0 hz1 .i64 .i64 _ (s.size + 2) rfl rfl (by omega) hmk (by unfold maxLen; omega) (Nat.le_refl _) ?_)
  intro w0 hown0 hgr0
  have hbel0 : Below w.heap.size w w0 := (Below.refl _ _).grown hgr0 (Nat.le_refl _) (fun k hk => by cases hk)
  clear hgr0 hmk
  go_wp2_with (at_builtin; refine wpList_append_own _ rfl (.tmp 10) (.tmp 11) 43 rfl w.heap.size 5 i0 _ 1 1 Tryd.underlying43 hi hz0 hz1 hz2 rfl (by decide) _ 0 [] rfl (hown0.alloc _) ⟨(w0).heap.size, 0, none⟩ 1 1 [.int .u8 34] rfl rfl (World.news_of_block (cs := #[.int .u8 34]) (t := 5) (fr := (0, 0)) (heap_alloc_new _ _)) (by simp [Value.oneCell']) (by simp only [maxLen]; omega) (by omega) (by have := hbel0.size; simp; omega) ?_)
  intro v1 w1 hown1 hgr1 _
  have hbel1 : Below w.heap.size w w1 := (hbel0.alloc hbel0.size _).grown hgr1 (by have := hbel0.size; simp; omega) (fun k hk => (hown0.lt k hk).1)
  clear hgr1 hown0 hbel0
  go_wp2_with fail
  have hK : w.heap.size ≤ w1.heap.size := hbel1.size
  have hit1 := It.fresh w1 s 0
  have hown2 : (w1.iter s 0).ownsRow w.heap.size 5 1 v1 (0 + 1) ([] ++ [.int .u8 34]) := hown1.alloc _
  have hbel2 : Below w.heap.size w (w1.iter s 0) := hbel1.alloc hbel1.size _
  clear hown1 hbel1
  generalize w1.heap.size = K at *
  generalize w1.iter s 0 = W2 at *
  go_loopw [3] (fun v wr => ∃ (pos f : Nat) (l : List Nat), It wr K s pos ∧ wr.ownsRow w.heap.size 5 1 v l.length (u8s l) ∧ Below w.heap.size w wr ∧ l.length ≤ 4 * pos + 1 ∧ pos ≤ s.size ∧ s.size ≤ pos + f ∧ Hid (l ++ qFrom s f pos = 34 :: qFrom s s.size 0)) (fun _ wr => s.size - wr.iterPos K)
  case atStart => exact ⟨0, s.size, [34], hit1, hown2, hbel2, by simp, by omega, by omega, rfl⟩
  case round =>
    obtain ⟨pos, f, l, hit, hown, hbel, hl, hpos, hf, hrun⟩ := hrel
    by_cases hp : pos < s.size
    · obtain ⟨wd, R, hdec, hw1, hw2, hseen0⟩ := rune_at s pos hp
      have hseen := Hid.mk' hseen0
      clear hseen0
      obtain ⟨g, rfl⟩ : ∃ g, f = g + 1 := ⟨f - 1, by omega⟩
      have hd := hdec.out
      have hrun2 := hrun.out
      rw [qFrom, if_pos hp, hd] at hrun2
      have CB := Hid.mk' (broken_any s hm pos R hp (by rw [hd]))
      have hnx : ∀ ty, (Instr.next (.pointer (some ⟨K, 0, none⟩)) true ty).run Tryd.prog wr = .ok (.tuple #[.bool true, .int .i64 pos, .int .i32 R]) (wr.iterAt K s (pos + wd)) := fun ty => by
        have := Lib.run_next_any_at (P := Tryd.prog) wr K s pos ty hit hp
        rw [hd] at this; exact this
      have hit1 := hit.step (pos + wd)
      have hown1 := own_step hown hit (pos + wd)
      have hbel1 := Lib.below_iterAt hbel (k := K) hK s (pos + wd)
      have HPL := Hid.mk' hit.place
      have hq := show qAt s pos = _ from rfl
      unfold qAt at hq
      have HQ := Hid.mk' hrun2
      clear hrun2 hrun hd hq hit hown hbel
      have hbadf : R ≠ 65533 → bad s pos = false := fun h => by
        unfold bad; rw [hdec.out, decide_eq_false_iff_not]; intro e; cases e; exact h rfl
      by_cases h34 : R = 34
      · subst h34
        have hq := qAt_back s pos 34 (hbadf (by decide)) ((hseen.out.1 34 (by omega)).1 rfl) (Or.inl rfl)
        have QQ := Hid.mk' hq
        clear hbadf hq
        go_wp2_with (at_builtin; refine wpList_append_own _ rfl (.tmp 29) (.tmp 32) 43 rfl w.heap.size 5 i0 _ 1 1 Tryd.underlying43 hi hz0 hz1 hz2 rfl (by decide) u3 l.length (u8s l) rfl (hown1.alloc _) ⟨(wr.iterAt K s (pos + wd)).heap.size, 0, none⟩ 2 2 [.int .u8 92, .int .u8 34] rfl rfl (World.news_of_block (cs := #[.int .u8 92, .int .u8 34]) (t := 5) (fr := (0, 0)) (heap_alloc_new _ _)) (by simp [Value.oneCell']) (by simp only [maxLen]; omega) (by omega) (by have := hbel1.size; simp; omega) ?_)
        intro v2 w2 hown2 hgr2 _
        have hbel3 : Below w.heap.size w w2 := (hbel1.alloc hbel1.size _).grown hgr2 (by have := hbel1.size; simp; omega) (fun k hk => (hown1.lt k hk).1)
        have hit2 : It w2 K s (pos + wd) := It.grown (hit1.past _) hgr2 (own_it hown1 hit1)
        have hown3 : w2.ownsRow w.heap.size 5 1 v2 (l ++ [92, 34]).length (u8s (l ++ [92, 34])) := by
          rw [← u8s_app, List.length_append]; exact hown2
        clear hown2 hgr2 hown1 hit1 hbel1
        go_wp2_with fail
        go_roundw
        case rel => exact ⟨pos + wd, g, l ++ [92, 34], hit2, hown3, hbel3, by simp; omega, by omega, by omega, by rw [List.append_assoc, ← QQ.out]; exact HQ.out⟩
        case measure => rw [hit2.place, HPL.out]; omega
      · by_cases h92 : R = 92
        · subst h92
          have hq := qAt_back s pos 92 (hbadf (by decide)) ((hseen.out.1 92 (by omega)).1 rfl) (Or.inr rfl)
          have QQ := Hid.mk' hq
          clear hbadf hq h34
          go_wp2_with (at_builtin; refine wpList_append_own _ rfl (.tmp 29) (.tmp 32) 43 rfl w.heap.size 5 i0 _ 1 1 Tryd.underlying43 hi hz0 hz1 hz2 rfl (by decide) u3 l.length (u8s l) rfl (hown1.alloc _) ⟨(wr.iterAt K s (pos + wd)).heap.size, 0, none⟩ 2 2 [.int .u8 92, .int .u8 92] rfl rfl (World.news_of_block (cs := #[.int .u8 92, .int .u8 92]) (t := 5) (fr := (0, 0)) (heap_alloc_new _ _)) (by simp [Value.oneCell']) (by simp only [maxLen]; omega) (by omega) (by have := hbel1.size; simp; omega) ?_)
          intro v2 w2 hown2 hgr2 _
          have hbel3 : Below w.heap.size w w2 := (hbel1.alloc hbel1.size _).grown hgr2 (by have := hbel1.size; simp; omega) (fun k hk => (hown1.lt k hk).1)
          have hit2 : It w2 K s (pos + wd) := It.grown (hit1.past _) hgr2 (own_it hown1 hit1)
          have hown3 : w2.ownsRow w.heap.size 5 1 v2 (l ++ [92, 92]).length (u8s (l ++ [92, 92])) := by
            rw [← u8s_app, List.length_append]; exact hown2
          clear hown2 hgr2 hown1 hit1 hbel1
          go_wp2_with fail
          go_roundw
          case rel => exact ⟨pos + wd, g, l ++ [92, 92], hit2, hown3, hbel3, by simp; omega, by omega, by omega, by rw [List.append_assoc, ← QQ.out]; exact HQ.out⟩
          case measure => rw [hit2.place, HPL.out]; omega
        · have hr1 : ((R : Int) == 34) = false := by rw [beq_eq_false_iff_ne]; omega
          have hr2 : ((R : Int) == 92) = false := by rw [beq_eq_false_iff_ne]; omega
          by_cases h32 : R < 32
          · have QQ := Hid.mk' (qAt_esc s pos (Or.inr (Or.inl (by rw [(hseen.out.1 R (by omega)).1 rfl]; exact h32))))
            clear hbadf h34 h92
            have hbl := bt_lt s pos
            have hf1 := fun w => fig_idx (bt s pos / 16) (by omega) w
            have hf2 := fun w => fig_idx (bt s pos % 16) (by omega) w
            rw [show ((bt s pos / 16 : Nat) : Int) = (bt s pos : Int) / 16 from by omega] at hf1
            rw [show ((bt s pos % 16 : Nat) : Int) = (bt s pos : Int) % 16 from by omega] at hf2
            have hand := and15_at (bt s pos) hbl
            have hbp := bt_at s pos hp
            generalize bt s pos = b at *
            go_wp2_with fail
            go_region_law (refine step_append_lies _ (by rfl) (.tmp 47) (.tmp 58) 43 (by rfl) w.heap.size 5 i0 _ 1 1 Tryd.underlying43 hi hz0 hz1 hz2 rfl (by decide) u3 l.length (u8s l) (by rfl) ((hown1.alloc _).drew) ⟨(wr.iterAt K s (pos + wd)).heap.size, 0, none⟩ 4 4 [.int .u8 92, .int .u8 120, .int .u8 (hexd (b / 16) : Nat), .int .u8 (hexd (b % 16) : Nat)] (by rfl) (by rfl) (World.news_of_block (cs := #[.int .u8 92, .int .u8 120, .int .u8 (hexd (b / 16) : Nat), .int .u8 (hexd (b % 16) : Nat)]) (t := 5) (fr := (0, 0)) (heap_alloc_new _ _)) (by simp [Value.oneCell']) (by omega) (by simp only [maxLen]; omega) (by omega) (by have := hbel1.size; simp; omega) ((wr.iterAt K s (pos + wd)).heap.size + 1) (by simp) ?_; intro gg cap w2 hown2 hgr2 hat hlt)
            all_goals
              have hbel3 : Below w.heap.size w w2 := (hbel1.alloc hbel1.size _).drew.grown hgr2 (by have := hbel1.size; simp; omega) (fun k hk => (hown1.lt k hk).1)
              have hit2 : It w2 K s (pos + wd) := It.grown ((hit1.past _).drawn) hgr2 (own_it hown1 hit1)
              have hown3 : w2.ownsRow w.heap.size 5 1 (.slice (some ⟨gg, 0, none⟩) (l.length + 4) cap) (l ++ [92, 120, hexd (b / 16), hexd (b % 16)]).length (u8s (l ++ [92, 120, hexd (b / 16), hexd (b % 16)])) := by
                rw [← u8s_app, List.length_append]; exact hown2
              clear hown2 hgr2 hown1 hit1 hbel1
              go_wp2_with fail
              go_roundw
              case rel => first | exact ⟨pos + wd, g, l ++ [92, 120, hexd (b / 16), hexd (b % 16)], hit2, hown3, hbel3, by rw [List.length_append]; simp only [List.length_cons, List.length_nil]; omega, by omega, by omega, by rw [List.append_assoc, ← QQ.out]; exact HQ.out⟩ | ((repeat apply Exists.intro); exact ⟨⟨pos + wd, g, l ++ [92, 120, hexd (b / 16), hexd (b % 16)], hit2, hown3, hbel3, by rw [List.length_append]; simp only [List.length_cons, List.length_nil]; omega, by omega, by omega, by rw [List.append_assoc, ← QQ.out]; exact HQ.out⟩, rfl⟩)
              case measure => rw [hit2.place, HPL.out]; omega
          · by_cases h127 : R = 127
            · have hr3 : ((R : Int) == 127) = true := by rw [h127]; rfl
              have QQ := Hid.mk' (qAt_esc s pos (Or.inr (Or.inr ((hseen.out.1 127 (by omega)).1 h127))))
              clear hbadf h34 h92 h127
              have hbl := bt_lt s pos
              have hf1 := fun w => fig_idx (bt s pos / 16) (by omega) w
              have hf2 := fun w => fig_idx (bt s pos % 16) (by omega) w
              rw [show ((bt s pos / 16 : Nat) : Int) = (bt s pos : Int) / 16 from by omega] at hf1
              rw [show ((bt s pos % 16 : Nat) : Int) = (bt s pos : Int) % 16 from by omega] at hf2
              have hand := and15_at (bt s pos) hbl
              have hbp := bt_at s pos hp
              generalize bt s pos = b at *
              go_wp2_with fail
              go_region_law (refine step_append_lies _ (by rfl) (.tmp 47) (.tmp 58) 43 (by rfl) w.heap.size 5 i0 _ 1 1 Tryd.underlying43 hi hz0 hz1 hz2 rfl (by decide) u3 l.length (u8s l) (by rfl) ((hown1.alloc _).drew) ⟨(wr.iterAt K s (pos + wd)).heap.size, 0, none⟩ 4 4 [.int .u8 92, .int .u8 120, .int .u8 (hexd (b / 16) : Nat), .int .u8 (hexd (b % 16) : Nat)] (by rfl) (by rfl) (World.news_of_block (cs := #[.int .u8 92, .int .u8 120, .int .u8 (hexd (b / 16) : Nat), .int .u8 (hexd (b % 16) : Nat)]) (t := 5) (fr := (0, 0)) (heap_alloc_new _ _)) (by simp [Value.oneCell']) (by omega) (by simp only [maxLen]; omega) (by omega) (by have := hbel1.size; simp; omega) ((wr.iterAt K s (pos + wd)).heap.size + 1) (by simp) ?_; intro gg cap w2 hown2 hgr2 hat hlt)
              all_goals
                have hbel3 : Below w.heap.size w w2 := (hbel1.alloc hbel1.size _).drew.grown hgr2 (by have := hbel1.size; simp; omega) (fun k hk => (hown1.lt k hk).1)
                have hit2 : It w2 K s (pos + wd) := It.grown ((hit1.past _).drawn) hgr2 (own_it hown1 hit1)
                have hown3 : w2.ownsRow w.heap.size 5 1 (.slice (some ⟨gg, 0, none⟩) (l.length + 4) cap) (l ++ [92, 120, hexd (b / 16), hexd (b % 16)]).length (u8s (l ++ [92, 120, hexd (b / 16), hexd (b % 16)])) := by
                  rw [← u8s_app, List.length_append]; exact hown2
                clear hown2 hgr2 hown1 hit1 hbel1
                go_wp2_with fail
                go_roundw
                case rel => first | exact ⟨pos + wd, g, l ++ [92, 120, hexd (b / 16), hexd (b % 16)], hit2, hown3, hbel3, by rw [List.length_append]; simp only [List.length_cons, List.length_nil]; omega, by omega, by omega, by rw [List.append_assoc, ← QQ.out]; exact HQ.out⟩ | ((repeat apply Exists.intro); exact ⟨⟨pos + wd, g, l ++ [92, 120, hexd (b / 16), hexd (b % 16)], hit2, hown3, hbel3, by rw [List.length_append]; simp only [List.length_cons, List.length_nil]; omega, by omega, by omega, by rw [List.append_assoc, ← QQ.out]; exact HQ.out⟩, rfl⟩)
                case measure => rw [hit2.place, HPL.out]; omega
            · have hr3 : ((R : Int) == 127) = false := by rw [beq_eq_false_iff_ne]; omega
              cases hbd : bad s pos with
              | true =>
                rw [hbd] at CB
                have QQ := Hid.mk' (qAt_esc s pos (Or.inl hbd))
                clear hbadf h34 h92 h127 hbd
                have hbl := bt_lt s pos
                have hf1 := fun w => fig_idx (bt s pos / 16) (by omega) w
                have hf2 := fun w => fig_idx (bt s pos % 16) (by omega) w
                rw [show ((bt s pos / 16 : Nat) : Int) = (bt s pos : Int) / 16 from by omega] at hf1
                rw [show ((bt s pos % 16 : Nat) : Int) = (bt s pos : Int) % 16 from by omega] at hf2
                have hand := and15_at (bt s pos) hbl
                have hbp := bt_at s pos hp
                generalize bt s pos = b at *
                go_wp2_with (go_at_call 18; refine (CB.out _).mono ?_; rintro e w' ⟨rfl, rfl⟩)
                go_region_law (refine step_append_lies _ (by rfl) (.tmp 47) (.tmp 58) 43 (by rfl) w.heap.size 5 i0 _ 1 1 Tryd.underlying43 hi hz0 hz1 hz2 rfl (by decide) u3 l.length (u8s l) (by rfl) ((hown1.alloc _).drew) ⟨(wr.iterAt K s (pos + wd)).heap.size, 0, none⟩ 4 4 [.int .u8 92, .int .u8 120, .int .u8 (hexd (b / 16) : Nat), .int .u8 (hexd (b % 16) : Nat)] (by rfl) (by rfl) (World.news_of_block (cs := #[.int .u8 92, .int .u8 120, .int .u8 (hexd (b / 16) : Nat), .int .u8 (hexd (b % 16) : Nat)]) (t := 5) (fr := (0, 0)) (heap_alloc_new _ _)) (by simp [Value.oneCell']) (by omega) (by simp only [maxLen]; omega) (by omega) (by have := hbel1.size; simp; omega) ((wr.iterAt K s (pos + wd)).heap.size + 1) (by simp) ?_; intro gg cap w2 hown2 hgr2 hat hlt)
                all_goals
                  have hbel3 : Below w.heap.size w w2 := (hbel1.alloc hbel1.size _).drew.grown hgr2 (by have := hbel1.size; simp; omega) (fun k hk => (hown1.lt k hk).1)
                  have hit2 : It w2 K s (pos + wd) := It.grown ((hit1.past _).drawn) hgr2 (own_it hown1 hit1)
                  have hown3 : w2.ownsRow w.heap.size 5 1 (.slice (some ⟨gg, 0, none⟩) (l.length + 4) cap) (l ++ [92, 120, hexd (b / 16), hexd (b % 16)]).length (u8s (l ++ [92, 120, hexd (b / 16), hexd (b % 16)])) := by
                    rw [← u8s_app, List.length_append]; exact hown2
                  clear hown2 hgr2 hown1 hit1 hbel1
                  go_wp2_with fail
                  go_roundw
                  case rel => first | exact ⟨pos + wd, g, l ++ [92, 120, hexd (b / 16), hexd (b % 16)], hit2, hown3, hbel3, by rw [List.length_append]; simp only [List.length_cons, List.length_nil]; omega, by omega, by omega, by rw [List.append_assoc, ← QQ.out]; exact HQ.out⟩ | ((repeat apply Exists.intro); exact ⟨⟨pos + wd, g, l ++ [92, 120, hexd (b / 16), hexd (b % 16)], hit2, hown3, hbel3, by rw [List.length_append]; simp only [List.length_cons, List.length_nil]; omega, by omega, by omega, by rw [List.append_assoc, ← QQ.out]; exact HQ.out⟩, rfl⟩)
                  case measure => rw [hit2.place, HPL.out]; omega
              | false =>
                rw [hbd] at CB
                have hq := qAt_other s pos hp hbd (fun h => h34 ((hseen.out.1 34 (by omega)).2 h)) (fun h => h92 ((hseen.out.1 92 (by omega)).2 h)) (fun h => h127 ((hseen.out.1 127 (by omega)).2 h)) (fun h => h32 (by rw [(hseen.out.1 (bt s pos) (by omega)).2 rfl]; exact h))
                rw [show (Utf8.decode s pos).1 = R from by rw [hdec.out]] at hq
                have QQ := Hid.mk' hq
                have hval : R < 55296 ∨ 57344 ≤ R ∧ R ≤ 1114111 := by have := rune_ok s pos; rw [hdec.out] at this; exact this
                have hql : (encN R).length ≤ 4 * wd := by
                  have h1 := enc_mid s pos hp hbd
                  rw [hdec.out] at h1
                  have h2 := congrArg List.length h1
                  rw [List.length_map, mid_len s pos (pos + wd) hw2] at h2
                  simp only at h2; omega
                have CA := Hid.mk' (appendrune_any w.heap.size u3 l.length (u8s l) R (wr.iterAt K s (pos + wd)) hown1 (by omega) hbel1.size hval)
                clear hbadf h34 h92 h127 hbd hq hval
                go_wp2_with fail
                refine (CB.out _).mono ?_; rintro e w' ⟨rfl, rfl⟩
                go_wp2_with fail
                refine (CA.out).mono ?_; rintro e w2 ⟨v2, rfl, hown2, hgr2⟩
                have hbel3 : Below w.heap.size w w2 := hbel1.grown hgr2 hbel1.size (fun k hk => (hown1.lt k hk).1)
                have hit2 : It w2 K s (pos + wd) := It.grown hit1 hgr2 (own_it hown1 hit1)
                have hown3 : w2.ownsRow w.heap.size 5 1 v2 (l ++ encN R).length (u8s (l ++ encN R)) := by
                  rw [← u8s_app, List.length_append]
                  rw [u8s_len] at hown2; exact hown2
                clear hown2 hgr2 hown1 hit1 hbel1
                go_wp2_with fail
                go_roundw
                case rel => exact ⟨pos + wd, g, l ++ encN R, hit2, hown3, hbel3, by rw [List.length_append]; omega, by omega, by omega, by rw [List.append_assoc, ← QQ.out]; exact HQ.out⟩
                case measure => rw [hit2.place, HPL.out]; omega
    · have hnx : ∀ ty, (Instr.next (.pointer (some ⟨K, 0, none⟩)) true ty).run Tryd.prog wr = _ := fun ty => Lib.run_next_end_at wr K s pos ty hit hp
      have hend : qFrom s f pos = [] := by cases f <;> simp [qFrom, hp]
      have hr := hrun.out
      rw [hend, List.append_nil] at hr
      have HR := Hid.mk' hr
      clear hr hend hrun
      go_wp2_with (at_builtin; refine wpList_append_own _ rfl (.tmp 60) (.tmp 61) 43 rfl w.heap.size 5 i0 _ 1 1 Tryd.underlying43 hi hz0 hz1 hz2 rfl (by decide) u3 l.length (u8s l) rfl (hown.alloc _) ⟨wr.heap.size, 0, none⟩ 1 1 [.int .u8 34] rfl rfl (World.news_of_block (cs := #[.int .u8 34]) (t := 5) (fr := (0, 0)) (heap_alloc_new _ _)) (by simp [Value.oneCell']) (by simp only [maxLen]; omega) (by omega) (by have := hbel.size; simp; omega) ?_)
      intro v2 w2 hown2 hgr2 _
      have hbel3 : Below w.heap.size w w2 := (hbel.alloc hbel.size _).grown hgr2 (by have := hbel.size; simp; omega) (fun k hk => (hown.lt k hk).1)
      obtain ⟨gg, cap, hv, _, _⟩ := hown2.form (by omega)
      subst hv
      have hcv := run_convert_bytes_arg (P := Tryd.prog) w2 43 5 Tryd.underlying43 Tryd.underlying5 gg 0 (l.length + 1) cap ((l ++ [34]).map fun (n : Nat) => (n : Int)) (by simp) (fun i hi => by
        rw [Nat.zero_add, hown2.cellAt i (by omega)]
        show (u8s l ++ u8s [34])[i]? = _
        rw [u8s_app, u8s_at _ _ (by simp; omega)]) 9 Tryd.underlying9
      have HC := Hid.mk' (show strOfNums ((l ++ [34]).map fun (n : Nat) => (n : Int)) = quoteB s by unfold quoteB quoteN; rw [HR.out]; exact strOf_map _)
      rw [HC.out] at hcv
      clear hown2 hgr2 hown hit hbel
      go_wp2_with fail
      go_ret
      exact ⟨rfl, hbel3⟩
end Go.Proofs.YtnhonjhpggnglaaDoor
