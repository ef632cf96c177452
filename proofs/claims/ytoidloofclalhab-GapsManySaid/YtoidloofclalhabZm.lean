/- Layer 47 (gaps): the statement GapsMany's walk. -/
import Derived.Test.YtoidloofclalhabZl
namespace Go.Proofs.Ytoidloofclalhab
open Go.RowKit

def rng (k : Nat) : List Int := (List.range k).map fun (i : Nat) => (i : Int)
theorem rng_len (k : Nat) : (rng k).length = k := by simp [rng]
theorem rng_next (k : Nat) : rng (k + 1) = rng k ++ [(k : Int)] := by simp [rng, List.range_succ]
theorem rng_lst : ∀ k : Nat, lst 0 (rng k) = k
  | 0 => rfl
  | k + 1 => by rw [rng_next, lst_snoc]; omega
theorem rng_ok : ∀ k : Nat, k ≤ 4611686018427387904 → okF 0 (rng k) = true
  | 0, _ => rfl
  | k + 1, h => by rw [rng_next, okF_snoc, rng_ok k (by omega), rng_lst, decide_eq_true ⟨Int.le_refl _, by omega⟩]; rfl
theorem rng_okB (k : Nat) (h : k ≤ 5000) : okB (rng k) = decide (k ≤ 4096) := by
  unfold okB
  rw [rng_ok k (by omega), rng_len, Bool.true_and]
theorem gmany_out (n : Int) (h : n < 0 ∨ 10 < n) (w : World) :
    Calls Try.prog 9 #[.int .i64 n] w fun e w' => e = .returned (.bool true) ∧ Below w.heap.size w w' := by
  by_cases h0 : n < 0
  · go_enter Try.func9, Try.ntmps9
    go_wp2_with fail
    go_ret
    exact ⟨rfl, Below.refl _ _⟩
  · have h1 : 10 < n := by omega
    go_enter Try.func9, Try.ntmps9
    go_wp2_with fail
    go_ret
    exact ⟨rfl, Below.refl _ _⟩
set_option maxRecDepth 100000 in
set_option maxHeartbeats 4000000 in
theorem gmany_in (n : Nat) (h : n ≤ 10) (w : World) :
    Calls Try.prog 9 #[.int .i64 n] w fun e w' => e = .returned (.bool true) ∧ Below w.heap.size w w' := by
  obtain ⟨i0, hi, hz0, hz1, hz2⟩ := info_parts i_info
  have HI := Hid.mk' (And.intro hi (And.intro hz0 (And.intro hz1 hz2)))
  clear hi hz0 hz1 hz2
  have H0 := Lib.hid (show IO w w.heap.size (.slice none 0 0) (rng 0) ∧ Below w.heap.size w w from ⟨IO.nil _ _, Below.refl _ _⟩)
  have HB := Lib.hid (rng_okB (4096 + n) (by omega))
  have HIZ : Hid ((∀ x ∈ rng (4096 + n), IZ x) ∧ (rng (4096 + n)).length ≤ 5000) := Lib.hid ⟨okF_iz _ 0 (rng_ok _ (by omega)) (by omega), by rw [rng_len]; omega⟩
  go_enter Try.func9, Try.ntmps9
  go_wp2_with fail
  go_loopw [3, 4] (fun s i wr => ∃ (k : Nat) (v3 : Value), i = .int .i64 k ∧ v3 = s ∧ k ≤ 4096 + n ∧ Hid (IO wr w.heap.size v3 (rng k) ∧ Below w.heap.size w wr)) (fun _ i _ => 4096 + n - (intOf i).toNat)
  case atStart => exact ⟨0, _, rfl, rfl, Nat.zero_le _, H0⟩
  case round =>
    obtain ⟨k, v3, rfl, rfl, hk, HP⟩ := hrel
    clear H0
    by_cases hlt : k < 4096 + n
    · have hltz : (k : Int) < 4096 + (n : Int) := by omega
      have hsz := HP.out.2.size
      have HRN := Lib.hid (And.intro (rng_len k) (rng_next k))
      have HO : Hid (wr.ownsRow w.heap.size 3 1 v3 k (iv (rng k))) := Lib.hid (by
        have := HP.out.1
        unfold IO at this
        rw [rng_len] at this
        exact this)
      go_wp2_with (at_builtin; refine wpList_append_own _ rfl (.tmp 19) (.tmp 21) 43 rfl w.heap.size 3 i0 _ 1 8 Try.underlying43 HI.out.1 HI.out.2.1 HI.out.2.2.1 HI.out.2.2.2 rfl (by decide) _ k (iv (rng k)) rfl (World.ownsRow.alloc HO.out _) ⟨wr.heap.size, 0, none⟩ 1 1 [.int .i64 (k : Int)] rfl rfl ?c1 ?c2 ?c3 ?c4 ?c5 ?_)
      case c1 => exact World.news_of_block (cs := #[.int .i64 (k : Int)]) (t := 3) (fr := (0, 0)) (heap_alloc_new wr _)
      case c2 => simp [Value.oneCell']
      case c3 => simp only [maxLen]; omega
      case c4 => omega
      case c5 => simp; omega
      intro v4 W4 hown4 hgr4 _
      have HN4 : Hid (IO W4 w.heap.size v4 (rng (k + 1)) ∧ Below w.heap.size w W4) := Lib.hid ⟨by
        rw [HRN.out.2]
        unfold IO
        rw [List.length_append, HRN.out.1, iv_snoc]
        exact hown4, (HP.out.2.alloc hsz (.cells #[.int .i64 (k : Int)] 3)).grown hgr4 (by simp; omega) (fun j hj => (World.ownsRow.lt HO.out j hj).1)⟩
      clear hown4 hgr4
      go_wp2_with fail
      go_roundw
      case rel => exact ⟨k + 1, v4, by go_num, rfl, by omega, HN4⟩
      case measure => simp [intOf]; omega
    · obtain rfl : k = 4096 + n := by omega
      have HIR := Lib.hid (IO.ir HP.out.1 HIZ.out.1 (by have := HIZ.out.2; unfold maxLen; omega))
      have hPut := gput_any (.slice none 0 0) v3 [] (rng (4096 + n)) (by simp) (by have := HIZ.out.2; omega) wr (BS.nil wr) HIR.out
      have HSize := Lib.hid (fun W (hb : Below wr.heap.size wr W) => gsize_any v3 (rng (4096 + n)) (by have := HIZ.out.2; omega) W (HIR.out.next hb))
      have hgl := (gB_len (rng (4096 + n))).1
      have HBW := Lib.hid HP.out.2
      by_cases hn : n = 0
      · have e : okB (rng (4096 + n)) = true := by rw [HB.out, decide_eq_true (by omega)]
        unfold PutE at hPut
        rw [e] at hPut HSize
        rw [if_pos rfl] at HSize
        have HPut := Lib.hid hPut
        have hd : ((n : Int) == 0) = true := by simpa using hn
        clear hPut HB HIZ e HP hn
        generalize (gB (rng (4096 + n))).length = L at *
        have hLp : (0 : Int) < (L : Int) := by omega
        go_wp2_with fail
        refine (HPut.out).mono ?_; rintro e w1 ⟨v1, rfl, _, hb1⟩
        have H1 := Lib.hid hb1
        clear hb1
        go_wp2_with fail
        refine (HSize.out _ H1.out).mono ?_; rintro e w2 ⟨rfl, hb2⟩
        have H2 := Lib.hid (bnext (bnext HBW.out H1.out) hb2)
        clear hb2
        go_wp2_with fail
        refine (alive47_any _).mono ?_; rintro e w3 ⟨rfl, hb3⟩
        have H3 := Lib.hid (bnext H2.out hb3)
        clear hb3
        go_wp2_with fail
        go_ret
        exact ⟨rfl, H3.out⟩
      · have e : okB (rng (4096 + n)) = false := by rw [HB.out, decide_eq_false (by omega)]
        unfold PutE at hPut
        rw [e] at hPut HSize
        rw [if_neg (by simp)] at HSize
        have HPut := Lib.hid hPut
        have hd : ((n : Int) == 0) = false := by simpa using hn
        clear hPut HB HIZ e HP hn hgl
        go_wp2_with fail
        refine (HPut.out).mono ?_; rintro e w1 ⟨v1, rfl, _, hb1⟩
        have H1 := Lib.hid hb1
        clear hb1
        go_wp2_with fail
        refine (HSize.out _ H1.out).mono ?_; rintro e w2 ⟨rfl, hb2⟩
        have H2 := Lib.hid (bnext (bnext HBW.out H1.out) hb2)
        clear hb2
        go_wp2_with fail
        refine (alive47_any _).mono ?_; rintro e w3 ⟨rfl, hb3⟩
        have H3 := Lib.hid (bnext H2.out hb3)
        clear hb3
        go_wp2_with fail
        go_ret
        exact ⟨rfl, H3.out⟩
theorem gmanylaw (n : Int) (w : World) :
    Calls Try.prog 9 #[.int .i64 n] w fun e w' => e = .returned (.bool true) ∧ Below w.heap.size w w' := by
  by_cases h : n < 0 ∨ 10 < n
  · exact gmany_out n h w
  · obtain ⟨m, rfl⟩ : ∃ m : Nat, n = m := ⟨n.toNat, by omega⟩
    exact gmany_in m (by omega) w
end Go.Proofs.Ytoidloofclalhab
