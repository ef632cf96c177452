/- Layer 39 (fold): Sort of three; the chapter's example. -/
import Derived.Test.YtdckdhbnfakleaaDoorFh
namespace Go.Proofs.YtdckdhbnfakleaaDoor
open Go.RowKit

/-- Weighed texts in a row of the call's own, each with its row of chunks. -/
def flatW (L : List (ByteArray × Value)) : List Value := L.flatMap fun x => [.string x.1, x.2]
theorem flatW_snoc (L : List (ByteArray × Value)) (x : ByteArray × Value) : flatW (L ++ [x]) = flatW L ++ [.string x.1, x.2] := by simp [flatW]
def WkO (w : World) (B : Nat) (v : Value) (L : List (ByteArray × Value)) : Prop := w.ownsRow B 46 2 v L.length (flatW L) ∧ ∀ x ∈ L, CkO w 0 x.2 (weighS x.1).2
theorem own_apart {w : World} {B B' : Nat} {e e' : TypeId} {sz sz' n n' : Nat} {v v' : Value} {xs xs' : List Value} (h : w.ownsRow B e sz v n xs) (h' : w.ownsRow B' e' sz' v' n' xs') (hne : e ≠ e') : v.ownBlock = none ∨ v.ownBlock ≠ v'.ownBlock := by
  rcases h.2 with ⟨rfl, _⟩ | ⟨g, cap, cur, rfl, _, hg, _⟩
  · exact .inl rfl
  · right
    rcases h'.2 with ⟨rfl, _⟩ | ⟨g', cap', cur', rfl, _, hg', _⟩
    · simp [Value.ownBlock]
    · intro e1
      simp [Value.ownBlock] at e1
      subst e1
      rw [hg] at hg'
      cases hg'
      exact hne rfl
theorem WkO.next {w w' : World} {B : Nat} {v : Value} {L : List (ByteArray × Value)} (h : WkO w B v L) (hb : Below w.heap.size w w') : WkO w' B v L := ⟨own_next h.1 hb, fun x hx => (h.2 x hx).next hb⟩
theorem WkO.more {w w' : World} {B : Nat} {v v' : Value} {L : List (ByteArray × Value)} {x : ByteArray × Value} (h : WkO w B v L) (hx : CkO w 0 x.2 (weighS x.1).2) (hg : w.grownBy w' v.ownBlock) (ho : w'.ownsRow B 46 2 v' (L.length + 1) (flatW L ++ [.string x.1, x.2])) : WkO w' B v' (L ++ [x]) := by
  refine ⟨by rw [List.length_append, flatW_snoc]; exact ho, fun y hy => ?_⟩
  rcases List.mem_append.1 hy with h1 | h1
  · exact World.ownsRow.kept (h.2 y h1) hg (own_apart (h.2 y h1) h.1 (by decide))
  · simp at h1; subst h1; exact World.ownsRow.kept hx hg (own_apart hx h.1 (by decide))
theorem wk_info : (Tryd.prog.info? 46).map (fun i => (i.zero, i.size, i.bytes)) = some (some (.agg #[.string ⟨#[]⟩, .slice none 0 0]), 2, 40) := by kernel_rfl
theorem st_info : (Tryd.prog.info? 9).map (fun i => (i.zero, i.size, i.bytes)) = some (some (.string ⟨#[]⟩), 1, 16) := by kernel_rfl
/-- That one is ahead, in every later world. -/
theorem ahd_of {w : World} {g cap : Nat} {xs : List Value} {s t : ByteArray} {v u : Value} (hs : s.size ≤ 1000) (ht : t.size ≤ 1000) (hr : Rw w w g cap xs) (h1 : CkO w 0 v (weighS s).2) (h2 : CkO w 0 u (weighS t).2) (hc : natS s t = -1) : Ahd w g cap (.agg #[.string s, v]) (.agg #[.string t, u]) := by
  intro W ys hW
  have k1 := World.ownsRow.kept h1 hW.1 (own_apart h1 hr.2 (by decide))
  have k2 := World.ownsRow.kept h2 hW.1 (own_apart h2 hr.2 (by decide))
  refine (compare_any (weighS s) (weighS t) v u (by have := weighS_len s hs; omega) (by have := weighS_len t ht; omega) (weighS_sz s hs) (weighS_sz t ht) W k1 k2).mono ?_
  rintro e w' ⟨rfl, hb⟩
  exact ⟨ret_i hc, hb⟩
theorem base0_ {w : World} {B sz n : Nat} {e : TypeId} {v : Value} {xs : List Value} (h : w.ownsRow B e sz v n xs) : w.ownsRow 0 e sz v n xs := by
  refine ⟨h.1, ?_⟩
  rcases h.2 with h2 | ⟨g, cap, cur, a, b, c, d⟩
  · exact .inl h2
  · exact .inr ⟨g, cap, cur, a, Nat.zero_le _, c, d⟩
theorem map_take {L : List (ByteArray × Value)} {a b c : ByteArray} {k : Nat} (h : L.map (·.1) = [a, b, c].take k) (hk : k ≤ 3) : L.length = k := by
  have := congrArg List.length h
  rw [List.length_map, List.length_take] at this
  simp at this
  omega
theorem three_of {L : List (ByteArray × Value)} {a b c : ByteArray} (h : L.map (·.1) = [a, b, c]) : ∃ u v x, L = [(a, u), (b, v), (c, x)] := by
  match L, h with
  | [(a', u), (b', v), (c', x)], h =>
    simp only [List.map_cons, List.map_nil, List.cons.injEq, and_true] at h
    obtain ⟨rfl, rfl, rfl⟩ := h
    exact ⟨u, v, x, rfl⟩
set_option maxRecDepth 100000 in
set_option maxHeartbeats 8000000 in
theorem sort3 (gl kl : Nat) (s0 s1 s2 : ByteArray) (z0 : s0.size ≤ 1000) (z1 : s1.size ≤ 1000) (z2 : s2.size ≤ 1000) (h10 : natS s1 s0 = -1) (h20 : natS s2 s0 = -1) (h21 : natS s2 s1 = -1) (hab : (s1.toList == s2.toList) = false) (hbc : (s0.toList == s1.toList) = false) (w : World) (hT : T3 w gl s0 s1 s2) :
    Calls Tryd.prog 16 #[.slice (some ⟨gl, 0, none⟩) 3 kl] w fun e w' => ∃ g' k', e = .returned (.slice (some ⟨g', 0, none⟩) 3 k') ∧ T3 w' g' s2 s1 s0 ∧ Below w.heap.size w w' := by
  obtain ⟨i0, hi0, hz0, hz1, hz2⟩ := info_parts wk_info
  obtain ⟨j0, hj0, hy0, hy1, hy2⟩ := info_parts st_info
  have HI := Hid.mk' (And.intro hi0 (And.intro hz0 (And.intro hz1 hz2)))
  have HJ := Hid.mk' (And.intro hj0 (And.intro hy0 (And.intro hy1 hy2)))
  have HT := Hid.mk' hT
  have HN := Hid.mk' (And.intro h10 (And.intro h20 h21))
  have HE := Hid.mk' (And.intro hab hbc)
  have HZ := Hid.mk' (And.intro z0 (And.intro z1 z2))
  have hmk : i0.bytes * 3 ≤ 281474976710656 := by rw [hz2]; omega
  clear hT h10 h20 h21 hab hbc z0 z1 z2 hi0 hz0 hz1 hz2 hj0 hy0 hy1 hy2
  go_enter Tryd.func16, Tryd.ntmps16
  go_wp2_with (at_make; refine wpList_make_own _ rfl _ _ 49 rfl w.heap.size 46 i0 (.agg #[.string ⟨#[]⟩, .slice none 0 0]) 2 Tryd.underlying49 HI.out.1 HI.out.2.1 HI.out.2.2.1 .i64 .i64 _ 3 rfl rfl (by omega) hmk (by unfold maxLen; omega) (Nat.le_refl _) ?_)
  intro w0 hown0 hgr0
  have START := Hid.mk' (show WkO w0 w.heap.size (.slice (some ⟨w.heap.size, 0, none⟩) 0 3) [] ∧ Below w.heap.size w w0 from ⟨⟨hown0, fun x hx => by cases hx⟩, (Below.refl _ _).grown hgr0 (Nat.le_refl _) (fun k hk => by cases hk)⟩)
  clear hgr0 hmk hown0
  go_wp2_with fail
  go_loopw [3, 14] (fun v i wr => ∃ (k : Nat) (L : List (ByteArray × Value)), i = .int .i64 k ∧ k ≤ 3 ∧ L.map (·.1) = [s0, s1, s2].take k ∧ Hid (WkO wr w.heap.size v L ∧ Below w.heap.size w wr)) (fun _ i _ => 3 - (intOf i).toNat)
  case atStart => exact ⟨0, [], rfl, by omega, rfl, START⟩
  case round =>
    clear START
    obtain ⟨k, L, rfl, hk, hL, HP⟩ := hrel
    have HLk := Hid.mk' (map_take hL hk)
    have HLM := Hid.mk' hL
    clear hL
    rcases (show k = 0 ∨ k = 1 ∨ k = 2 ∨ k = 3 from by omega) with rfl | rfl | rfl | rfl
    · obtain ⟨x0, x1, x2⟩ := HT.out.next HP.out.2
      have C := Hid.mk' (weigh_any s0 HZ.out.1 wr)
      go_wp2_with fail
      refine C.out.mono ?_; rintro e w1 ⟨v1, rfl, hck, hb1⟩
      obtain ⟨a1, c1, rfl⟩ := hck.form
      have HC := Hid.mk' (And.intro (HP.out.1.next hb1) (And.intro (hck.base (Nat.zero_le _)) (bnext HP.out.2 hb1)))
      have hsz := HC.out.2.2.size
      clear hck hb1 C x0 x1 x2
      go_wp2_with (at_builtin; refine wpList_append_own _ rfl (.tmp 18) (.tmp 21) 49 rfl w.heap.size 46 i0 _ 2 40 Tryd.underlying49 HI.out.1 HI.out.2.1 HI.out.2.2.1 HI.out.2.2.2 rfl (by decide) u3 L.length (flatW L) rfl (World.ownsRow.alloc HC.out.1.1 _) ⟨w1.heap.size, 0, none⟩ 1 1 [.string s0, .slice a1 (weighS s0).2.length c1] rfl rfl ?d1_0 ?d2_0 ?d3_0 ?d4_0 ?d5_0 ?_)
      try case d1_0 => exact World.news_of_block (cs := #[.string s0, .slice a1 (weighS s0).2.length c1]) (t := 46) (fr := (0, 0)) (heap_alloc_new w1 _)
      case d2_0 => simp [Value.oneCell']
      case d3_0 => have := HLk.out; simp only [maxLen]; omega
      case d4_0 => have := HLk.out; omega
      case d5_0 => first | omega | (simp; omega)
      intro v4 W4 hown4 hgr4 _
      have e1 : Below w1.heap.size w1 (w1.alloc (.cells #[.string s0, .slice a1 (weighS s0).2.length c1] 46)) := (Below.refl _ _).alloc (Nat.le_refl _) _
      have HQ := Hid.mk' (show WkO W4 w.heap.size v4 (L ++ [(s0, .slice a1 (weighS s0).2.length c1)]) ∧ Below w.heap.size w W4 from ⟨(HC.out.1.next e1).more (x := (s0, .slice a1 (weighS s0).2.length c1)) (HC.out.2.1.next e1) hgr4 hown4, (bnext HC.out.2.2 e1).grown hgr4 (Nat.le_trans hsz e1.size) (fun k hk => (HC.out.1.1.lt k hk).1)⟩)
      clear hown4 hgr4 e1
      go_wp2_with fail
      go_roundw
      case rel => exact ⟨1, _, by go_num, by omega, by rw [List.map_append, HLM.out]; rfl, HQ⟩
      case measure => simp [intOf]
    · obtain ⟨x0, x1, x2⟩ := HT.out.next HP.out.2
      have C := Hid.mk' (weigh_any s1 HZ.out.2.1 wr)
      go_wp2_with fail
      refine C.out.mono ?_; rintro e w1 ⟨v1, rfl, hck, hb1⟩
      obtain ⟨a1, c1, rfl⟩ := hck.form
      have HC := Hid.mk' (And.intro (HP.out.1.next hb1) (And.intro (hck.base (Nat.zero_le _)) (bnext HP.out.2 hb1)))
      have hsz := HC.out.2.2.size
      clear hck hb1 C x0 x1 x2
      go_wp2_with (at_builtin; refine wpList_append_own _ rfl (.tmp 18) (.tmp 21) 49 rfl w.heap.size 46 i0 _ 2 40 Tryd.underlying49 HI.out.1 HI.out.2.1 HI.out.2.2.1 HI.out.2.2.2 rfl (by decide) u3 L.length (flatW L) rfl (World.ownsRow.alloc HC.out.1.1 _) ⟨w1.heap.size, 0, none⟩ 1 1 [.string s1, .slice a1 (weighS s1).2.length c1] rfl rfl ?d1_1 ?d2_1 ?d3_1 ?d4_1 ?d5_1 ?_)
      try case d1_1 => exact World.news_of_block (cs := #[.string s1, .slice a1 (weighS s1).2.length c1]) (t := 46) (fr := (0, 0)) (heap_alloc_new w1 _)
      case d2_1 => simp [Value.oneCell']
      case d3_1 => have := HLk.out; simp only [maxLen]; omega
      case d4_1 => have := HLk.out; omega
      case d5_1 => first | omega | (simp; omega)
      intro v4 W4 hown4 hgr4 _
      have e1 : Below w1.heap.size w1 (w1.alloc (.cells #[.string s1, .slice a1 (weighS s1).2.length c1] 46)) := (Below.refl _ _).alloc (Nat.le_refl _) _
      have HQ := Hid.mk' (show WkO W4 w.heap.size v4 (L ++ [(s1, .slice a1 (weighS s1).2.length c1)]) ∧ Below w.heap.size w W4 from ⟨(HC.out.1.next e1).more (x := (s1, .slice a1 (weighS s1).2.length c1)) (HC.out.2.1.next e1) hgr4 hown4, (bnext HC.out.2.2 e1).grown hgr4 (Nat.le_trans hsz e1.size) (fun k hk => (HC.out.1.1.lt k hk).1)⟩)
      clear hown4 hgr4 e1
      go_wp2_with fail
      go_roundw
      case rel => exact ⟨2, _, by go_num, by omega, by rw [List.map_append, HLM.out]; rfl, HQ⟩
      case measure => simp [intOf]
    · obtain ⟨x0, x1, x2⟩ := HT.out.next HP.out.2
      have C := Hid.mk' (weigh_any s2 HZ.out.2.2 wr)
      go_wp2_with fail
      refine C.out.mono ?_; rintro e w1 ⟨v1, rfl, hck, hb1⟩
      obtain ⟨a1, c1, rfl⟩ := hck.form
      have HC := Hid.mk' (And.intro (HP.out.1.next hb1) (And.intro (hck.base (Nat.zero_le _)) (bnext HP.out.2 hb1)))
      have hsz := HC.out.2.2.size
      clear hck hb1 C x0 x1 x2
      go_wp2_with (at_builtin; refine wpList_append_own _ rfl (.tmp 18) (.tmp 21) 49 rfl w.heap.size 46 i0 _ 2 40 Tryd.underlying49 HI.out.1 HI.out.2.1 HI.out.2.2.1 HI.out.2.2.2 rfl (by decide) u3 L.length (flatW L) rfl (World.ownsRow.alloc HC.out.1.1 _) ⟨w1.heap.size, 0, none⟩ 1 1 [.string s2, .slice a1 (weighS s2).2.length c1] rfl rfl ?d1_2 ?d2_2 ?d3_2 ?d4_2 ?d5_2 ?_)
      try case d1_2 => exact World.news_of_block (cs := #[.string s2, .slice a1 (weighS s2).2.length c1]) (t := 46) (fr := (0, 0)) (heap_alloc_new w1 _)
      case d2_2 => simp [Value.oneCell']
      case d3_2 => have := HLk.out; simp only [maxLen]; omega
      case d4_2 => have := HLk.out; omega
      case d5_2 => first | omega | (simp; omega)
      intro v4 W4 hown4 hgr4 _
      have e1 : Below w1.heap.size w1 (w1.alloc (.cells #[.string s2, .slice a1 (weighS s2).2.length c1] 46)) := (Below.refl _ _).alloc (Nat.le_refl _) _
      have HQ := Hid.mk' (show WkO W4 w.heap.size v4 (L ++ [(s2, .slice a1 (weighS s2).2.length c1)]) ∧ Below w.heap.size w W4 from ⟨(HC.out.1.next e1).more (x := (s2, .slice a1 (weighS s2).2.length c1)) (HC.out.2.1.next e1) hgr4 hown4, (bnext HC.out.2.2 e1).grown hgr4 (Nat.le_trans hsz e1.size) (fun k hk => (HC.out.1.1.lt k hk).1)⟩)
      clear hown4 hgr4 e1
      go_wp2_with fail
      go_roundw
      case rel => exact ⟨3, _, by go_num, by omega, by rw [List.map_append, HLM.out]; rfl, HQ⟩
      case measure => simp [intOf]
    · obtain ⟨v0, v1, v2, rfl⟩ := three_of HLM.out
      clear HLM HLk
      obtain ⟨g, cap, hv, hg, _⟩ := HP.out.1.1.form (by simp)
      subst hv
      have hc0 := HP.out.1.2 (s0, v0) (by simp)
      have hc1 := HP.out.1.2 (s1, v1) (by simp)
      have hc2 := HP.out.1.2 (s2, v2) (by simp)
      dsimp only at hc0 hc1 hc2
      have hrw : Rw wr wr g cap [.string s0, v0, .string s1, v1, .string s2, v2] := ⟨gb_below (Below.refl _ _) _, base0_ HP.out.1.1⟩
      have A10 := ahd_of HZ.out.2.1 HZ.out.1 hrw hc1 hc0 HN.out.1
      have A20 := ahd_of HZ.out.2.2 HZ.out.1 hrw hc2 hc0 HN.out.2.1
      have A21 := ahd_of HZ.out.2.2 HZ.out.2.1 hrw hc2 hc1 HN.out.2.2
      obtain ⟨q0, d0, rfl⟩ := hc0.form
      obtain ⟨q1, d1, rfl⟩ := hc1.form
      obtain ⟨q2, d2, rfl⟩ := hc2.form
      have CS := Hid.mk' (sortfunc_rev g cap wr hrw A10 A20 A21)
      have HG := Hid.mk' hg
      clear hc0 hc1 hc2 hrw A10 A20 A21 hg
      generalize (weighS s0).2.length = n0 at *
      generalize (weighS s1).2.length = n1 at *
      generalize (weighS s2).2.length = n2 at *
      go_wp2_with fail
      refine CS.out.mono ?_; rintro e w5 ⟨rfl, hr5⟩
      have hb5 : Below w.heap.size w w5 := HP.out.2.grown hr5.1 HP.out.2.size (fun k hk => by cases hk; exact HG.out)
      have H5 := Hid.mk' (And.intro hr5.2 hb5)
      have hmk2 : j0.bytes * 3 ≤ 281474976710656 := by rw [HJ.out.2.2.2]; omega
      have hsz5 := hb5.size
      clear hr5 hb5 CS HP
      go_wp2_with (at_make; refine wpList_make_own _ rfl _ _ 32 rfl w.heap.size 9 j0 (.string ⟨#[]⟩) 1 Tryd.underlying32 HJ.out.1 HJ.out.2.1 HJ.out.2.2.1 .i64 .i64 _ 3 rfl rfl (by omega) hmk2 (by unfold maxLen; omega) hsz5 ?_)
      intro w6 hown6 hgr6
      have START := Hid.mk' (show w6.ownsRow w.heap.size 9 1 (.slice (some ⟨w5.heap.size, 0, none⟩) 0 3) 0 [] ∧ w6.ownsRow 0 46 2 (.slice (some ⟨g, 0, none⟩) 3 cap) 3 [.string s2, .slice q2 n2 d2, .string s1, .slice q1 n1 d1, .string s0, .slice q0 n0 d0] ∧ Below w.heap.size w w6 from ⟨hown6, World.ownsRow.kept H5.out.1 hgr6 (.inr (by simp [Value.ownBlock])), H5.out.2.grown hgr6 hsz5 (fun k hk => by cases hk)⟩)
      clear hown6 hgr6 hmk2
      go_wp2_with fail
      go_loopw [6, 31] (fun v i wr => ∃ (k : Nat), i = .int .i64 k ∧ k ≤ 3 ∧ Hid (wr.ownsRow w.heap.size 9 1 v k (([s2, s1, s0].map Value.string).take k) ∧ wr.ownsRow 0 46 2 (.slice (some ⟨g, 0, none⟩) 3 cap) 3 [.string s2, .slice q2 n2 d2, .string s1, .slice q1 n1 d1, .string s0, .slice q0 n0 d0] ∧ Below w.heap.size w wr)) (fun _ i _ => 3 - (intOf i).toNat)
      case atStart => exact ⟨0, rfl, by omega, START⟩
      case round =>
        clear START
        obtain ⟨k, rfl, hk, HP⟩ := hrel
        have hsz := HP.out.2.2.size
        obtain ⟨x0, x1, x2, x3, x4, x5⟩ := Rw.cells (w := wr) ⟨gb_below (Below.refl _ _) _, HP.out.2.1⟩
        rcases (show k = 0 ∨ k = 1 ∨ k = 2 ∨ k = 3 from by omega) with rfl | rfl | rfl | rfl
        · have hO := World.ownsRow.alloc (World.ownsRow.alloc HP.out.1 (.cells #[.string s2, .slice q2 n2 d2] 46)) (.cells #[.string s2] 9)
          have hR := World.ownsRow.alloc (World.ownsRow.alloc HP.out.2.1 (.cells #[.string s2, .slice q2 n2 d2] 46)) (.cells #[.string s2] 9)
          have hB : Below w.heap.size w ((wr.alloc (.cells #[.string s2, .slice q2 n2 d2] 46)).alloc (.cells #[.string s2] 9)) := (HP.out.2.2.alloc hsz _).alloc (by simp; omega) _
          have HO := Hid.mk' (And.intro hO (And.intro hR hB))
          clear hO hR hB
          go_wp2_with (at_builtin; refine wpList_append_own _ rfl (.tmp 35) (.tmp 38) 32 rfl w.heap.size 9 j0 _ 1 16 Tryd.underlying32 HJ.out.1 HJ.out.2.1 HJ.out.2.2.1 HJ.out.2.2.2 rfl (by decide) u6 0 _ rfl HO.out.1 ⟨wr.heap.size + 1, 0, none⟩ 1 1 [.string s2] rfl rfl ?e1_0 ?e2_0 ?e3_0 ?e4_0 ?e5_0 ?_)
          try case e1_0 => exact World.news_of_block (cs := #[.string s2]) (t := 9) (fr := (0, 0)) (by have := heap_alloc_new (wr.alloc (.cells #[.string s2, .slice q2 n2 d2] 46)) (.cells #[.string s2] 9); simpa using this)
          try case e2_0 => simp [Value.oneCell']
          try case e3_0 => simp only [maxLen]; omega
          try case e4_0 => omega
          try case e5_0 => first | omega | (simp; omega)
          intro v4 W4 hown4 hgr4 _
          have HQ := Hid.mk' (show W4.ownsRow w.heap.size 9 1 v4 1 (([s2, s1, s0].map Value.string).take 1) ∧ W4.ownsRow 0 46 2 (.slice (some ⟨g, 0, none⟩) 3 cap) 3 [.string s2, .slice q2 n2 d2, .string s1, .slice q1 n1 d1, .string s0, .slice q0 n0 d0] ∧ Below w.heap.size w W4 from ⟨hown4, World.ownsRow.kept HO.out.2.1 hgr4 (own_apart HO.out.2.1 HO.out.1 (by decide)), HO.out.2.2.grown hgr4 HO.out.2.2.size (fun k hk => (HO.out.1.lt k hk).1)⟩)
          clear hown4 hgr4 HO
          go_wp2_with fail
          go_roundw
          case rel => exact ⟨1, by go_num, by omega, HQ⟩
          case measure => simp [intOf]
        · have hO := World.ownsRow.alloc (World.ownsRow.alloc HP.out.1 (.cells #[.string s1, .slice q1 n1 d1] 46)) (.cells #[.string s1] 9)
          have hR := World.ownsRow.alloc (World.ownsRow.alloc HP.out.2.1 (.cells #[.string s1, .slice q1 n1 d1] 46)) (.cells #[.string s1] 9)
          have hB : Below w.heap.size w ((wr.alloc (.cells #[.string s1, .slice q1 n1 d1] 46)).alloc (.cells #[.string s1] 9)) := (HP.out.2.2.alloc hsz _).alloc (by simp; omega) _
          have HO := Hid.mk' (And.intro hO (And.intro hR hB))
          clear hO hR hB
          go_wp2_with (at_builtin; refine wpList_append_own _ rfl (.tmp 35) (.tmp 38) 32 rfl w.heap.size 9 j0 _ 1 16 Tryd.underlying32 HJ.out.1 HJ.out.2.1 HJ.out.2.2.1 HJ.out.2.2.2 rfl (by decide) u6 1 _ rfl HO.out.1 ⟨wr.heap.size + 1, 0, none⟩ 1 1 [.string s1] rfl rfl ?e1_1 ?e2_1 ?e3_1 ?e4_1 ?e5_1 ?_)
          try case e1_1 => exact World.news_of_block (cs := #[.string s1]) (t := 9) (fr := (0, 0)) (by have := heap_alloc_new (wr.alloc (.cells #[.string s1, .slice q1 n1 d1] 46)) (.cells #[.string s1] 9); simpa using this)
          try case e2_1 => simp [Value.oneCell']
          try case e3_1 => simp only [maxLen]; omega
          try case e4_1 => omega
          try case e5_1 => first | omega | (simp; omega)
          intro v4 W4 hown4 hgr4 _
          have HQ := Hid.mk' (show W4.ownsRow w.heap.size 9 1 v4 2 (([s2, s1, s0].map Value.string).take 2) ∧ W4.ownsRow 0 46 2 (.slice (some ⟨g, 0, none⟩) 3 cap) 3 [.string s2, .slice q2 n2 d2, .string s1, .slice q1 n1 d1, .string s0, .slice q0 n0 d0] ∧ Below w.heap.size w W4 from ⟨hown4, World.ownsRow.kept HO.out.2.1 hgr4 (own_apart HO.out.2.1 HO.out.1 (by decide)), HO.out.2.2.grown hgr4 HO.out.2.2.size (fun k hk => (HO.out.1.lt k hk).1)⟩)
          clear hown4 hgr4 HO
          go_wp2_with fail
          go_roundw
          case rel => exact ⟨2, by go_num, by omega, HQ⟩
          case measure => simp [intOf]
        · have hO := World.ownsRow.alloc (World.ownsRow.alloc HP.out.1 (.cells #[.string s0, .slice q0 n0 d0] 46)) (.cells #[.string s0] 9)
          have hR := World.ownsRow.alloc (World.ownsRow.alloc HP.out.2.1 (.cells #[.string s0, .slice q0 n0 d0] 46)) (.cells #[.string s0] 9)
          have hB : Below w.heap.size w ((wr.alloc (.cells #[.string s0, .slice q0 n0 d0] 46)).alloc (.cells #[.string s0] 9)) := (HP.out.2.2.alloc hsz _).alloc (by simp; omega) _
          have HO := Hid.mk' (And.intro hO (And.intro hR hB))
          clear hO hR hB
          go_wp2_with (at_builtin; refine wpList_append_own _ rfl (.tmp 35) (.tmp 38) 32 rfl w.heap.size 9 j0 _ 1 16 Tryd.underlying32 HJ.out.1 HJ.out.2.1 HJ.out.2.2.1 HJ.out.2.2.2 rfl (by decide) u6 2 _ rfl HO.out.1 ⟨wr.heap.size + 1, 0, none⟩ 1 1 [.string s0] rfl rfl ?e1_2 ?e2_2 ?e3_2 ?e4_2 ?e5_2 ?_)
          try case e1_2 => exact World.news_of_block (cs := #[.string s0]) (t := 9) (fr := (0, 0)) (by have := heap_alloc_new (wr.alloc (.cells #[.string s0, .slice q0 n0 d0] 46)) (.cells #[.string s0] 9); simpa using this)
          try case e2_2 => simp [Value.oneCell']
          try case e3_2 => simp only [maxLen]; omega
          try case e4_2 => omega
          try case e5_2 => first | omega | (simp; omega)
          intro v4 W4 hown4 hgr4 _
          have HQ := Hid.mk' (show W4.ownsRow w.heap.size 9 1 v4 3 (([s2, s1, s0].map Value.string).take 3) ∧ W4.ownsRow 0 46 2 (.slice (some ⟨g, 0, none⟩) 3 cap) 3 [.string s2, .slice q2 n2 d2, .string s1, .slice q1 n1 d1, .string s0, .slice q0 n0 d0] ∧ Below w.heap.size w W4 from ⟨hown4, World.ownsRow.kept HO.out.2.1 hgr4 (own_apart HO.out.2.1 HO.out.1 (by decide)), HO.out.2.2.grown hgr4 HO.out.2.2.size (fun k hk => (HO.out.1.lt k hk).1)⟩)
          clear hown4 hgr4 HO
          go_wp2_with fail
          go_roundw
          case rel => exact ⟨3, by go_num, by omega, HQ⟩
          case measure => simp [intOf]
        · obtain ⟨g', cap', hv, _, _⟩ := HP.out.1.form (by simp)
          subst hv
          have hT3 : T3 wr g' s2 s1 s0 := ⟨HP.out.1.cellAt 0 (by decide), HP.out.1.cellAt 1 (by decide), HP.out.1.cellAt 2 (by decide)⟩
          have C := Hid.mk' (compact3 g' cap' s2 s1 s0 HE.out.1 HE.out.2 wr hT3)
          have H3 := Hid.mk' hT3
          clear hT3 x0 x1 x2 x3 x4 x5
          go_wp2_with fail
          refine C.out.mono ?_; rintro e w7 ⟨rfl, hb7⟩
          have H7 := Hid.mk' (And.intro (H3.out.next hb7) (bnext HP.out.2.2 hb7))
          clear hb7 C
          go_wp2_with fail
          go_ret
          exact ⟨g', cap', rfl, H7.out⟩
end Go.Proofs.YtdckdhbnfakleaaDoor
