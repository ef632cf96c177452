/- Layer 48 (wait): the statement WaitTries' walk. -/
import Derived.Test.YtoidloofclalhabT7
import Derived.Deep.LoopGhost
namespace Go.Proofs.Ytoidloofclalhab
open Go.RowKit

/-- What the law holds while it goes through the tries. -/
structure LS (F M s tick : Int) (w : World) (B N : Nat) (va vb : Value) (W : World) : Prop where
  bx : Bx W w.heap.size 66 #[.int .i64 F, .int .i64 M, .int .u32 s]
  oa : W.ownsRow B 3 1 va N (trN N)
  ob : W.ownsRow B 3 1 vb N (tkN F M s tick N)
  bel : Below w.heap.size w W
theorem own_nxt {w w' : World} {B n : Nat} {e : TypeId} {sz : Nat} {v : Value} {xs : List Value} (h : w.ownsRow B e sz v n xs) (hb : Below w.heap.size w w') : w'.ownsRow B e sz v n xs := by
  refine ⟨h.1, ?_⟩
  rcases h.2 with h2 | ⟨g, cap, cur, a, b, c, d⟩
  · exact .inl h2
  · exact .inr ⟨g, cap, cur, a, b, by rw [hb.block g (Array.getElem?_eq_some_iff.1 c).1]; exact c, d⟩
theorem LS.next {F M s tick : Int} {w : World} {B N : Nat} {va vb : Value} {W W' : World} (h : LS F M s tick w B N va vb W) (hb : Below W.heap.size W W') : LS F M s tick w B N va vb W' :=
  ⟨h.bx.next hb, own_nxt h.oa hb, own_nxt h.ob hb, bnext h.bel hb⟩
theorem cnt_is {F M s tick stop : Int} {N K : Nat} (hN : CntN F M s tick stop N) {most : Int} (hm0 : 0 ≤ most) (hm : most ≤ 100) (h1 : (K : Int) ≤ max most 0) (h2 : ∀ k < K, atI F M s tick k < stop) (h3 : (K : Int) = max most 0 ∨ stop ≤ atI F M s tick K) (hle : most = 100 ∨ most ≤ N) : (K : Int) = if most = 100 then (N : Int) else most := by
  obtain ⟨n1, n2, n3⟩ := hN
  rcases hle with rfl | hle
  · rw [if_pos rfl]
    rcases Nat.lt_trichotomy K N with h | h | h
    · have := n2 K h; omega
    · omega
    · have := h2 N h; omega
  · by_cases h100 : most = 100
    · subst h100
      rw [if_pos rfl]
      rcases Nat.lt_trichotomy K N with h | h | h
      · have := n2 K h; omega
      · omega
      · have := h2 N h; omega
    · rw [if_neg h100]
      rcases h3 with h3 | h3
      · omega
      · by_cases hlt : K < N
        · have := n2 K hlt; omega
        · omega
theorem trN_at (N k : Nat) (h : k < N) : (trN N)[k]? = some (.int .i64 (k : Int)) := by simp [trN, h]
theorem tkN_at (F M s tick : Int) (N k : Nat) (h : k < N) : (tkN F M s tick N)[k]? = some (.int .i64 (atI F M s tick k)) := by simp [tkN, h]
set_option maxRecDepth 100000 in
set_option maxHeartbeats 8000000 in
theorem trieslaw (F M s fr to_ : Int) (hs : 0 ≤ s ∧ s < 4294967296) (w : World) :
    Calls Try.prog 11 #[wv F M s, .int .i64 fr, .int .i64 to_] w fun e w' => e = .returned (.bool true) ∧ Below w.heap.size w w' := by
  have ht := clamp_bd fr 0 1099511627776 (by omega)
  have he := clamp_bd to_ 0 1099511627776 (by omega)
  have CF := Lib.hid (fun W => first_any F M s fr to_ hs W)
  have CT := Lib.hid (fun most (hm : most ≤ 100) W => tries_any F M s fr to_ most hs hm W)
  have C1 := Lib.hid (fun W => cut_any fr 0 1099511627776 W)
  have C2 := Lib.hid (fun W => cut_any to_ 0 1099511627776 W)
  have CO := Lib.hid (fun (k : Nat) W => lof_any F M s (k : Int) hs W)
  generalize clampI fr 0 1099511627776 = tick at *
  generalize clampI to_ 0 1099511627776 = stop at *
  have HW0 := Lib.hid (show WB w.heap.size w F M s (w.alloc (.cells #[.int .i64 F, .int .i64 M, .int .u32 s] 66)) from ⟨Bx.fresh _ _ _, (Below.refl _ _).alloc (Nat.le_refl _) _⟩)
  obtain ⟨ht0, ht1⟩ := ht
  obtain ⟨he0, he1⟩ := he
  clear hs
  unfold wv at *
  go_enter Try.func11, Try.ntmps11
  go_wp2_with fail
  refine (CF.out _).mono ?_; rintro e w1 ⟨va, vb, N, B, rfl, oa, ob, hcn, hb1⟩
  obtain ⟨qa, qc, rfl⟩ := own_form oa
  obtain ⟨qb, qd, rfl⟩ := own_form ob
  have HLS := Lib.hid (show LS F M s tick w B N (.slice qa N qc) (.slice qb N qd) w1 from ⟨HW0.out.1.next hb1, oa, ob, bnext HW0.out.2 hb1⟩)
  have HCN := Lib.hid hcn
  have hN : N ≤ 100 := hcn.1
  clear oa ob hcn hb1 CF
  go_wp2_with fail
  refine (C1.out _).mono ?_; rintro e w2 ⟨rfl, rfl⟩
  go_wp2_with fail
  refine (C2.out _).mono ?_; rintro e w2 ⟨rfl, rfl⟩
  go_wp2_with fail
  go_loopg [9, 11] N (fun g s9 s11 wr => ∃ k : Nat, s11 = .int .i64 k ∧ s9 = .int .i64 (atI F M s tick k) ∧ k ≤ N ∧ g = N - k ∧ Hid (LS F M s tick w B N (.slice qa N qc) (.slice qb N qd) wr))
  case atStart => exact ⟨0, rfl, rfl, Nat.zero_le _, rfl, HLS⟩
  case round =>
    obtain ⟨k, rfl, rfl, hk, hg, HL⟩ := hrel
    have HG := Lib.hid hg
    clear hg
    have hge := atI_ge F M s tick ht0 k
    obtain ⟨x0, x1, x2⟩ := HL.out.bx.reads3
    by_cases hlt : k < N
    · have hat := HCN.out.2.1 k hlt
      obtain ⟨ga, rfl, za⟩ : ∃ g, qa = some ⟨g, 0, none⟩ ∧ wr.cell? ⟨g, k, none⟩ = some (.int .i64 (k : Int)) := by
        obtain ⟨g, c, hv, _, _⟩ := World.ownsRow.form HL.out.oa (by omega)
        have h2 := HL.out.oa
        cases hv
        exact ⟨g, rfl, by rw [World.ownsRow.cellAt h2 k (by omega)]; exact trN_at N k hlt⟩
      obtain ⟨gb, rfl, zb⟩ : ∃ g, qb = some ⟨g, 0, none⟩ ∧ wr.cell? ⟨g, k, none⟩ = some (.int .i64 (atI F M s tick k)) := by
        obtain ⟨g, c, hv, _, _⟩ := World.ownsRow.form HL.out.ob (by omega)
        have h2 := HL.out.ob
        cases hv
        exact ⟨g, rfl, by rw [World.ownsRow.cellAt h2 k (by omega)]; exact tkN_at F M s tick N k hlt⟩
      have hnx : Hid (atI F M s tick k + ofI F M s k = atI F M s tick (k + 1)) := Lib.hid rfl
      have hof := ofI_bd F M s k
      have hom := ofI_max F M s k
      obtain ⟨hof0, _, _⟩ := hof
      have CO1 := Lib.hid (fun W => CO.out k W)
      have hk100 : (k : Int) < 100 := by omega
      have hkN : (k : Int) < (N : Int) := by omega
      generalize atI F M s tick k = at_ at *
      generalize ofI F M s (k : Int) = d at *
      have e1 : (at_ != at_) = false := by simp
      have e2 : ((k : Int) != (k : Int)) = false := by simp
      have n1 : ¬ (N : Int) ≤ (k : Int) := by omega
      go_wp2_with fail
      refine (CO1.out _).mono ?_; rintro e w4 ⟨rfl, hb4⟩
      have HL4 := Lib.hid (HL.out.next hb4)
      clear hb4 x0 x1 x2 za zb
      go_wp2_with fail
      go_roundg (N - (k + 1))
      case measure => have := HG.out; omega
      case rel => exact ⟨k + 1, by go_num, by rw [← hnx.out], by omega, rfl, HL4⟩
    · obtain rfl : k = N := by omega
      have hcn := HCN.out
      have CT100 := Lib.hid (fun W => (CT.out 100 (by omega) W).mono (R' := fun e w' => e = .returned (.int .i64 (k : Int)) ∧ Below W.heap.size W w') (by
        rintro e w' ⟨K, rfl, h1, h2, h3, hb⟩
        have := cnt_is hcn (by omega) (by omega) h1 h2 h3 (.inl rfl)
        rw [if_pos rfl] at this
        exact ⟨by rw [this], hb⟩))
      have CT3 := Lib.hid (fun W => (CT.out (-3) (by omega) W).mono (R' := fun e w' => e = .returned (.int .i64 0) ∧ Below W.heap.size W w') (by
        rintro e w' ⟨K, rfl, h1, h2, h3, hb⟩
        obtain rfl : K = 0 := by omega
        exact ⟨rfl, hb⟩))
      have CTH := Lib.hid (fun (h : Int) (hh : h = ((k / 2 : Nat) : Int)) W => (CT.out h (by omega) W).mono (R' := fun e w' => e = .returned (.int .i64 h) ∧ Below W.heap.size W w') (by
        rintro e w' ⟨K, rfl, h1, h2, h3, hb⟩
        have := cnt_is hcn (by omega) (by omega) h1 h2 h3 (.inr (by omega))
        rw [if_neg (by omega)] at this
        exact ⟨by rw [this], hb⟩))
      have hcase : Hid (k = 100 ∨ (k < 100 ∧ stop ≤ atI F M s tick k)) := Lib.hid (by rcases hcn.2.2 with h | h <;> omega)
      have hd2 : IntKind.i64.wrap ((k : Int).tdiv 2) = (k : Int) / 2 := by
        rw [Int.tdiv_eq_ediv_of_nonneg (by omega)]
        exact IntWalk.i64_in _ (by omega)
      clear hcn hge CT hlt
      rcases hcase.out with h | ⟨h, h2⟩
      · have CTH1 := Lib.hid (fun W => CTH.out 50 (by omega) W)
        clear CTH hd2
        go_wp2_with fail
        refine (CT100.out _).mono ?_; rintro e w5 ⟨rfl, hb5⟩
        have HL5 := Lib.hid (HL.out.next hb5)
        obtain ⟨y0, y1, y2⟩ := HL5.out.bx.reads3
        clear hb5 x0 x1 x2
        go_wp2_with fail
        refine (CT3.out _).mono ?_; rintro e w6 ⟨rfl, hb6⟩
        have HL6 := Lib.hid (HL5.out.next hb6)
        obtain ⟨z0, z1, z2⟩ := HL6.out.bx.reads3
        clear hb6 y0 y1 y2
        go_wp2_with fail
        refine (CTH1.out _).mono ?_; rintro e w7 ⟨rfl, hb7⟩
        have HL7 := Lib.hid (HL6.out.next hb7)
        clear hb7 z0 z1 z2
        go_wp2_with fail
        refine (alive48_any _).mono ?_; rintro e w8 ⟨rfl, hb8⟩
        have HB8 := Lib.hid (bnext HL7.out.bel hb8)
        clear hb8
        go_wp2_with fail
        go_ret
        exact ⟨rfl, HB8.out⟩
      · have CTH1 := Lib.hid (fun W => CTH.out ((k : Int) / 2) (by omega) W)
        clear CTH
        go_wp2_with fail
        refine (CT100.out _).mono ?_; rintro e w5 ⟨rfl, hb5⟩
        have HL5 := Lib.hid (HL.out.next hb5)
        obtain ⟨y0, y1, y2⟩ := HL5.out.bx.reads3
        clear hb5 x0 x1 x2
        go_wp2_with fail
        refine (CT3.out _).mono ?_; rintro e w6 ⟨rfl, hb6⟩
        have HL6 := Lib.hid (HL5.out.next hb6)
        obtain ⟨z0, z1, z2⟩ := HL6.out.bx.reads3
        clear hb6 y0 y1 y2
        go_wp2_with fail
        refine (CTH1.out _).mono ?_; rintro e w7 ⟨rfl, hb7⟩
        have HL7 := Lib.hid (HL6.out.next hb7)
        clear hb7 z0 z1 z2
        go_wp2_with fail
        refine (alive48_any _).mono ?_; rintro e w8 ⟨rfl, hb8⟩
        have HB8 := Lib.hid (bnext HL7.out.bel hb8)
        clear hb8
        go_wp2_with fail
        go_ret
        exact ⟨rfl, HB8.out⟩
end Go.Proofs.Ytoidloofclalhab
