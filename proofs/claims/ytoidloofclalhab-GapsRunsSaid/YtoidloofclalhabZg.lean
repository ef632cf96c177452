/- Layer 47 (gaps): the law's bytes. -/
import Derived.Test.YtoidloofclalhabZf
namespace Go.Proofs.Ytoidloofclalhab
open Go.RowKit

set_option maxRecDepth 100000 in
set_option maxHeartbeats 4000000 in
theorem lbytes_any (vl : Value) (l : List Int) (hok : okB l = true) (w : World) (hL : IR w vl l) :
    Calls Try.prog 28 #[vl] w (Made w (gB l)) := by
  unfold okB at hok
  rw [Bool.and_eq_true, decide_eq_true_iff] at hok
  obtain ⟨hokF, hll⟩ := hok
  obtain ⟨a, cap, rfl, hm, hz, hc⟩ := hL
  clear hm
  have HC := Lib.hid hc
  have HZ := Lib.hid hz
  have HOK := Lib.hid hokF
  have HP0 := Lib.hid (refput_any (l.length : Int) (by omega) w)
  clear hc hz hokF
  go_enter Try.func28, Try.ntmps28
  go_wp2_with fail
  refine (HP0.out).mono ?_; rintro e w1 ⟨v1, rfl, hO1, hb1⟩
  rw [Int.toNat_natCast] at hO1
  have H0 := Lib.hid (show PR w l 0 v1 w1 from ⟨by simpa [byF] using hO1, hb1, rfl⟩)
  clear hO1 hb1 HP0
  go_wp2_with fail
  go_loopw [3, 4] (fun r i wr => ∃ (k : Nat) (v3 : Value), i = .int .i64 k ∧ v3 = r ∧ k ≤ l.length ∧ Hid (PR w l k v3 wr)) (fun _ i _ => l.length - (intOf i).toNat)
  case atStart => exact ⟨0, v1, rfl, rfl, Nat.zero_le _, H0⟩
  case round =>
    obtain ⟨k, v3, rfl, rfl, hk, HPR⟩ := hrel
    clear H0
    have hbd := lst_bd (l.take k) 0 HPR.out.2.2 (by omega) (by omega)
    by_cases hlt : k < l.length
    · obtain ⟨b, off, rfl, hcell⟩ := HC.out (fun e => by rw [e] at hlt; simp at hlt)
      have hx := hcell k hlt
      have x0 : wr.cell? ⟨b, off + k, none⟩ = some (.int .i64 l[k]) := by rw [HPR.out.2.1.cell (World.block_lt_of_cell? _ _ hx)]; exact hx
      obtain ⟨y, hy⟩ : ∃ y, l[k - 1]'(by omega) = y := ⟨_, rfl⟩
      have hy0 := hcell (k - 1) (by omega)
      have y0 : wr.cell? ⟨b, off + (k - 1), none⟩ = some (.int .i64 y) := by rw [HPR.out.2.1.cell (World.block_lt_of_cell? _ _ hy0), ← hy]; exact hy0
      have hl0 : k = 0 → lst 0 (l.take k) = 0 := fun h => by subst h; rfl
      have hl1 : 0 < k → lst 0 (l.take k) = y + 1 := fun h => by rw [lst_take l k hlt h, hy]
      have hn2 : okF 0 (l.take (k + 1)) = true := okF_take HOK.out (k + 1)
      have hn3 := okF_next l k hlt
      rw [hn2, HPR.out.2.2, Bool.true_and] at hn3
      have hn4 := of_decide_eq_true hn3.symm
      have HNX := Lib.hid (And.intro (byF_next l k hlt) hn2)
      have HLE : Hid ((byF 0 (l.take k)).length ≤ 40960) := Lib.hid (by have := byF_len (l.take k) 0; rw [List.length_take] at this; omega)
      clear hcell hx hy hy0 hn2 hn3
      generalize l[k] = n at *
      generalize lst 0 (l.take k) = s at *
      have HL := Lib.hid (And.intro hl0 hl1)
      obtain ⟨hs0, hs1⟩ := hbd
      obtain ⟨hn0, hn1⟩ := hn4
      clear hl0 hl1
      have HP := Lib.hid (fun W => refput_any (n - s) (by omega) W)
      have hpl := put_len (n - s).toNat
      have HLN := Lib.hid (show (put l.length ++ byF 0 (l.take k)).length + (put (n - s).toNat).length ≤ 100000 by
        have h4 := put_len l.length
        have := HLE.out
        rw [List.length_append]; omega)
      clear hpl
      by_cases h0 : 0 < k
      · have HS := Lib.hid (show n - s = n - y - 1 by have := HL.out.2 h0; omega)
        have hyb : -1 ≤ y ∧ y < n := by have := HL.out.2 h0; omega
        obtain ⟨hyb0, hyb1⟩ := hyb
        have s1 : IntKind.i64.wrap (n - y) = n - y := IntWalk.i64_in _ (by omega)
        have s2 : IntKind.i64.wrap (n - y - 1) = n - y - 1 := IntWalk.i64_in _ (by omega)
        go_wp2_with fail
        go_quiet (fail)
        clear s1 s2
        go_wp2_with fail
        have HPD := Lib.hid (show PR w l k v3 (wr.drewN nq) from ⟨own_next HPR.out.1 (below_drewN (Below.refl _ _) _), below_drewN HPR.out.2.1 _, HPR.out.2.2⟩)
        rw [HS.out] at HP
        refine (HP.out _).mono ?_; rintro e w2 ⟨v2, rfl, hO2, hb2⟩
        rw [← HS.out] at hO2
        have H2 := Lib.hid (And.intro hO2.bs (And.intro (own_next HPD.out.1 hb2) (bnext HPD.out.2.1 hb2)))
        clear hO2 hb2 HP
        go_wp2_with (at_builtin; refine wpList_append_bs rfl (.tmp 32) (.tmp 34) rfl w.heap.size v3 v2 _ _ rfl rfl H2.out.2.1 H2.out.1 HLN.out H2.out.2.2.size ?_; intro v4 w4 hO4 hg4)
        have HN2 : Hid (PR w l (k + 1) v4 w4) := Lib.hid ⟨by
          rw [HNX.out.1, ← List.append_assoc]; exact hO4, H2.out.2.2.grown hg4 H2.out.2.2.size (fun j hj => (H2.out.2.1.lt j hj).1), HNX.out.2⟩
        clear hO4 hg4
        go_wp2_with fail
        go_roundw
        case rel => exact ⟨k + 1, v4, by go_num, rfl, by omega, HN2⟩
        case measure => simp [intOf]; omega
      · have HS := Lib.hid (show n - s = n by have := HL.out.1 (by omega); omega)
        go_wp2_with fail
        rw [HS.out] at HP
        refine (HP.out _).mono ?_; rintro e w2 ⟨v2, rfl, hO2, hb2⟩
        rw [← HS.out] at hO2
        have H2 := Lib.hid (And.intro hO2.bs (And.intro (own_next HPR.out.1 hb2) (bnext HPR.out.2.1 hb2)))
        clear hO2 hb2 HP
        go_wp2_with (at_builtin; refine wpList_append_bs rfl (.tmp 32) (.tmp 34) rfl w.heap.size v3 v2 _ _ rfl rfl H2.out.2.1 H2.out.1 HLN.out H2.out.2.2.size ?_; intro v4 w4 hO4 hg4)
        have HN2 : Hid (PR w l (k + 1) v4 w4) := Lib.hid ⟨by
          rw [HNX.out.1, ← List.append_assoc]; exact hO4, H2.out.2.2.grown hg4 H2.out.2.2.size (fun j hj => (H2.out.2.1.lt j hj).1), HNX.out.2⟩
        clear hO4 hg4
        go_wp2_with fail
        go_roundw
        case rel => exact ⟨k + 1, v4, by go_num, rfl, by omega, HN2⟩
        case measure => simp [intOf]; omega
    · obtain rfl : k = l.length := by omega
      have HRW : Hid (BO wr w.heap.size v3 (gB l)) := Lib.hid (by
        have := HPR.out.1
        rw [List.take_length] at this
        exact this)
      go_wp2_with fail
      go_ret
      exact ⟨v3, rfl, HRW.out, HPR.out.2.1⟩
end Go.Proofs.Ytoidloofclalhab
