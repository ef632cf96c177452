/- Layer 39 (fold): the document's Chunks, by its code. -/
import Derived.Test.YtdckdhbnfakleaaDoorFm
import Derived.Deep.RegionHeld3
namespace Go.Proofs.YtdckdhbnfakleaaDoor
open Go.RowKit

theorem chL_nb (nb nb' : Bool) (l : List Int) : chL [] nb l = chL [] nb' l := by
  cases l with
  | nil => rfl
  | cons r l => rw [chL, chL, if_neg (fun h => h.1 rfl), if_neg (fun h => h.1 rfl)]
theorem chL_go {acc : List Int} {d : Bool} {r : Int} (l : List Int) (h : digI r = d) : chL acc d (r :: l) = chL (acc ++ [r]) d l := by
  rw [chL, if_neg (fun k => k.2 h), h]
theorem chL_cut {acc : List Int} {d : Bool} (l : List Int) (ha : acc ≠ []) (h : ∀ r k, l = r :: k → digI r ≠ d) : chL acc d l = (runesBytes acc, d) :: chL [] false l := by
  cases l with
  | nil => rw [chL, if_neg ha]; rfl
  | cons r l =>
    rw [chL, if_pos ⟨ha, h r l rfl⟩]
    congr 1
def CrO (w : World) (B : Nat) (v : Value) (L : List (ByteArray × Bool)) : Prop := w.ownsRow B 28 2 v L.length (flatC L)
theorem CrO.more {w' : World} {B : Nat} {v' : Value} {L : List (ByteArray × Bool)} {x : ByteArray × Bool} (ho : w'.ownsRow B 28 2 v' (L.length + 1) (flatC L ++ [.string x.1, .bool x.2])) : CrO w' B v' (L ++ [x]) := by
  unfold CrO; rw [List.length_append, flatC_snoc]; exact ho
theorem cr_info : (Tryd.prog.info? 28).map (fun i => (i.zero, i.size, i.bytes)) = some (some (.agg #[.string ⟨#[]⟩, .bool false]), 2, 24) := by kernel_rfl
theorem RS.grown {w w' : World} {l : List Int} {B b off n cap : Nat} {row : Option Nat} (h : RS w (.slice (some ⟨b, off, none⟩) n cap) l) (hg : w.grownBy w' row) (hr : ∀ k, row = some k → B ≤ k) (hB : b < B) : RS w' (.slice (some ⟨b, off, none⟩) n cap) l := by
  obtain ⟨a, cap', hv, hl, hn, hc⟩ := h
  refine ⟨a, cap', hv, hl, hn, fun h0 => ?_⟩
  obtain ⟨b', off', ha, hcell⟩ := hc h0
  subst ha
  cases hv
  refine ⟨b, off, rfl, fun i hi => hg.cell (hcell i hi) ?_⟩
  intro e
  have h1 := hr b e.symm
  omega
theorem CrO.base {w : World} {B C : Nat} {v : Value} {L : List (ByteArray × Bool)} (h : CrO w B v L) (hC : C ≤ B) : CrO w C v L := by
  refine ⟨h.1, ?_⟩
  rcases h.2 with h2 | ⟨g, cap, cur, a, b, c, d⟩
  · exact .inl h2
  · exact .inr ⟨g, cap, cur, a, by omega, c, d⟩
set_option maxRecDepth 100000 in
set_option maxHeartbeats 8000000 in
theorem refchunks_any (s : ByteArray) (hs : s.size ≤ 1000) (w : World) : Calls Tryd.prog 7 #[.string s] w fun e w' => ∃ v, e = .returned v ∧ CrO w' w.heap.size v (chunkS s) ∧ Below w.heap.size w w' := by
  obtain ⟨i0, hi0, hz0, hz1, hz2⟩ := info_parts cr_info
  have HI := Hid.mk' (And.intro hi0 (And.intro hz0 (And.intro hz1 hz2)))
  clear hi0 hz0 hz1 hz2
  obtain ⟨v0, W0, hcv, hr, hb0⟩ := rconv s hs w
  have hln := runesG_len s
  have HV := Hid.mk' (chunkS_L s)
  generalize chunkS s = CS at *
  generalize runesG s = l at *
  obtain ⟨a, cap, rfl⟩ := hr.form
  obtain ⟨B0, hB0⟩ : ∃ B0, W0.heap.size = B0 := ⟨_, rfl⟩
  have HR0 := Hid.mk' (And.intro hr (And.intro hB0 hb0))
  have hB1 := Hid.mk' (show w.heap.size ≤ B0 by rw [← hB0]; exact hb0.size)
  have START := Hid.mk' (show CrO W0 B0 (.slice none 0 0) [] ∧ Below w.heap.size w W0 ∧ RS W0 (.slice a l.length cap) l ∧ B0 ≤ W0.heap.size from ⟨World.ownsRow_nil _ _ _ _, hb0, hr, by rw [hB0]; exact Nat.le_refl _⟩)
  clear hr hb0 hB0
  go_enter Tryd.func7, Tryd.ntmps7
  go_wp2_with fail
  clear hcv
  go_loopw [3, 5] (fun v iv wr => ∃ (i : Nat) (L : List (ByteArray × Bool)), iv = .int .i64 i ∧ i ≤ l.length ∧ Hid (CrO wr B0 v L ∧ Below w.heap.size w wr ∧ RS wr (.slice a l.length cap) l ∧ B0 ≤ wr.heap.size) ∧ L.length ≤ i ∧ Hid (L ++ chL [] false (l.drop i) = chL [] false l)) (fun _ iv _ => l.length - (intOf iv).toNat)
  case atStart => exact ⟨0, [], rfl, by omega, START, by simp, Hid.mk' (by simp)⟩
  case round =>
    clear START
    obtain ⟨i, L, rfl, hi, HP, hL, HX⟩ := hrel
    by_cases h1 : i < l.length
    · obtain ⟨a', cap', hv, _, _, hc⟩ := HP.out.2.2.1
      obtain ⟨b, off, ha, hcell⟩ := hc (fun e => by rw [e] at h1; simp at h1)
      subst ha
      cases hv
      have HBB := Hid.mk' (show b < B0 by
        obtain ⟨a'', cap'', hv'', _, _, hc''⟩ := HR0.out.1
        obtain ⟨b'', off'', ha'', hcell''⟩ := hc'' (fun e => by rw [e] at h1; simp at h1)
        cases hv''
        cases ha''
        have := World.block_lt_of_cell? _ _ (hcell'' i h1)
        rw [HR0.out.2.1] at this
        exact this)
      clear hcell hc
      obtain ⟨ri, hri⟩ : ∃ ri, l[i] = ri := ⟨_, rfl⟩
      obtain ⟨di, hdi⟩ : ∃ di, digI ri = di := ⟨_, rfl⟩
      have hi1 : (i : Int) < (l.length : Int) := by omega
      have ST2 := Hid.mk' (show L ++ chL ((l.drop i).take (i - i)) di (l.drop i) = chL [] false l by rw [Nat.sub_self, List.take_zero, chL_nb di false]; exact HX.out)
      clear HX
      go_wp2_with fail
      go_loopw [6] (fun kv wr => ∃ k : Nat, kv = .int .i64 k ∧ i ≤ k ∧ k ≤ l.length ∧ Hid (CrO wr B0 u3 L ∧ Below w.heap.size w wr ∧ RS wr (.slice (some ⟨b, off, none⟩) l.length cap) l ∧ B0 ≤ wr.heap.size) ∧ Hid (L ++ chL ((l.drop i).take (k - i)) di (l.drop k) = chL [] false l)) (fun kv _ => l.length - (intOf kv).toNat)
      case atStart => exact ⟨i, rfl, Nat.le_refl _, by omega, HP, ST2⟩
      case round =>
        clear HP ST2
        obtain ⟨k, rfl, hik, hk, HP2, HX2⟩ := hrel
        by_cases h2 : k < l.length
        · obtain ⟨a', cap', hv, _, _, hc⟩ := HP2.out.2.2.1
          obtain ⟨b', off', ha, hcell⟩ := hc (fun e => by rw [e] at h1; simp at h1)
          cases ha
          cases hv
          have x0 := hcell i h1
          have x1 := hcell k h2
          rw [hri] at x0
          have hk1 : (k : Int) < (l.length : Int) := by omega
          have HDK := Hid.mk' (show l.drop k = l[k] :: l.drop (k + 1) from List.drop_eq_getElem_cons h2)
          have HKI := Hid.mk' (show k = i → l[k] = ri by rintro rfl; exact hri)
          have HTK := Hid.mk' (show (l.drop i).take (k + 1 - i) = (l.drop i).take (k - i) ++ [l[k]] by
            rw [show k + 1 - i = (k - i) + 1 from by omega, List.take_succ_eq_append_getElem (by rw [List.length_drop]; omega)]
            congr 2
            rw [List.getElem_drop]
            congr 1
            omega)
          obtain ⟨rk, hrk⟩ : ∃ rk, l[k] = rk := ⟨_, rfl⟩
          rw [hrk] at x1 HDK HKI HTK
          obtain ⟨dk, hdk⟩ : ∃ dk, digI rk = dk := ⟨_, rfl⟩
          have CI := Hid.mk' (fun W => digit_same ri W)
          have CK := Hid.mk' (fun W => digit_same rk W)
          rw [hdi] at CI
          rw [hdk] at CK
          clear hc hcell
          by_cases hdd : dk = di
          · have hq : (dk == di) = true := by rw [hdd]; simp
            have HX3 := Hid.mk' (show L ++ chL ((l.drop i).take (k + 1 - i)) di (l.drop (k + 1)) = chL [] false l by have h := HX2.out; rw [HDK.out, chL_go _ (hdk.trans hdd), ← HTK.out] at h; exact h)
            clear hdd hdk hrk HX2
            go_wp2_with fail
            go_quiet (first | (with_reducible exact Calls.quiet_of_same (CI.out _)) | (with_reducible exact Calls.quiet_of_same (CK.out _)))
            all_goals
              go_wp2_with fail
              go_roundw
              case rel => exact ⟨k + 1, by go_num, by omega, by omega, Hid.mk' ⟨own_next HP2.out.1 (below_drewN (Below.refl _ _) _), bnext HP2.out.2.1 (below_drewN (Below.refl _ _) _), HP2.out.2.2.1.next (below_drewN (Below.refl _ _) _), HP2.out.2.2.2⟩, HX3⟩
              case measure => simp [intOf]; omega
          · have hq : (dk == di) = false := by rw [beq_eq_false_iff_ne]; exact hdd
            have hne : i < k := by
              rcases Nat.lt_or_ge i k with h | h
              · exact h
              · exfalso
                have e : k = i := by omega
                apply hdd
                rw [← hdk, ← hdi, HKI.out e]
            have HAC := Hid.mk' (show (l.drop i).take (k - i) ≠ [] from fun e => by have := congrArg List.length e; rw [List.length_take, List.length_drop] at this; simp at this; omega)
            have HX3 := Hid.mk' (show L ++ ((runesBytes ((l.drop i).take (k - i)), di) :: chL [] false (l.drop k)) = chL [] false l by have h := HX2.out; rw [chL_cut _ HAC.out (fun r q e => by rw [HDK.out] at e; cases e; rw [hdk]; exact hdd)] at h; exact h)
            clear hdd hdk hrk HX2
            go_wp2_with fail
            go_quiet (first | (with_reducible exact Calls.quiet_of_same (CI.out _)) | (with_reducible exact Calls.quiet_of_same (CK.out _)))
            have HP3 := Hid.mk' (show CrO (wr.drewN nq) B0 u3 L ∧ Below w.heap.size w (wr.drewN nq) ∧ RS (wr.drewN nq) (.slice (some ⟨b, off, none⟩) l.length cap) l ∧ B0 ≤ (wr.drewN nq).heap.size from ⟨own_next HP2.out.1 (below_drewN (Below.refl _ _) _), bnext HP2.out.2.1 (below_drewN (Below.refl _ _) _), HP2.out.2.2.1.next (below_drewN (Below.refl _ _) _), HP2.out.2.2.2⟩)
            clear x0 x1 HP2 CI CK
            generalize wr.drewN nq = wx at *
            have x7 : wx.drew.cell? ⟨b, off + i, none⟩ = some (.int .i32 ri) := by
              obtain ⟨a7, cap7, hv7, _, _, hc7⟩ := HP3.out.2.2.1
              obtain ⟨b7, off7, ha7, hcell7⟩ := hc7 (fun e => by rw [e] at h1; simp at h1)
              cases hv7
              cases ha7
              rw [← hri]
              exact hcell7 i h1
            obtain ⟨v', hsl, hrs⟩ := (HP3.out.2.2.1).cut i k hik (by omega)
            have hTOT : (L ++ [(runesBytes ((l.drop i).take (k - i)), di)]) ++ chL [] false (l.drop k) = chL [] false l := by rw [List.append_assoc]; exact HX3.out
            have hcv : ∀ W, Below wx.heap.size wx W → (convert 39 9 v').run Tryd.prog W = .ok (.string (runesBytes ((l.drop i).take (k - i)))) W := fun W hW => RS.conv (hrs.next hW)
            have HCVG := Hid.mk' (fun (W : World) (hW : wx.grownBy W u3.ownBlock) => (show W.cell? ⟨b, off + i, none⟩ = some (.int .i32 ri) ∧ (convert 39 9 v').run Tryd.prog W = .ok (.string (runesBytes ((l.drop i).take (k - i)))) W ∧ Hid (wx.grownBy W u3.ownBlock) from ⟨hW.cell x7 (fun e => by have h := HP3.out.1.lt b e.symm; have := HBB.out; omega), (by
                have hrW := (HP3.out.2.2.1).grown hW (fun k hk => (HP3.out.1.lt k hk).1) HBB.out
                obtain ⟨v'', g1, g2⟩ := hrW.cut i k hik (by omega)
                have e : v'' = v' := by
                  have a := g1 W
                  rw [hsl W] at a
                  injection a with a
                  exact a.symm
                subst e
                exact g2.conv), Hid.mk' hW⟩))
            have HTOT := Hid.mk' hTOT
            clear hTOT HX3
            generalize runesBytes ((l.drop i).take (k - i)) = X at *
            have cd := digit_same ri
            rw [hdi] at cd
            have CD := Hid.mk' cd
            have hcv0 := hcv wx.drew ((Below.refl _ wx).drew)
            have hO : CrO ((wx.drew).alloc (.cells #[.string X, .bool di] 28)) B0 u3 L := own_next HP3.out.1 ((Below.refl _ wx).drew.alloc (Nat.le_refl _) _)
            have HO := Hid.mk' hO
            have hs0 : (fun W : World => W.cell? ⟨b, off + i, none⟩ = some (.int .i32 ri) ∧ (convert 39 9 v').run Tryd.prog W = .ok (.string X) W ∧ Hid (wx.grownBy W u3.ownBlock)) wx.drew := ⟨x7, hcv0, Hid.mk' (gb_below ((Below.refl _ wx).drew) _)⟩
            have SK := Hid.mk' (fun (W : World) (o : Obj) (hW : W.cell? ⟨b, off + i, none⟩ = some (.int .i32 ri) ∧ (convert 39 9 v').run Tryd.prog W = .ok (.string X) W ∧ Hid (wx.grownBy W u3.ownBlock)) => (show (W.alloc o).cell? ⟨b, off + i, none⟩ = some (.int .i32 ri) ∧ (convert 39 9 v').run Tryd.prog (W.alloc o) = .ok (.string X) (W.alloc o) ∧ Hid (wx.grownBy (W.alloc o) u3.ownBlock) from HCVG.out _ (gb_trans hW.2.2.out (gb_below ((Below.refl _ _).alloc (Nat.le_refl _) _) _))))
            clear hrs hcv cd hO
            go_wp2_with fail
            go_region_held3 (fun W => W.cell? ⟨b, off + i, none⟩ = some (.int .i32 ri) ∧ (convert 39 9 v').run Tryd.prog W = .ok (.string X) W ∧ Hid (wx.grownBy W u3.ownBlock))
              (first | assumption | exact hs0 | exact SK.out _ _ hs0 | (refine ⟨?_, ?_, ?_⟩ <;> assumption))
              ((first | (go_at_call 18; refine (CD.out _).mono ?_; rintro e w6 ⟨rfl, rfl⟩) | (refine wp_append_own _ (.tmp 33) (.tmp 45) 24 rfl B0 28 i0 _ 2 24 Tryd.underlying24 HI.out.1 HI.out.2.1 HI.out.2.2.1 HI.out.2.2.2 rfl (by decide) u3 L.length (flatC L) rfl HO.out ⟨wx.heap.size, 0, none⟩ 1 1 [.string X, .bool di] rfl rfl (World.news_of_block (cs := #[.string X, .bool di]) (t := 28) (fr := (0, 0)) (heap_alloc_new wx.drew _)) (by simp [Value.oneCell']) (by simp only [maxLen]; omega) (by omega) (by have := HP3.out.2.2.2; simp; omega) ?_; intro v4 W4 hown4 hgr4 _; obtain ⟨k0, k1, k2⟩ := HCVG.out _ (gb_trans (gb_below ((Below.refl _ wx).drew.alloc (Nat.le_refl _) (.cells #[.string X, .bool di] 28)) _) hgr4))))
            all_goals
              have eA : Below wx.heap.size wx ((wx.drew).alloc (.cells #[.string X, .bool di] 28)) := (Below.refl _ wx).drew.alloc (Nat.le_refl _) _
              have HQ := Hid.mk' (show CrO W4 B0 v4 (L ++ [(X, di)]) ∧ Below w.heap.size w W4 ∧ RS W4 (.slice (some ⟨b, off, none⟩) l.length cap) l ∧ B0 ≤ W4.heap.size from ⟨CrO.more hown4, (bnext HP3.out.2.1 eA).grown hgr4 (bnext HP3.out.2.1 eA).size (fun k hk => Nat.le_trans hB1.out (HO.out.lt k hk).1), (HP3.out.2.2.1.next eA).grown hgr4 (fun k hk => (HO.out.lt k hk).1) HBB.out, Nat.le_trans HP3.out.2.2.2 (Nat.le_trans eA.size hgr4.size)⟩)
              clear hown4 hgr4 eA hsl hcv0 hs0 k0 k1 k2
              go_wp2_with fail
              go_roundw
              case rel => exact ⟨k, _, rfl, by omega, HQ, by rw [List.length_append]; simp only [List.length_cons, List.length_nil]; omega, HTOT⟩
              case measure => simp [intOf]; omega
        · have hk1 : (decide ((k : Int) < (l.length : Int))) = false := by rw [decide_eq_false_iff_not]; omega
          have HKN := Hid.mk' (show k = l.length by omega)
          have HAC := Hid.mk' (show (l.drop i).take (k - i) ≠ [] from fun e => by have := congrArg List.length e; rw [List.length_take, List.length_drop] at this; simp at this; omega)
          have HX3 := Hid.mk' (show L ++ ((runesBytes ((l.drop i).take (k - i)), di) :: chL [] false (l.drop k)) = chL [] false l by have h := HX2.out; rw [chL_cut _ HAC.out (fun r q e => by rw [List.drop_of_length_le (by have := HKN.out; omega)] at e; cases e)] at h; exact h)
          clear HX2
          go_wp2_with fail
          go_quiet (fail)
          have HP3 := Hid.mk' (show CrO (wr.drewN nq) B0 u3 L ∧ Below w.heap.size w (wr.drewN nq) ∧ RS (wr.drewN nq) (.slice (some ⟨b, off, none⟩) l.length cap) l ∧ B0 ≤ (wr.drewN nq).heap.size from ⟨own_next HP2.out.1 (below_drewN (Below.refl _ _) _), bnext HP2.out.2.1 (below_drewN (Below.refl _ _) _), HP2.out.2.2.1.next (below_drewN (Below.refl _ _) _), HP2.out.2.2.2⟩)
          clear HP2
          have hne : i < k := by omega
          generalize wr.drewN nq = wx at *
          have x7 : wx.drew.cell? ⟨b, off + i, none⟩ = some (.int .i32 ri) := by
            obtain ⟨a7, cap7, hv7, _, _, hc7⟩ := HP3.out.2.2.1
            obtain ⟨b7, off7, ha7, hcell7⟩ := hc7 (fun e => by rw [e] at h1; simp at h1)
            cases hv7
            cases ha7
            rw [← hri]
            exact hcell7 i h1
          obtain ⟨v', hsl, hrs⟩ := (HP3.out.2.2.1).cut i k hik (by omega)
          have hTOT : (L ++ [(runesBytes ((l.drop i).take (k - i)), di)]) ++ chL [] false (l.drop k) = chL [] false l := by rw [List.append_assoc]; exact HX3.out
          have hcv : ∀ W, Below wx.heap.size wx W → (convert 39 9 v').run Tryd.prog W = .ok (.string (runesBytes ((l.drop i).take (k - i)))) W := fun W hW => RS.conv (hrs.next hW)
          have HCVG := Hid.mk' (fun (W : World) (hW : wx.grownBy W u3.ownBlock) => (show W.cell? ⟨b, off + i, none⟩ = some (.int .i32 ri) ∧ (convert 39 9 v').run Tryd.prog W = .ok (.string (runesBytes ((l.drop i).take (k - i)))) W ∧ Hid (wx.grownBy W u3.ownBlock) from ⟨hW.cell x7 (fun e => by have h := HP3.out.1.lt b e.symm; have := HBB.out; omega), (by
              have hrW := (HP3.out.2.2.1).grown hW (fun k hk => (HP3.out.1.lt k hk).1) HBB.out
              obtain ⟨v'', g1, g2⟩ := hrW.cut i k hik (by omega)
              have e : v'' = v' := by
                have a := g1 W
                rw [hsl W] at a
                injection a with a
                exact a.symm
              subst e
              exact g2.conv), Hid.mk' hW⟩))
          have HTOT := Hid.mk' hTOT
          clear hTOT HX3
          generalize runesBytes ((l.drop i).take (k - i)) = X at *
          have cd := digit_same ri
          rw [hdi] at cd
          have CD := Hid.mk' cd
          have hcv0 := hcv wx.drew ((Below.refl _ wx).drew)
          have hO : CrO ((wx.drew).alloc (.cells #[.string X, .bool di] 28)) B0 u3 L := own_next HP3.out.1 ((Below.refl _ wx).drew.alloc (Nat.le_refl _) _)
          have HO := Hid.mk' hO
          have hs0 : (fun W : World => W.cell? ⟨b, off + i, none⟩ = some (.int .i32 ri) ∧ (convert 39 9 v').run Tryd.prog W = .ok (.string X) W ∧ Hid (wx.grownBy W u3.ownBlock)) wx.drew := ⟨x7, hcv0, Hid.mk' (gb_below ((Below.refl _ wx).drew) _)⟩
          have SK := Hid.mk' (fun (W : World) (o : Obj) (hW : W.cell? ⟨b, off + i, none⟩ = some (.int .i32 ri) ∧ (convert 39 9 v').run Tryd.prog W = .ok (.string X) W ∧ Hid (wx.grownBy W u3.ownBlock)) => (show (W.alloc o).cell? ⟨b, off + i, none⟩ = some (.int .i32 ri) ∧ (convert 39 9 v').run Tryd.prog (W.alloc o) = .ok (.string X) (W.alloc o) ∧ Hid (wx.grownBy (W.alloc o) u3.ownBlock) from HCVG.out _ (gb_trans hW.2.2.out (gb_below ((Below.refl _ _).alloc (Nat.le_refl _) _) _))))
          clear hrs hcv cd hO
          go_wp2_with fail
          go_region_held3 (fun W => W.cell? ⟨b, off + i, none⟩ = some (.int .i32 ri) ∧ (convert 39 9 v').run Tryd.prog W = .ok (.string X) W ∧ Hid (wx.grownBy W u3.ownBlock))
            (first | assumption | exact hs0 | exact SK.out _ _ hs0 | (refine ⟨?_, ?_, ?_⟩ <;> assumption))
            ((first | (go_at_call 18; refine (CD.out _).mono ?_; rintro e w6 ⟨rfl, rfl⟩) | (refine wp_append_own _ (.tmp 33) (.tmp 45) 24 rfl B0 28 i0 _ 2 24 Tryd.underlying24 HI.out.1 HI.out.2.1 HI.out.2.2.1 HI.out.2.2.2 rfl (by decide) u3 L.length (flatC L) rfl HO.out ⟨wx.heap.size, 0, none⟩ 1 1 [.string X, .bool di] rfl rfl (World.news_of_block (cs := #[.string X, .bool di]) (t := 28) (fr := (0, 0)) (heap_alloc_new wx.drew _)) (by simp [Value.oneCell']) (by simp only [maxLen]; omega) (by omega) (by have := HP3.out.2.2.2; simp; omega) ?_; intro v4 W4 hown4 hgr4 _; obtain ⟨k0, k1, k2⟩ := HCVG.out _ (gb_trans (gb_below ((Below.refl _ wx).drew.alloc (Nat.le_refl _) (.cells #[.string X, .bool di] 28)) _) hgr4))))
          all_goals
            have eA : Below wx.heap.size wx ((wx.drew).alloc (.cells #[.string X, .bool di] 28)) := (Below.refl _ wx).drew.alloc (Nat.le_refl _) _
            have HQ := Hid.mk' (show CrO W4 B0 v4 (L ++ [(X, di)]) ∧ Below w.heap.size w W4 ∧ RS W4 (.slice (some ⟨b, off, none⟩) l.length cap) l ∧ B0 ≤ W4.heap.size from ⟨CrO.more hown4, (bnext HP3.out.2.1 eA).grown hgr4 (bnext HP3.out.2.1 eA).size (fun k hk => Nat.le_trans hB1.out (HO.out.lt k hk).1), (HP3.out.2.2.1.next eA).grown hgr4 (fun k hk => (HO.out.lt k hk).1) HBB.out, Nat.le_trans HP3.out.2.2.2 (Nat.le_trans eA.size hgr4.size)⟩)
            clear hown4 hgr4 eA hsl hcv0 hs0 k0 k1 k2
            go_wp2_with fail
            go_roundw
            case rel => exact ⟨k, _, rfl, by omega, HQ, by rw [List.length_append]; simp only [List.length_cons, List.length_nil]; omega, HTOT⟩
            case measure => simp [intOf]; omega
    · have hin : i = l.length := by omega
      have HE := Hid.mk' (show CrO wr w.heap.size u3 CS ∧ Below w.heap.size w wr from ⟨by
        have h := HX.out
        rw [List.drop_of_length_le (by omega), chL, if_pos rfl, List.append_nil] at h
        rw [HV.out, ← h]
        exact HP.out.1.base hB1.out, HP.out.2.1⟩)
      have hi1 : ¬ (i : Int) < (l.length : Int) := by omega
      clear HP HX
      go_wp2_with fail
      go_ret
      exact ⟨_, rfl, HE.out⟩
end Go.Proofs.YtdckdhbnfakleaaDoor
