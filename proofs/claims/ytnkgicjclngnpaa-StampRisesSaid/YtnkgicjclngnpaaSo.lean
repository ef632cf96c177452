/- Layer 4 (stamp): the statement that each stamp is behind all. -/
import Derived.Test.YtnkgicjclngnpaaSn
import Derived.Test.YtnkgicjclngnpaaSh
import Derived.OwnWalk
namespace Go.Proofs.Ytnkgicjclngnpaa
open Go.RowKit

set_option maxRecDepth 100000 in
set_option maxHeartbeats 16000000 in
theorem rises_some (who phys : Int) (h0 : 0 ≤ who) (h1 : who ≤ 1099511627776) (b off cap n : Nat) (f : Nat → Opr) (hn : n ≤ 100) (hcap : n ≤ cap) (w : World) (hb : b < w.heap.size)
    (hc : ∀ i, i < n → w.cell? ⟨b, off + i * 5, none⟩ = some (.int .i64 (f i).kind) ∧ w.cell? ⟨b, off + i * 5 + 1, none⟩ = some (.int .i64 (f i).n) ∧ w.cell? ⟨b, off + i * 5 + 2, none⟩ = some (.int .i64 (f i).s.x) ∧
    w.cell? ⟨b, off + i * 5 + 3, none⟩ = some (.int .i64 (f i).s.y) ∧ w.cell? ⟨b, off + i * 5 + 4, none⟩ = some (.int .i64 (f i).s.z)) :
    Calls Try.prog 8 #[.int .i64 who, .int .i64 phys, .slice (some ⟨b, off, none⟩) n cap] w fun e w' => e = .returned (.bool true) ∧ Below w.heap.size w w' := by
  obtain ⟨i0, hi, hz0, hz1, hz2⟩ := info_parts st_info
  have HI := Hid.mk' (And.intro hi (And.intro hz0 (And.intro hz1 hz2)))
  clear hi hz0 hz1 hz2
  have HC := Hid.mk' hc
  clear hc
  have hok := Ck.Ok.fresh who phys
  have hwho : cut who = who := by unfold cut; omega
  rw [hwho] at hok
  have HW := Hid.mk' hwho
  clear hwho
  go_enter Try.func8, Try.ntmps8
  go_wp2_with fail
  refine (new_any _ _ _).mono ?_; rintro e w1 ⟨rfl, hc1, hb1⟩
  rw [HW.out] at hc1
  have hcB : w.heap.size < w1.heap.size := hc1.inside
  have HB := Hid.mk' hcB
  have own0 : Sts w1 w1.heap.size (.slice none 0 0) [] := World.ownsRow_nil _ _ _ _
  clear hcB
  go_wp2_with fail
  go_loopw [8, 9] (fun v i wr => ∃ k : Nat, i = .int .i64 k ∧ k ≤ n ∧ ∃ (K : Ck) (L : List St), K.Ok ∧ K.who = who ∧ Clk wr w.heap.size K ∧ Sts wr w1.heap.size v L ∧ upto L K.last ∧ L.length ≤ k ∧ Below w.heap.size w wr ∧ w1.heap.size ≤ wr.heap.size) (fun _ i _ => n - (intOf i).toNat)
  case atStart => exact ⟨0, rfl, by omega, _, [], hok, rfl, hc1, own0, upto.none _, Nat.le_refl _, hb1, Nat.le_refl _⟩
  case round =>
    clear hok own0 hc1 hb1
    generalize w1.heap.size = B at *
    obtain ⟨k, rfl, hk, K, L, hKok, hKw, hC, hL, hup, hLk, hbel, hBw⟩ := hrel
    by_cases hlt : k < n
    · obtain ⟨l0, l1, l2, l3, l4⟩ := HC.out k hlt
      rw [← hbel.cell (p := ⟨b, _, none⟩) hb] at l0 l1 l2 l3 l4
      generalize f k = o at *
      obtain ⟨kind, on, ⟨sx, sy, sz⟩⟩ := o
      dsimp only at *
      have hC1 : Clk (wr.alloc (.cells #[.int .i64 kind, .int .i64 on, .int .i64 sx, .int .i64 sy, .int .i64 sz] 58)) w.heap.size K := hC.past _
      have hL1 : Sts (wr.alloc (.cells #[.int .i64 kind, .int .i64 on, .int .i64 sx, .int .i64 sy, .int .i64 sz] 58)) B u8 L := World.ownsRow.alloc hL _
      have bO1 := Bx.fresh wr 58 #[.int .i64 kind, .int .i64 on, .int .i64 sx, .int .i64 sy, .int .i64 sz]
      have below1 : Below w.heap.size w (wr.alloc (.cells #[.int .i64 kind, .int .i64 on, .int .i64 sx, .int .i64 sy, .int .i64 sz] 58)) := hbel.alloc hbel.size _
      have hB1 : B ≤ (wr.alloc (.cells #[.int .i64 kind, .int .i64 on, .int .i64 sx, .int .i64 sy, .int .i64 sz] 58)).heap.size := by simp; omega
      have HO := Hid.mk' (show w.heap.size < B ∧ B ≤ wr.heap.size from ⟨HB.out, hBw⟩)
      have H1 := Hid.mk' (And.intro hKok (And.intro hC1 (And.intro hL1 (And.intro bO1 (And.intro below1 hB1)))))
      clear hC hL hbel hC1 hL1 bO1 below1 hBw hB1 hKok
      have HUP := Hid.mk' (And.intro hup (And.intro hKw hLk))
      clear hup hKw hLk
      by_cases h2 : kind.tmod 3 = 0
      · have t0 : (kind.tmod 3 == 0) = true := by simp [h2]
        clear h2
        go_wp2_with fail
        clear l0 l1 l2 l3 l4 t0
        obtain ⟨hKok, hC1, hL1, bO1, below1, hB1⟩ := H1.out
        clear H1
        generalize (wr.alloc (.cells #[.int .i64 kind, .int .i64 on, .int .i64 sx, .int .i64 sy, .int .i64 sz] 58)) = W1 at *
        generalize wr.heap.size = O at *
        refine (tick_any _ _ _ hKok.phys _ hC1).mono ?_; rintro e W2 ⟨rfl, hC2, hg2⟩
        have hL2 := hL1.grown hg2 HO.out.1
        have below2 := below_gb below1 hg2 (Nat.le_refl _)
        have hB2 : B ≤ W2.heap.size := Nat.le_trans hB1 hg2.size
        have R := Hid.mk' (And.intro (hKok.tick on) (And.intro hC2 (And.intro hL2 (And.intro below2 hB2))))
        clear hC1 hL1 bO1 below1 hB1 hKok hC2 hL2 below2 hB2 hg2
        go_wp2_with fail
        go_roundw
        case rel => exact ⟨k + 1, by go_num, by omega, K.tick on, L, R.out.1, HUP.out.2.1, R.out.2.1, R.out.2.2.1, HUP.out.1, Nat.le_succ_of_le HUP.out.2.2, R.out.2.2.2.1, R.out.2.2.2.2⟩
        case measure => simp [intOf]; omega
      · have t0 : (kind.tmod 3 == 0) = false := by simp [h2]
        clear h2
        by_cases h3 : kind.tmod 3 = 1
        · have t1 : (kind.tmod 3 == 1) = true := by simp [h3]
          clear h3
          have CR := Hid.mk' (right_any ⟨sx, sy, sz⟩)
          go_wp2_with fail
          clear l0 l1 l2 l3 l4 t0 t1
          obtain ⟨hKok, hC1, hL1, bO1, below1, hB1⟩ := H1.out
          clear H1
          generalize (wr.alloc (.cells #[.int .i64 kind, .int .i64 on, .int .i64 sx, .int .i64 sy, .int .i64 sz] 58)) = W1 at *
          generalize wr.heap.size = O at *
          refine (see_any _ _ ⟨sx, sy, sz⟩ _ hC1).mono ?_; rintro e W2 ⟨rfl, hC2, hg2⟩
          have hL2 := hL1.grown hg2 HO.out.1
          have bO2 := bO1.grown hg2 (by intro h; have h1 := Option.some.inj h; have h2 := HO.out; omega)
          have below2 := below_gb below1 hg2 (Nat.le_refl _)
          have hB2 : B ≤ W2.heap.size := Nat.le_trans hB1 hg2.size
          obtain ⟨o0, o1, o2, o3, o4⟩ := Bx.reads5 bO2
          have H2 := Hid.mk' (And.intro (hKok.see ⟨sx, sy, sz⟩) (And.intro hC2 (And.intro hL2 (And.intro bO2 (And.intro below2 hB2)))))
          clear hC1 hL1 bO1 below1 hB1 hKok hC2 hL2 bO2 below2 hB2 hg2 o0 o1
          go_wp2_with fail
          clear o2 o3 o4
          obtain ⟨hKok, hC2, hL2, bO2, below2, hB2⟩ := H2.out
          clear H2
          refine (CR.out _).mono ?_; rintro e W3 ⟨rfl, hb3⟩
          have hC3 : Clk W3 w.heap.size _ := Bx.next hC2 hb3
          have hL3 := hL2.next hb3
          have bO3 := bO2.next hb3
          have below3 := bnext below2 hb3
          have hB3 : B ≤ W3.heap.size := Nat.le_trans hB2 hb3.size
          clear hC2 hL2 bO2 below2 hB2 hb3
          cases hr : rightB ⟨sx, sy, sz⟩ with
          | false =>
            have R := Hid.mk' (And.intro hKok (And.intro hC3 (And.intro hL3 (And.intro below3 hB3))))
            clear hr hKok hC3 hL3 below3 hB3 bO3
            go_wp2_with fail
            go_roundw
            case rel => exact ⟨k + 1, by go_num, by omega, _, L, R.out.1, (by unfold Ck.see; split <;> exact HUP.out.2.1), R.out.2.1, R.out.2.2.1, HUP.out.1.later _, Nat.le_succ_of_le HUP.out.2.2, R.out.2.2.2.1, R.out.2.2.2.2⟩
            case measure => simp [intOf]; omega
          | true =>
            have HR := Hid.mk' hr
            clear hr
            obtain ⟨o0, o1, o2, o3, o4⟩ := Bx.reads5 bO3
            have HL := HUP.out.2.2
            have hlen := Nat.le_trans HL (Nat.le_trans hk hn)
            have H3 := Hid.mk' (And.intro hKok (And.intro hC3 (And.intro below3 (And.intro hB3 hL3))))
            clear hKok hC3 below3 hB3 bO3 o0 o1 hL3 HL
            go_wp2_with (at_builtin; refine wpList_append_own _ rfl (.tmp 96) (.tmp 99) 67 rfl B 46 i0 _ 3 24 Try.underlying67 HI.out.1 HI.out.2.1 HI.out.2.2.1 HI.out.2.2.2 rfl (by decide) u8 L.length _ rfl (World.ownsRow.alloc H3.out.2.2.2.2 _) ⟨W3.heap.size, 0, none⟩ 1 1 [.int .i64 sx, .int .i64 sy, .int .i64 sz] rfl rfl ?c1 ?c2 ?c3 ?c4 ?c5 ?_)
            case c1 => exact World.news_of_block (cs := #[.int .i64 sx, .int .i64 sy, .int .i64 sz]) (t := 46) (fr := (0, 0)) (heap_alloc_new W3 _)
            case c2 => simp [Value.oneCell']
            case c3 => simp only [maxLen]; omega
            case c4 => omega
            case c5 => have := H3.out.2.2.2.1; simp; omega
            intro v4 W4 hown4 hgr4 _
            obtain ⟨hKok, hC3, below3, hB3, hL3⟩ := H3.out
            have hL4 : Sts W4 B v4 (L ++ [⟨sx, sy, sz⟩]) := by unfold Sts; rw [flat_snoc, List.length_append]; exact hown4
            have hC4 : Clk W4 w.heap.size _ := Bx.grown (Bx.past hC3 _) hgr4 (own_ne hL3 HO.out.1)
            have below4 : Below w.heap.size w W4 := (below3.alloc below3.size _).grown hgr4 (by have := below3.size; simp; omega) (fun j hj => Nat.le_of_lt (Nat.lt_of_lt_of_le HO.out.1 (hL3.lt j hj).1))
            have hB4 : B ≤ W4.heap.size := Nat.le_trans hB3 (Nat.le_trans (by simp) hgr4.size)
            have R := Hid.mk' (And.intro hKok (And.intro hC4 (And.intro hL4 (And.intro below4 hB4))))
            clear H3 hKok hC3 below3 hB3 hL3 hown4 hgr4 hL4 hC4 below4 hB4 o2 o3 o4
            go_wp2_with fail
            go_roundw
            case rel => exact ⟨k + 1, by go_num, by omega, _, _, R.out.1, (by unfold Ck.see; split <;> exact HUP.out.2.1), R.out.2.1, R.out.2.2.1, HUP.out.1.seen HR.out, (by have := HUP.out.2.2; simp; omega), R.out.2.2.2.1, R.out.2.2.2.2⟩
            case measure => simp [intOf]; omega
        · have t1 : (kind.tmod 3 == 1) = false := by simp [h3]
          clear h3
          go_wp2_with fail
          clear l0 l1 l2 l3 l4 t0 t1
          obtain ⟨hKok, hC1, hL1, bO1, below1, hB1⟩ := H1.out
          clear H1 bO1
          generalize (wr.alloc (.cells #[.int .i64 kind, .int .i64 on, .int .i64 sx, .int .i64 sy, .int .i64 sz] 58)) = W1 at *
          generalize wr.heap.size = O at *
          refine (now_any _ _ hKok _ hC1).mono ?_; rintro e W2 ⟨rfl, hC2, hg2⟩
          have hL2 := hL1.grown hg2 HO.out.1
          have below2 := below_gb below1 hg2 (Nat.le_refl _)
          have hB2 : B ≤ W2.heap.size := Nat.le_trans hB1 hg2.size
          have hK2 := hKok.now
          have CR := Hid.mk' (right_any K.next)
          clear hC1 hL1 below1 hB1 hg2 hKok
          have hLn : L.length ≤ 100 := Nat.le_trans HUP.out.2.2 (Nat.le_trans hk hn)
          obtain ⟨va, vc, hv⟩ := hL2.form
          subst hv
          cases hr : rightB K.next with
          | false =>
            have R := Hid.mk' (show Ck.Ok K.now ∧ Clk (W2.alloc (.cells #[.int .i64 0, .int .i64 0, .int .i64 0] 46)) w.heap.size K.now ∧ Sts (W2.alloc (.cells #[.int .i64 0, .int .i64 0, .int .i64 0] 46)) B (.slice va L.length vc) L ∧ Below w.heap.size w (W2.alloc (.cells #[.int .i64 0, .int .i64 0, .int .i64 0] 46)) ∧ B ≤ (W2.alloc (.cells #[.int .i64 0, .int .i64 0, .int .i64 0] 46)).heap.size from ⟨hK2, Bx.past hC2 _, World.ownsRow.alloc hL2 _, below2.alloc below2.size _, by simp; omega⟩)
            have e1 : K.told = zeroS := by unfold Ck.told; rw [if_neg (by rw [hr]; simp)]
            have e2 : K.now = K := by unfold Ck.now; rw [if_neg (by rw [hr]; simp)]
            rw [e1]
            unfold zeroS St.cells
            dsimp only
            have E2 := Hid.mk' e2
            clear hr hC2 hL2 below2 hB2 hK2 e1 e2 CR
            go_wp2_with fail
            refine wp_loop_rounds 1 ?_
            rw [rounds_succ]
            go_wp2_with fail
            go_roundw
            case rel => exact ⟨k + 1, by go_num, by omega, _, L, R.out.1, (by rw [E2.out]; exact HUP.out.2.1), R.out.2.1, R.out.2.2.1, (by rw [E2.out]; exact HUP.out.1), Nat.le_succ_of_le HUP.out.2.2, R.out.2.2.2.1, R.out.2.2.2.2⟩
            case measure => simp [intOf]; omega
          | true =>
            have e1 : K.told = K.next := by unfold Ck.told; rw [if_pos hr]
            have e2 : K.now.last = K.next ∧ K.now.who = K.who := by unfold Ck.now; rw [if_pos hr]; exact ⟨rfl, rfl⟩
            have e3 : K.next.z = who := by
              have := HUP.out.2.1
              unfold Ck.next; split <;> exact this
            have hbeh := HUP.out.1.next
            have htold : upto (L ++ [K.next]) K.now.last := by rw [e2.1]; exact HUP.out.1.told
            rw [e1]
            rw [hr] at CR
            have hw2 := e2.2.trans HUP.out.2.1
            clear hr e1 e2
            generalize K.now = K2 at *
            generalize K.next = t at *
            obtain ⟨tx, ty, tz⟩ := t
            dsimp only at e3
            subst e3
            unfold St.cells at *
            dsimp only at *
            have E2 := Hid.mk' (And.intro htold hw2)
            have HBH := Hid.mk' hbeh
            clear htold hw2 hbeh
            have bA := Bx.fresh W2 46 #[.int .i64 tx, .int .i64 ty, .int .i64 tz]
            have hC3 : Clk (W2.alloc (.cells #[.int .i64 tx, .int .i64 ty, .int .i64 tz] 46)) w.heap.size _ := Bx.past hC2 _
            have hL3 : Sts (W2.alloc (.cells #[.int .i64 tx, .int .i64 ty, .int .i64 tz] 46)) B (.slice va L.length vc) L := World.ownsRow.alloc hL2 _
            have below3 := below2.alloc below2.size (.cells #[.int .i64 tx, .int .i64 ty, .int .i64 tz] 46)
            have hB3 : B ≤ (W2.alloc (.cells #[.int .i64 tx, .int .i64 ty, .int .i64 tz] 46)).heap.size := by simp; omega
            have H3 := Hid.mk' (And.intro hK2 (And.intro hC3 (And.intro hL3 (And.intro bA (And.intro below3 hB3)))))
            clear hC2 hL2 below2 hB2 hK2 bA hC3 hL3 below3 hB3
            go_wp2_with fail
            generalize W2.alloc (.cells #[.int .i64 tx, .int .i64 ty, .int .i64 tz] 46) = W3 at *
            generalize W2.heap.size = A at *
            go_loopw [13] (fun i wr => ∃ j : Nat, i = .int .i64 j ∧ j ≤ L.length ∧ Below W3.heap.size W3 wr) (fun i _ => L.length - (intOf i).toNat)
            case atStart => exact ⟨0, rfl, Nat.zero_le _, Below.refl _ _⟩
            case round =>
              obtain ⟨j, rfl, hj, hbj⟩ := hrel
              obtain ⟨hK3, hC3, hL3, bA3, below3, hB3⟩ := H3.out
              rename World => wj
              by_cases hjl : j < L.length
              · obtain ⟨g, cp, hv, hle, q0, q1, q2⟩ := (hL3.next hbj).read j hjl
                simp only [Value.slice.injEq, true_and] at hv
                obtain ⟨rfl, rfl⟩ := hv
                have hls : lessS L[j] ⟨tx, ty, tz⟩ = true := (lessS_iff _ _).2 (HBH.out _ (List.getElem_mem hjl))
                have C0 := less_any L[j] ⟨tx, ty, tz⟩
                rw [hls] at C0
                clear hls
                generalize L[j] = sj at *
                obtain ⟨ux, uy, uz⟩ := sj
                unfold St.cells at C0
                dsimp only at C0 q0 q1 q2
                have a0 := Go.cell_regrown ((bA3.next hbj).read (i := 0) (v := .int .i64 tx) rfl)
                have a1 := Go.cell_regrown ((bA3.next hbj).read (i := 1) (v := .int .i64 ty) rfl)
                have a2 := Go.cell_regrown ((bA3.next hbj).read (i := 2) (v := .int .i64 tz) rfl)
                have b0 := Go.cell_regrown q0
                have b1 := Go.cell_regrown q1
                have b2 := Go.cell_regrown q2
                have cS : ∀ d os, Calls Try.prog 27 #[.agg #[.int .i64 ux, .int .i64 uy, .int .i64 uz], .agg #[.int .i64 tx, .int .i64 ty, .int .i64 tz]] (Go.Sort.grow (Go.redrawn wj d) os) fun e w'' => e = .returned (.bool true) ∧ ∃ p : Go.Regrown, w'' = Go.Sort.grow (Go.redrawn wj p.d) p.os := fun d os => Calls.regrown_of (C0 _)
                have CS := Hid.mk' cS
                have HJ := Hid.mk' hbj
                clear cS C0 q0 q1 q2 hK3 hC3 hL3 bA3 below3 hB3 hbj
                generalize L.length = Ln at *
                have i0' : (0 : Int) ≤ (j : Int) := by omega
                have i1' : (j : Int) < (Ln : Int) := by omega
                go_wp2_with fail
                refine Go.wp_region_quiet_below (by kernel_rfl) (by kernel_rfl) ?_
                repeat (quiet_step (with_reducible exact CS.out _ _))
                refine wpQuiet_nil ?_
                intro _ hw'
                obtain ⟨⟨dq, osq⟩, hw''⟩ := hw'
                subst hw''
                have R := Hid.mk' (bnext HJ.out (Go.below_regrown wj dq osq))
                clear a0 a1 a2 b0 b1 b2
                generalize Go.Sort.grow (Go.redrawn wj dq) osq = W9 at *
                go_wp2_with fail
                go_roundw
                case rel => exact ⟨j + 1, by go_num, by omega, R.out⟩
                case measure => simp [intOf]; omega
              · have hjeq : j = L.length := by omega
                have hC4 : Clk wj w.heap.size K2 := Bx.next hC3 hbj
                have hL4 := hL3.next hbj
                have bA4 := bA3.next hbj
                have below4 := bnext below3 hbj
                have hB4 : B ≤ wj.heap.size := Nat.le_trans hB3 hbj.size
                obtain ⟨a0, a1, a2⟩ := bA4.reads3
                have H4 := Hid.mk' (And.intro hK3 (And.intro hC4 (And.intro hL4 (And.intro bA4 (And.intro below4 hB4)))))
                clear H3 hC3 hL3 bA3 below3 hB3 hbj hK3 hC4 hL4 bA4 below4 hB4
                go_wp2_with fail
                clear a0 a1 a2
                obtain ⟨hK3, hC4, hL4, bA4, below4, hB4⟩ := H4.out
                clear H4
                refine (CR.out _).mono ?_; rintro e W5 ⟨rfl, hb5⟩
                have hC5 : Clk W5 w.heap.size K2 := Bx.next hC4 hb5
                have hL5 := hL4.next hb5
                have bA5 := bA4.next hb5
                have below5 := bnext below4 hb5
                have hB5 : B ≤ W5.heap.size := Nat.le_trans hB4 hb5.size
                obtain ⟨a0, a1, a2⟩ := bA5.reads3
                have H5 := Hid.mk' (And.intro hK3 (And.intro hC5 (And.intro below5 (And.intro hB5 hL5))))
                clear hK3 hC4 hL4 bA4 below4 hB4 hb5 hC5 hL5 bA5 below5 hB5
                go_wp2_with (at_builtin; refine wpList_append_own _ rfl (.tmp 77) (.tmp 79) 67 rfl B 46 i0 _ 3 24 Try.underlying67 HI.out.1 HI.out.2.1 HI.out.2.2.1 HI.out.2.2.2 rfl (by decide) (.slice va L.length vc) L.length _ rfl (World.ownsRow.alloc H5.out.2.2.2.2 _) ⟨W5.heap.size, 0, none⟩ 1 1 [.int .i64 tx, .int .i64 ty, .int .i64 tz] rfl rfl ?d1 ?d2 ?d3 ?d4 ?d5 ?_)
                case d1 => exact World.news_of_block (cs := #[.int .i64 tx, .int .i64 ty, .int .i64 tz]) (t := 46) (fr := (0, 0)) (heap_alloc_new W5 _)
                case d2 => simp [Value.oneCell']
                case d3 => simp only [maxLen]; omega
                case d4 => omega
                case d5 => have := H5.out.2.2.2.1; simp; omega
                intro v6 W6 hown6 hgr6 _
                obtain ⟨hK3, hC5, below5, hB5, hL5⟩ := H5.out
                have hL6 : Sts W6 B v6 (L ++ [⟨tx, ty, tz⟩]) := by unfold Sts; rw [flat_snoc, List.length_append]; exact hown6
                have hC6 : Clk W6 w.heap.size _ := Bx.grown (Bx.past hC5 _) hgr6 (own_ne hL5 HO.out.1)
                have below6 : Below w.heap.size w W6 := (below5.alloc below5.size _).grown hgr6 (by have := below5.size; simp; omega) (fun j hj => Nat.le_of_lt (Nat.lt_of_lt_of_le HO.out.1 (hL5.lt j hj).1))
                have hB6 : B ≤ W6.heap.size := Nat.le_trans hB5 (Nat.le_trans (by simp) hgr6.size)
                have R := Hid.mk' (And.intro hK3 (And.intro hC6 (And.intro hL6 (And.intro below6 hB6))))
                clear H5 hK3 hC5 below5 hB5 hL5 hown6 hgr6 hL6 hC6 below6 hB6 a0 a1 a2
                go_wp2_with fail
                go_roundw
                case rel => exact ⟨k + 1, by go_num, by omega, _, _, R.out.1, E2.out.2, R.out.2.1, R.out.2.2.1, E2.out.1, (by have := HUP.out.2.2; simp; omega), R.out.2.2.2.1, R.out.2.2.2.2⟩
                case measure => simp [intOf]; omega
    · clear HC
      go_wp2_with fail
      refine (alive4_any _).mono ?_; rintro e w9 ⟨rfl, hb9⟩
      go_wp2_with fail
      go_ret
      exact ⟨rfl, bnext hbel hb9⟩
end Go.Proofs.Ytnkgicjclngnpaa
