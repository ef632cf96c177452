/- Layer 47 (gaps): Get, by the code. -/
import Derived.Test.YtoidloofclalhabZg
import Derived.Test.YtoidloofclalhabZh
namespace Go.Proofs.Ytoidloofclalhab
open Go.RowKit

theorem gb_own {w W W' : World} {row row2 : Option Nat} (h : w.grownBy W row) (k : W.grownBy W' row2) (hr : ∀ j, row2 = some j → w.heap.size ≤ j) : w.grownBy W' row :=
  ⟨k.os.trans h.os, k.tape.trans h.tape, k.output.trans h.output, Nat.le_trans h.size k.size, fun i hi hn => (k.block i (Nat.lt_of_lt_of_le hi h.size) (fun e => by have := hr i e.symm; omega)).trans (h.block i hi hn)⟩
theorem Rdr.step' {w w' : World} {R : Nat} {v : Value} {l : List UInt8} {at_ : Nat} {why : Int} (h : Rdr w R v l at_ why) (hb : Below w.heap.size w w') : Rdr w' R v l at_ why := ⟨h.1.next hb, h.2.next hb⟩
/-- What holds in Get's loop. -/
structure GI (w : World) (R : Nat) (vr : Value) (lb : List UInt8) (G : List Int × Nat × Int) (f p : Nat) (a : Int) (acc : List Int) (v3 : Value) (wr : World) : Prop where
  eq : getA lb f p a acc = G
  io : IO wr w.heap.size v3 acc
  rd : Rdr wr R vr lb p 0
  gb : w.grownBy wr (some R)
  hp : p ≤ lb.length
/-- What Get answers. -/
def GetE (w : World) (R : Nat) (vr : Value) (lb : List UInt8) (G : List Int × Nat × Int) (e : Ending) (w' : World) : Prop :=
  ∃ v', e = .returned v' ∧ IO w' w.heap.size v' G.1 ∧ Rdr w' R vr lb G.2.1 G.2.2 ∧ w.grownBy w' (some R)
theorem IO.nil (w : World) (B : Nat) : IO w B (.slice none 0 0) [] := World.ownsRow_nil _ _ _ _
theorem IO.form {w : World} {B : Nat} {v : Value} {l : List Int} (h : IO w B v l) : ∃ a cap, v = .slice a l.length cap := by
  rcases h.2 with ⟨rfl, h0⟩ | ⟨g, cap, cur, rfl, _⟩
  · exact ⟨none, 0, by rw [h0]⟩
  · exact ⟨_, cap, rfl⟩
theorem GI.fault {w : World} {R : Nat} {vr : Value} {lb : List UInt8} {G : List Int × Nat × Int} {f p p' : Nat} {a y : Int} {acc : List Int} {v3 : Value} {wr W : World} (h : GI w R vr lb G (f + 1) p a acc v3 wr)
    (hG : ([], p', y) = getA lb (f + 1) p a acc) (hr : Rdr W R vr lb p' y) (hg : wr.grownBy W (some R)) : GetE w R vr lb G (.returned (.slice none 0 0)) W := by
  have e := hG.trans h.eq
  refine ⟨_, rfl, ?_, ?_, gb_trans h.gb hg⟩
  · rw [← e]; exact IO.nil _ _
  · rw [← e]; exact hr
set_option maxRecDepth 100000 in
set_option maxHeartbeats 8000000 in
theorem gget_any (R : Nat) (vr : Value) (lb : List UInt8) (hl : lb.length ≤ 100000) (hA : Apart R vr) (w : World) (hR : R < w.heap.size) (h : Rdr w R vr lb 0 0) :
    Calls Try.prog 31 #[.pointer (some ⟨R, 0, none⟩)] w (GetE w R vr lb (gets lb)) := by
  obtain ⟨i0, hi, hz0, hz1, hz2⟩ := info_parts i_info
  have HI := Hid.mk' (And.intro hi (And.intro hz0 (And.intro hz1 hz2)))
  clear hi hz0 hz1 hz2
  have HC := Lib.hid (count_any R vr lb 0 0 4096 (Nat.zero_le _) hl hA w h)
  have hci := cnt_inv lb 0 4096 (Nat.zero_le _)
  have hgs : gets lb = if (cntS lb 0 0 4096).2.2 ≠ 0 then ([], (cntS lb 0 0 4096).2.1, (cntS lb 0 0 4096).2.2) else getA lb (cntS lb 0 0 4096).1 (cntS lb 0 0 4096).2.1 0 [] := rfl
  have hc0 := cnt_zero lb 0 4096
  have HA := Lib.hid hA
  generalize gets lb = G at *
  generalize cntS lb 0 0 4096 = c at *
  obtain ⟨n0, p0, y0⟩ := c
  dsimp only at *
  clear hA h
  by_cases hy : y0 = 0
  · subst hy
    rw [if_neg (by simp)] at hgs
    obtain ⟨q1, q2, q3, q4, q5⟩ := hci rfl
    have HG := Lib.hid hgs
    clear hgs hci hc0 q1 q3 q5
    go_enter Try.func31, Try.ntmps31
    go_wp2_with fail
    refine (HC.out).mono ?_; rintro e w1 ⟨rfl, hr1, hg1⟩
    have H0 := Lib.hid (show GI w R vr lb G n0 p0 0 [] (.slice none 0 0) w1 from ⟨HG.out.symm, IO.nil _ _, hr1, hg1, q2⟩)
    clear hr1 hg1 HC q2
    go_wp2_with fail
    go_loopw [3, 4, 8] (fun s3 s4 s8 wr => ∃ (i f p : Nat) (a : Int) (acc : List Int) (v3 : Value), s8 = .int .i64 i ∧ s4 = .int .i64 a ∧ v3 = s3 ∧ i + f = n0 ∧ 0 ≤ a ∧ a ≤ 4611686018427387904 ∧ acc.length = i ∧ Hid (GI w R vr lb G f p a acc v3 wr)) (fun _ _ s8 _ => n0 - (intOf s8).toNat)
    case atStart => exact ⟨0, n0, p0, 0, [], _, rfl, rfl, rfl, by omega, by omega, by omega, rfl, H0⟩
    case round =>
      obtain ⟨i, f, p, a, acc, v3, rfl, rfl, rfl, hif, ha0, ha1, hacc, HGI⟩ := hrel
      clear H0
      by_cases hlt : i < n0
      · obtain ⟨f, rfl⟩ : ∃ f', f = f' + 1 := ⟨f - 1, by omega⟩
        have HN := Lib.hid (num_any R vr lb p 0 HGI.out.hp hl HA.out wr HGI.out.rd)
        have hci2 := cnt_inv lb p 9223372036854775807 HGI.out.hp
        have hga : getA lb (f + 1) p a acc = if (cntS lb p 0 9223372036854775807).2.2 ≠ 0 then ([], (cntS lb p 0 9223372036854775807).2.1, (cntS lb p 0 9223372036854775807).2.2)
          else if 4611686018427387903 < a + ((cntS lb p 0 9223372036854775807).1 : Int) then ([], (cntS lb p 0 9223372036854775807).2.1, 31)
          else getA lb f (cntS lb p 0 9223372036854775807).2.1 (a + ((cntS lb p 0 9223372036854775807).1 : Int) + 1) (acc ++ [a + ((cntS lb p 0 9223372036854775807).1 : Int)]) := rfl
        have hc2 := cnt_zero lb p 9223372036854775807
        generalize cntS lb p 0 9223372036854775807 = d at *
        obtain ⟨x, p2, y⟩ := d
        dsimp only at *
        have HACC := Lib.hid hacc
        have HIF := Lib.hid hif
        have hi4 : i < 4096 := by omega
        clear hacc hif
        by_cases hy2 : y = 0
        · subst hy2
          rw [if_neg (by simp)] at hga
          obtain ⟨r1, r2, r3, r4, r5⟩ := hci2 rfl
          have hx0 : (0 : Int) ≤ (x : Int) := by omega
          have hx1 : (x : Int) < 4611686018427387904 := by omega
          clear hci2 hc2 r1 r3 r4 r5
          generalize (x : Int) = z at *
          by_cases hbig : 4611686018427387903 < a + z
          · rw [if_pos hbig] at hga
            have HGA := Lib.hid hga.symm
            clear hga r2
            go_wp2_with fail
            refine (HN.out).mono ?_; rintro e w2 ⟨rfl, hr2, hg2⟩
            have HF := Lib.hid (fail_any R vr lb p2 0 31 HA.out w2 hr2)
            clear hr2
            go_wp2_with fail
            refine (HF.out).mono ?_; rintro e w3 ⟨rfl, hr3, hg3⟩
            simp only [if_true] at hr3
            have HW := Lib.hid (why_any R vr lb p2 31 w3 hr3)
            have HRT := Lib.hid (GI.fault HGI.out HGA.out hr3 (gb_trans hg2 hg3))
            clear hr3 hg2 hg3
            go_wp2_with fail
            refine (HW.out).mono ?_; rintro e w4 ⟨rfl, rfl⟩
            go_wp2_with fail
            go_ret
            exact HRT.out
          · rw [if_neg hbig] at hga
            have HGA := Lib.hid (hga.symm.trans HGI.out.eq)
            have HP2 := Lib.hid r2
            clear hga r2
            go_wp2_with fail
            refine (HN.out).mono ?_; rintro e w2 ⟨rfl, hr2, hg2⟩
            have HW := Lib.hid (why_any R vr lb p2 0 w2 hr2)
            have HIO2 := Lib.hid (show IO w2 w.heap.size v3 acc from World.ownsRow.kept HGI.out.io hg2 (.inr (own_ne HGI.out.io hR)))
            have HGB2 := Lib.hid (gb_trans HGI.out.gb hg2)
            have HR2 := Lib.hid hr2
            obtain ⟨va, vcap, hv3⟩ := HGI.out.io.form
            rw [HACC.out] at hv3
            subst hv3
            have hsz : w.heap.size ≤ w2.heap.size := HGB2.out.size
            clear hr2 hg2
            go_wp2_with fail
            refine (HW.out).mono ?_; rintro e w4 ⟨rfl, rfl⟩
            have HO3 : Hid (w2.ownsRow w.heap.size 3 1 (.slice va i vcap) i (iv acc)) := Lib.hid (by
              have := HIO2.out
              unfold IO at this
              rw [HACC.out] at this
              exact this)
            go_wp2_with (at_builtin; refine wpList_append_own _ rfl (.tmp 21) (.tmp 23) 43 rfl w.heap.size 3 i0 _ 1 8 Try.underlying43 HI.out.1 HI.out.2.1 HI.out.2.2.1 HI.out.2.2.2 rfl (by decide) _ i (iv acc) rfl (World.ownsRow.alloc HO3.out _) ⟨w2.heap.size, 0, none⟩ 1 1 [.int .i64 (a + z)] rfl rfl ?c1 ?c2 ?c3 ?c4 ?c5 ?_)
            case c1 => exact World.news_of_block (cs := #[.int .i64 (a + z)]) (t := 3) (fr := (0, 0)) (heap_alloc_new w2 _)
            case c2 => simp [Value.oneCell']
            case c3 => simp only [maxLen]; omega
            case c4 => omega
            case c5 => simp; omega
            intro v4 W4 hown4 hgr4 _
            have hlt4 : ∀ j, (Value.slice va i vcap).ownBlock = some j → w.heap.size ≤ j := fun j hj => (World.ownsRow.lt HO3.out j hj).1
            have hal : w2.grownBy (w2.alloc (.cells #[.int .i64 (a + z)] 3)) (some R) := gb_alloc _ _ _
            have HN4 : Hid (GI w R vr lb G f p2 (a + z + 1) (acc ++ [a + z]) v4 W4) := Lib.hid ⟨HGA.out, by
              unfold IO
              rw [List.length_append, HACC.out, iv_snoc]
              exact hown4, ⟨(HR2.out.1.past _).grown hgr4 (fun e => by have := hlt4 R e; omega), by
              have hb1 : BS (w2.alloc (.cells #[.int .i64 (a + z)] 3)) vr lb := HR2.out.2.next ((Below.refl _ _).alloc (Nat.le_refl _) _)
              exact hb1.grown (B := w.heap.size) hgr4 hlt4 (fun ad n cp hv => by have := HA.out ad.block (by rw [hv]; rfl); omega)⟩, gb_own (gb_trans HGB2.out hal) hgr4 hlt4, HP2.out⟩
            have HLN := Lib.hid (show (acc ++ [a + z]).length = i + 1 by rw [List.length_append, HACC.out]; rfl)
            clear hown4 hgr4 hal hlt4
            go_wp2_with fail
            go_roundw
            case rel => exact ⟨i + 1, f, p2, a + z + 1, acc ++ [a + z], v4, by go_num, rfl, rfl, by have := HIF.out; omega, by omega, by omega, HLN.out, HN4⟩
            case measure => simp [intOf]; omega
        · have hx := hc2 hy2
          subst hx
          rw [if_pos hy2] at hga
          have HGA := Lib.hid hga.symm
          have HY := Lib.hid hy2
          have hyb : (y != 0) = true := by simpa using hy2
          have hye : (y == 0) = false := by simpa using hy2
          clear hga hci2 hc2 hy2
          by_cases hbig : 4611686018427387903 < a
          · go_wp2_with fail
            refine (HN.out).mono ?_; rintro e w2 ⟨rfl, hr2, hg2⟩
            have HF := Lib.hid (fail_any R vr lb p2 y 31 HA.out w2 hr2)
            clear hr2
            go_wp2_with fail
            refine (HF.out).mono ?_; rintro e w3 ⟨rfl, hr3, hg3⟩
            rw [if_neg HY.out] at hr3
            have HW := Lib.hid (why_any R vr lb p2 y w3 hr3)
            have HRT := Lib.hid (GI.fault HGI.out HGA.out hr3 (gb_trans hg2 hg3))
            clear hr3 hg2 hg3
            go_wp2_with fail
            refine (HW.out).mono ?_; rintro e w4 ⟨rfl, rfl⟩
            go_wp2_with fail
            go_ret
            exact HRT.out
          · go_wp2_with fail
            refine (HN.out).mono ?_; rintro e w2 ⟨rfl, hr2, hg2⟩
            have HW := Lib.hid (why_any R vr lb p2 y w2 hr2)
            have HRT := Lib.hid (GI.fault HGI.out HGA.out hr2 hg2)
            clear hr2 hg2
            go_wp2_with fail
            refine (HW.out).mono ?_; rintro e w4 ⟨rfl, rfl⟩
            go_wp2_with fail
            go_ret
            exact HRT.out
      · obtain rfl : f = 0 := by omega
        have HRT : Hid (GetE w R vr lb G (.returned v3) wr) := Lib.hid (by
          have e := HGI.out.eq
          unfold getA at e
          refine ⟨v3, rfl, ?_, ?_, HGI.out.gb⟩
          · rw [← e]; exact HGI.out.io
          · rw [← e]; exact HGI.out.rd)
        go_wp2_with fail
        go_ret
        exact HRT.out
  · have hn := hc0 hy
    subst hn
    rw [if_pos hy] at hgs
    have HG := Lib.hid hgs
    clear hgs hci hc0 hy
    go_enter Try.func31, Try.ntmps31
    go_wp2_with fail
    refine (HC.out).mono ?_; rintro e w1 ⟨rfl, hr1, hg1⟩
    have HRT : Hid (GetE w R vr lb G (.returned (.slice none 0 0)) w1) := Lib.hid (by
      refine ⟨_, rfl, ?_, ?_, hg1⟩
      · rw [HG.out]; exact IO.nil _ _
      · rw [HG.out]; exact hr1)
    clear hr1 hg1
    go_wp2_with fail
    refine wp_loop_rounds 1 ?_
    rw [rounds_succ]
    go_wp2_with fail
    go_ret
    exact HRT.out
end Go.Proofs.Ytoidloofclalhab
