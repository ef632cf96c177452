/- Layer 32 (quorum): the law's loop: the statement QuorumCounts' walk. -/
import Derived.Test.YtoidloofclalhabJ7
namespace Go.Proofs.Ytoidloofclalhab
open Go.RowKit

def HdE (w : World) (c b8 : Nat) (need copies : Int) (l : List (Int × Int)) (g : Nat) (s10 s11 s12 s13 : Value) (wr : World) : Prop :=
  ∃ (q : Qs) (k : Nat), s13 = .int .i64 k ∧ k ≤ l.length ∧ g = l.length - k ∧ s10 = .int .i64 q.yes ∧ s11 = .int .i64 q.no ∧ s12 = .int .i64 q.first ∧ q.Ok k ∧ q.need = need ∧ q.cp = max copies 0 ∧ HdR w c b8 q 0 wr
def MdE (w : World) (c b8 : Nat) (q : Qs) (nd why : Int) (s10 s11 s12 : Value) (wx : World) : Prop :=
  s10 = .int .i64 (q.step nd why).yes ∧ s11 = .int .i64 (q.step nd why).no ∧ s12 = .int .i64 (q.step nd why).first ∧ MidR w c b8 q (q.step nd why) wx
theorem WR.cells {w wr : World} {b off n cap : Nat} {l : List (Int × Int)} (hc : ∀ i (h : i < l.length), w.cell? ⟨b, off + i * 2, none⟩ = some (.int .i64 l[i].1) ∧ w.cell? ⟨b, off + i * 2 + 1, none⟩ = some (.int .i64 l[i].2)) (hb : Below w.heap.size w wr) (k : Nat) (hk : k < l.length) :
    wr.cell? ⟨b, off + k * 2, none⟩ = some (.int .i64 l[k].1) ∧ wr.cell? ⟨b, off + k * 2 + 1, none⟩ = some (.int .i64 l[k].2) := by
  obtain ⟨h1, h2⟩ := hc k hk
  exact ⟨by rw [hb.cell (World.block_lt_of_cell? _ _ h1)]; exact h1, by rw [hb.cell (World.block_lt_of_cell? _ _ h2)]; exact h2⟩
set_option maxRecDepth 100000 in
set_option maxHeartbeats 8000000 in
theorem counts_some (need copies : Int) (b off cap : Nat) (l : List (Int × Int)) (hl : l.length ≤ 50) (hc1 : -1099511627776 ≤ copies) (hc2 : copies ≤ 1099511627776) (w : World)
    (hcell : ∀ i (h : i < l.length), w.cell? ⟨b, off + i * 2, none⟩ = some (.int .i64 l[i].1) ∧ w.cell? ⟨b, off + i * 2 + 1, none⟩ = some (.int .i64 l[i].2)) (hbw : b < w.heap.size) :
    Calls Try.prog 5 #[.int .i64 need, .int .i64 copies, .slice (some ⟨b, off, none⟩) l.length cap] w fun e w' => e = .returned (.bool true) ∧ Below w.heap.size w w' := by
  obtain ⟨c, hcw⟩ : ∃ c, c = w.heap.size := ⟨_, rfl⟩
  have HC := Lib.hid hcell
  have HCW := Lib.hid hcw
  clear hcell hcw
  go_enter Try.func5, Try.ntmps5
  go_wp2_with fail
  refine (qnew_any _ _ _).mono ?_; rintro e w1 ⟨rfl, hq1, hb1⟩
  rw [← HCW.out] at hq1 ⊢
  have hin := Bx.inside hq1
  obtain ⟨b8, hb8⟩ : ∃ b8, b8 = w1.heap.size := ⟨_, rfl⟩
  have H8 := Lib.hid hb8
  have hHd : HdR w c b8 ⟨need, max copies 0, fun _ => false, fun _ => false, 0, 0, 0⟩ 0 ((w1.alloc (.cells (arr5 fun _ => false) 32)).alloc (.cells (arr5 fun _ => false) 32)) := by
    refine ⟨(Bx.past hq1 _).past _, ?_, ?_, ?_⟩
    · exact (Bx.fresh' w1 hb8.symm _ _).past _
    · exact Bx.fresh' _ (by simp [hb8]) _ _
    · have hs := hb1.size
      exact (hb1.alloc hs _).alloc (by simp; omega) _
  have hw8 : w.heap.size ≤ b8 := by have := hb1.size; omega
  have hc8 : c < b8 := by omega
  have HHd := Lib.hid hHd
  clear hHd hq1 hb1 hin hb8
  go_wp2_with fail
  rw [← H8.out]
  go_loopg [10, 11, 12, 13] l.length (fun g s10 s11 s12 s13 wr => HdE w c b8 need copies l g s10 s11 s12 s13 wr)
  case atStart => exact ⟨⟨need, max copies 0, fun _ => false, fun _ => false, 0, 0, 0⟩, 0, rfl, Nat.zero_le _, by omega, rfl, rfl, rfl, ⟨by dsimp only; omega, by dsimp only; omega, by dsimp only; omega, by dsimp only; omega, by simp⟩, rfl, rfl, HHd.out⟩
  case round =>
    obtain ⟨q, k, rfl, hk, hg, rfl, rfl, rfl, hok, hqn, hqc, hhd⟩ := hrel
    have HQ := Lib.hid (And.intro hqn hqc)
    have HG := Lib.hid hg
    clear hqn hqc hg HHd
    by_cases hlt : k < l.length
    · obtain ⟨x0, x1⟩ := WR.cells (n := 0) (cap := 0) HC.out hhd.bel k hlt
      generalize hx : l[k] = x at *
      obtain ⟨nd, why⟩ := x
      have HLK := Lib.hid hx
      clear hx
      dsimp only at x0 x1
      have HX := Lib.hid (And.intro hok hhd)
      have f8 : ∀ i, wr.frozen? ⟨b8, i, none⟩ = false := fun i => hhd.x8.open_ i
      have f9 : ∀ i, wr.frozen? ⟨b8 + 1, i, none⟩ = false := fun i => hhd.x9.open_ i
      have hbb8 : b < b8 := by omega
      clear hhd hok
      go_upto_region 13 with (fail)
      go_cut [15] from 37 to 167 (fun s15 wx => ∃ cb : Bool, s15 = .bool cb ∧ Hid (q.cnt nd = cb) ∧ wr = wx)
      case first =>
        by_cases h0 : nd < 0
        · have e2 : q.cnt nd = false := by unfold Qs.cnt inR; rw [decide_eq_false (by omega)]; rfl
          have HE := Lib.hid e2
          clear e2
          go_wp2_with fail
          go_meet
          exact ⟨_, rfl, HE, rfl⟩
        · by_cases h5 : 5 ≤ nd
          · have e2 : q.cnt nd = false := by unfold Qs.cnt inR; rw [decide_eq_false (by omega)]; rfl
            have HE := Lib.hid e2
            clear e2
            go_wp2_with fail
            go_meet
            exact ⟨_, rfl, HE, rfl⟩
          · obtain ⟨n, rfl⟩ : ∃ n : Nat, nd = n := ⟨nd.toNat, by omega⟩
            have hn5 : n < 5 := by omega
            have hin : inR n = true := by unfold inR; rw [decide_eq_true (by omega)]
            have z8 := HX.out.2.x8.read (arr5_at q.S n hn5)
            have e2 : q.cnt n = !q.S n := by unfold Qs.cnt; rw [hin]; simp
            have HE := Lib.hid e2
            clear hin h0 h5 e2
            go_wp2_with fail
            all_goals
              go_meet
              exact ⟨_, rfl, Lib.hid (by rw [HE.out]; first | done | simp [*]), rfl⟩
      case rest =>
        obtain ⟨cb, rfl, HCB, rfl⟩ := hcut
        go_upto_if 60 with (fail)
        go_cut [10, 11, 12] from 37 to 167 (fun s10 s11 s12 wx => MdE w c b8 q nd why s10 s11 s12 wx)
        case first =>
          have hcn := HCB.out
          cases cb with
          | false =>
            have e1 : q.step nd why = q := by
              unfold Qs.step
              cases hi : inR nd with
              | false => rfl
              | true =>
                unfold Qs.cnt at hcn
                rw [hi] at hcn
                rw [if_pos rfl]
                unfold Qs.say
                rw [if_pos (by simpa using hcn)]
            have HE := Lib.hid e1
            clear e1 hcn
            go_wp2_with fail
            go_meet
            unfold MdE
            rw [HE.out]
            exact ⟨rfl, rfl, rfl, HX.out.2.same⟩
          | true =>
            have hi : inR nd = true := by
              cases hi : inR nd with
              | false => unfold Qs.cnt at hcn; rw [hi] at hcn; simp at hcn
              | true => rfl
            have hin := of_decide_eq_true hi
            obtain ⟨n, rfl⟩ : ∃ n : Nat, nd = n := ⟨nd.toNat, by omega⟩
            have hn5 : n < 5 := by omega
            have hs : q.S n = false := by
              unfold Qs.cnt at hcn
              rw [hi] at hcn
              simpa using hcn
            have e1 : q.step n why = q.say n why := by unfold Qs.step; rw [if_pos hi]; simp
            have z8 := HX.out.2.x8.read (arr5_at q.S n hn5)
            have z9 := HX.out.2.x9.read (arr5_at q.O n hn5)
            have hnz : (n : Int) < 5 := by omega
            have g8 := f8 n
            have g9 := f9 n
            have HE := Lib.hid (And.intro e1 hs)
            clear e1 hs hin hi hcn
            have hy0 := HX.out.1.y0
            have hy1 : q.yes ≤ 50 := by have := HX.out.1.y1; omega
            have hn0 := HX.out.1.n0
            have hn1 : q.no ≤ 50 := by have := HX.out.1.n1; omega
            by_cases hw : why = 0
            · subst hw
              go_wp2_with fail
              go_region
              all_goals (go_wp2_with fail; go_meet)
              unfold MdE
              rw [HE.out.1]
              obtain ⟨q1, q2, q3⟩ := say_eq0 q n HE.out.2
              rw [q1, q2, q3]
              exact ⟨rfl, rfl, rfl, (HX.out.2.put hc8 hw8 n hn5 HE.out.2 0 _ rfl).drew⟩
            · have hw' : (why == 0) = false := by simpa using hw
              have HW := Lib.hid hw
              clear hw
              by_cases hf : q.first = 0
              · have hf' : (q.first == 0) = true := by simpa using hf
                have HF := Lib.hid (HX.out.1.f0.2 hf)
                clear hf
                go_wp2_with fail
                go_region
                all_goals (go_wp2_with fail; go_meet)
                unfold MdE
                rw [HE.out.1]
                obtain ⟨q1, q2, q3⟩ := say_eq1 q n why HE.out.2 HW.out HF.out
                rw [q1, q2, q3]
                exact ⟨rfl, rfl, rfl, (HX.out.2.put hc8 hw8 n hn5 HE.out.2 why _ (by rw [hw'])).drew⟩
              · have hf' : (q.first == 0) = false := by simpa using hf
                have HF := Lib.hid (fun e => hf (HX.out.1.f0.1 e))
                clear hf
                go_wp2_with fail
                go_region
                all_goals (go_wp2_with fail; go_meet)
                unfold MdE
                rw [HE.out.1]
                obtain ⟨q1, q2, q3⟩ := say_eq2 q n why HE.out.2 HW.out HF.out
                rw [q1, q2, q3]
                exact ⟨rfl, rfl, rfl, (HX.out.2.put hc8 hw8 n hn5 HE.out.2 why _ (by rw [hw'])).drew⟩
        case rest =>
          obtain ⟨rfl, rfl, rfl, hmid⟩ := hcut
          have HXX : wc.cell? ⟨b, off + k * 2 + 1, none⟩ = some (.int .i64 why) := by
            have h2 := (WR.cells (n := 0) (cap := 0) HC.out hmid.bel k hlt).2
            rw [HLK.out] at h2
            exact h2
          have HSTEP := Lib.hid (say_step c q k (by omega) HX.out.1 nd why wc hmid.qc)
          rw [HCB.out] at HSTEP
          have HOK := Lib.hid (HX.out.1.step nd why)
          obtain ⟨hsn, hsc⟩ := step_cp q nd why
          rw [HQ.out.1] at hsn
          rw [HQ.out.2] at hsc
          have HQ' := Lib.hid (And.intro hsn hsc)
          have HM := Lib.hid hmid
          have x1 := HXX
          clear hsn hsc hmid HXX x0 f8 f9
          generalize q.step nd why = q' at *
          have hy0 := HOK.out.y0
          have hy1 := HOK.out.y1
          have hn0 := HOK.out.n0
          have hn1 := HOK.out.n1
          have HY : Hid (∀ W, Qc W c q' → Calls Try.prog 19 #[.pointer (some ⟨c, 0, none⟩)] W fun e w' => e = .returned (.bool (decide (need ≤ q'.yes))) ∧ ∃ n, w' = W.drewN n) := Lib.hid (fun W hW => by
            have := yes_any c q' W hW
            rw [HQ'.out.1] at this
            exact this)
          have HN : Hid (∀ W, Qc W c q' → Calls Try.prog 20 #[.pointer (some ⟨c, 0, none⟩)] W fun e w' => e = .returned (.tuple #[.int .i64 q'.first, .bool (!decide (need ≤ q'.yes) && decide (copies - q'.no < need))]) ∧ ∃ n, w' = W.drewN n) := Lib.hid (fun W hW => by
            have := no_any c q' (by rw [HQ'.out.2]; omega) (by omega) W hW
            unfold Qs.y Qs.z at this
            rw [HQ'.out.1, HQ'.out.2] at this
            have e : (!decide (need ≤ q'.yes) && decide (max copies 0 - q'.no < need)) = (!decide (need ≤ q'.yes) && decide (copies - q'.no < need)) := by
              by_cases h : need ≤ q'.yes
              · simp [h]
              · have h1 : decide (max copies 0 - q'.no < need) = decide (copies - q'.no < need) := by
                  rw [Bool.eq_iff_iff, decide_eq_true_iff, decide_eq_true_iff]
                  omega
                rw [h1]
            rw [e] at this
            exact this)
          have HS := Lib.hid (fun W (hW : Qc W c q') => said_step c q' nd W hW)
          obtain ⟨z, hz⟩ : ∃ z, decide (copies - q'.no < need) = z := ⟨_, rfl⟩
          rw [hz] at HN
          have hr : (nd < 0 ∨ 5 ≤ nd) ∨ ∃ n : Nat, nd = n ∧ n < 5 := by
            by_cases h0 : nd < 0
            · exact .inl (.inl h0)
            · by_cases h5 : 5 ≤ nd
              · exact .inl (.inr h5)
              · exact .inr ⟨nd.toNat, by omega, by omega⟩
          rcases hr with hr | ⟨n, rfl, hn5⟩
          · have hi : inR nd = false := by unfold inR; rw [decide_eq_false (by omega)]
            rw [hi] at HS
            simp only [Bool.false_and] at HS
            clear hi
            rcases hr with hr | hr
            all_goals
              by_cases hY : need ≤ q'.yes
              all_goals
                have hY1 := hY
                first | rw [decide_eq_true hY] at HY HN | rw [decide_eq_false hY] at HY HN
                simp only [Bool.not_true, Bool.not_false, Bool.false_and, Bool.true_and] at HN
                clear hY1
                go_wp2_with fail
                refine (HSTEP.out).mono ?_; rintro e w2 ⟨rfl, hq2, hg2⟩
                have HD := Lib.hid (HM.out.say hc8 (by rw [HCW.out]; exact Nat.le_refl _) hq2 hg2)
                clear hq2 hg2 x1
                go_wp2_with fail
                refine (HY.out _ HD.out.qc).mono ?_; rintro e w3 ⟨rfl, n1, rfl⟩
                go_wp2_with fail
                refine (HN.out _ (HD.out.drawn n1 0).qc).mono ?_; rintro e w4 ⟨rfl, n2, rfl⟩
                go_wp2_with fail
                refine (HS.out _ (HD.out.drawn (n1 + n2) 0).qc).mono ?_; rintro e w5 ⟨rfl, n3, rfl⟩
                go_wp2_with fail
                go_roundg (l.length - (k + 1))
                case measure => have := HG.out; omega
                case rel => exact ⟨q', k + 1, by go_num, by omega, rfl, rfl, rfl, rfl, HOK.out, HQ'.out.1, HQ'.out.2, HD.out.drawn _ 0⟩
          · have hi : inR (n : Int) = true := by unfold inR; rw [decide_eq_true (by omega)]
            rw [hi] at HS
            simp only [Bool.true_and, Int.toNat_natCast] at HS
            clear hi
            by_cases hY : need ≤ q'.yes
            all_goals
              have hY1 := hY
              first | rw [decide_eq_true hY] at HY HN | rw [decide_eq_false hY] at HY HN
              simp only [Bool.not_true, Bool.not_false, Bool.false_and, Bool.true_and] at HN
              clear hY1
              go_wp2_with fail
              refine (HSTEP.out).mono ?_; rintro e w2 ⟨rfl, hq2, hg2⟩
              have HD := Lib.hid (HM.out.say hc8 (by rw [HCW.out]; exact Nat.le_refl _) hq2 hg2)
              have z8 := HD.out.x8.read (arr5_at q'.S n hn5)
              have z9 := HD.out.x9.read (arr5_at q'.O n hn5)
              clear hq2 hg2 x1
              go_wp2_with fail
              refine (HY.out _ HD.out.qc).mono ?_; rintro e w3 ⟨rfl, n1, rfl⟩
              go_wp2_with fail
              refine (HN.out _ (HD.out.drawn n1 0).qc).mono ?_; rintro e w4 ⟨rfl, n2, rfl⟩
              go_wp2_with fail
              refine (HS.out _ (HD.out.drawn (n1 + n2) 0).qc).mono ?_; rintro e w5 ⟨rfl, n3, rfl⟩
              go_wp2_with fail
              go_roundg (l.length - (k + 1))
              case measure => have := HG.out; omega
              case rel => exact ⟨q', k + 1, by go_num, by omega, rfl, rfl, rfl, rfl, HOK.out, HQ'.out.1, HQ'.out.2, HD.out.drawn _ 0⟩
    · obtain rfl : k = l.length := by omega
      have HB := Lib.hid hhd.bel
      clear hhd hok
      go_wp2_with fail
      refine (alive32_any _).mono ?_; rintro e w2 ⟨rfl, rfl⟩
      go_wp2_with fail
      go_ret
      exact ⟨rfl, HB.out⟩
end Go.Proofs.Ytoidloofclalhab
