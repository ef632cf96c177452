/- Layer 11 (disk): a disk of one file: Up. -/
import Derived.Test.YtdckdhbnfakleaaDd
import Derived.BigRegion
import Derived.Deep.QuietTactic
import Derived.BigQuiet
namespace Go.Proofs.Ytdckdhbnfakleaa
open Go.RowKit
open Go.Maps (Keyed)

/-- The first bytes of what reads as bytes. -/
theorem cut_to {w : World} {v : Value} {l : List UInt8} (h : BS w v l) (j : Nat) (hj : j ≤ l.length) :
    ∃ a cap, (∀ w', (Instr.slice 60 v none (some (.int .i64 (j : Int))) none).run Try.prog w' = .ok (.slice a j cap) w') ∧ BS w (.slice a j cap) (l.take j) := by
  obtain ⟨v', h1, h2⟩ := cut_run h 0 j (Nat.zero_le _) hj
  rw [List.drop_zero, Nat.sub_zero] at h2
  obtain ⟨a', cap', hv⟩ := h2.form
  subst hv
  have hlen : (l.take j).length = j := by simp; omega
  rw [hlen] at h1 h2
  refine ⟨a', cap', fun w' => ?_, h2⟩
  rw [← h1 w']
  obtain ⟨a, cap, rfl, hle, hn, hc⟩ := h
  have hu : Try.prog.underlying 60 = some (.slice (Try.prog.elem 60)) := by kernel_rfl
  rw [run_slice_lh w' _ a l.length cap hu .i64 .i64 ((0 : Nat) : Int) (j : Int) (by omega) (by omega) (by omega), run_slice_h w' _ a l.length cap hu .i64 (j : Int) (by omega) (by omega)]
  simp
theorem bx_neit {w : World} {a r M n : Nat} {t : TypeId} {cs : Array Value} {Dt : DataW Unit} {left : Lit → Bool} {cnt : Nat} (h : Bx w a t cs) (h' : w.ranges Try.prog 9 Rp M r n Dt left cnt) : r ≠ a := by
  intro e
  subst e
  obtain ⟨es, clock, since, seen, c0, _, _, _, _, hr, _⟩ := h'
  unfold Bx at h
  rw [h] at hr
  cases hr
theorem row_neit {w : World} {r M n k B sz : Nat} {Dt : DataW Unit} {left : Lit → Bool} {cnt : Nat} {t : TypeId} {v : Value} {xs : List Value} (h' : w.ranges Try.prog 9 Rp M r n Dt left cnt) (h : w.ownsRow B t sz v k xs) : v.ownBlock ≠ some r := by
  rcases h.2 with ⟨rfl, _⟩ | ⟨g, cap, cur, rfl, _, hg, _⟩
  · simp [Value.ownBlock]
  · intro e
    simp [Value.ownBlock] at e
    subst e
    obtain ⟨es, clock, since, seen, c0, _, _, _, _, hr, _⟩ := h'
    rw [hg] at hr
    cases hr
theorem BS.apart {w : World} {v : Value} {l : List UInt8} {g i : Nat} {t : TypeId} {cs : Array Value} (h : BS w v l) (hb : Bx w g t cs) (hcs : ∀ u ∈ cs.toList, ∀ n, u ≠ .int .u8 n) (x : Value) : BS (w.setCell ⟨g, i, none⟩ x) v l := by
  obtain ⟨a, cap, hv, hl, hn, hr⟩ := h
  refine ⟨a, cap, hv, hl, hn, fun h0 => ?_⟩
  obtain ⟨b, off, ha, hc⟩ := hr h0
  refine ⟨b, off, ha, fun k hk => (gb_set w g i x).cell (hc k hk) ?_⟩
  intro e
  have h1 := hc k hk
  simp at e
  subst e
  rw [cell_of_row w b (off + k) cs t (0, 0) hb] at h1
  exact hcs _ (List.mem_of_getElem? (by rw [Array.getElem?_toList]; exact h1)) _ rfl
theorem DS.drawn {w : World} {B D M F : Nat} {s : ByteArray} {room : Int} {off : Bool} {ops ahead : Int} {v : Value} {sy : Int} (h : DS w B D M F s room off ops ahead v sy) (n : Nat) : DS (w.drewN n) B D M F s room off ops ahead v sy := ⟨h.dk, h.mp, h.fl, h.bd, h.bm, h.bf⟩
/-- How much is synced behind Up. -/
def upN (len sy keep : Int) : Int := sy + (max keep 0) % (len - sy + 1)
theorem upN_bd (len sy keep : Int) (h1 : 1 ≤ sy) (h2 : sy ≤ len) : sy ≤ upN len sy keep ∧ upN len sy keep ≤ len := by
  have h3 := Int.emod_nonneg (max keep 0) (show len - sy + 1 ≠ 0 by omega)
  have h4 := Int.emod_lt_of_pos (max keep 0) (show 0 < len - sy + 1 by omega)
  unfold upN; omega
/-- How far the walk through the one file is. -/
def UpI (B D M F : Nat) (s : ByteArray) (room ops ahead : Int) (v : Value) (sy : Int) (l : List UInt8) (N : Int) (w : World) (left : Lit → Bool) (wr : World) : Prop :=
  Below B w wr ∧ ((left (.string s.data.toList) = true ∧ (∀ z, left z = true → (Lit.string s.data.toList).sameKey z = true) ∧ DS wr B D M F s room false ops ahead v sy ∧ BO wr B v l) ∨
    ((∀ z, left z = false) ∧ ∃ v', DS wr B D M F s room false ops ahead v' N ∧ BS wr v' (l.take N.toNat)))
/-- What Up leaves. -/
def UpPost (B D M F : Nat) (s : ByteArray) (room ops ahead : Int) (l : List UInt8) (N : Int) (w : World) (e : Ending) (w' : World) : Prop :=
  e = .returned (.tuple #[]) ∧ ∃ v', DS w' B D M F s room false ops ahead v' N ∧ BS w' v' (l.take N.toNat) ∧ Below B w w'
set_option maxRecDepth 100000 in
set_option maxHeartbeats 8000000 in
theorem up_on (B D M F : Nat) (s : ByteArray) (room ops ahead : Int) (v : Value) (sy : Int) (l : List UInt8) (keep : Int) (hk : keep ≤ 9223372036854775807) (h1 : 1 ≤ sy) (h2 : sy ≤ (l.length : Int)) (hl : l.length ≤ 20000) (w : World) (h : DS w B D M F s room true ops ahead v sy) (hv : BO w B v l) (hB : B ≤ w.heap.size) :
    Calls Try.prog 46 #[.pointer (some ⟨D, 0, none⟩), .int .i64 keep] w (UpPost B D M F s room ops ahead l (upN l.length sy keep) w) := by
  obtain ⟨K, hK⟩ : ∃ K, max keep 0 = K := ⟨_, rfl⟩
  have hbd := upN_bd l.length sy keep h1 h2
  have hup : upN l.length sy keep = sy + K % ((l.length : Int) - sy + 1) := by unfold upN; rw [hK]
  have hK0 : 0 ≤ K := by omega
  have hK1 : K ≤ 9223372036854775807 := by omega
  obtain ⟨R, hR⟩ : ∃ R, K % ((l.length : Int) - sy + 1) = R := ⟨_, rfl⟩
  have hR0 : 0 ≤ R := by rw [← hR]; exact Int.emod_nonneg _ (by omega)
  obtain ⟨N, hN⟩ : ∃ N : Nat, upN l.length sy keep = (N : Int) := ⟨(upN l.length sy keep).toNat, by omega⟩
  rw [hN] at hbd hup ⊢
  have HUP := Hid.mk' (show sy + R = (N : Int) by rw [← hR]; exact hup.symm)
  obtain ⟨a, cap, rfl⟩ := hv.bs.form
  have hd := h.dk
  have hdp : Dk (w.setCell ⟨D, 2, none⟩ (.bool false)) D (.map (some M)) room false ops ahead := hd.put 2 (.bool false)
  have hds1 := h.dkset hdp (gb_set w D 2 (.bool false))
  have hrow1 := h.rowset hv (gb_set w D 2 (.bool false))
  have hbw1 := bgB hB (Below.refl B w) (gb_set w D 2 (.bool false)) h.bd
  have HW := Hid.mk' (And.intro hds1 (And.intro hrow1 (And.intro hbw1 hB)))
  unfold Dk at hd
  obtain ⟨c0, c1, c2, c3, c4⟩ := hd.reads5
  obtain ⟨f0, f1, f2, f3, f4⟩ := hd.opens5
  have HM := Hid.mk' hds1.mp
  clear hd hdp hds1 hrow1 hbw1 h hv hB hN hup
  go_enter Try.func46, Try.ntmps46
  go_wp2_with (at_range; refine wpList_range_own _ rfl _ 87 rfl 9 90 strLaw Try.underlying87 Rp M 1 (D1 s F) rfl HM.out ?_; intro w0 hrg0 hg0 hs0)
  go_frame
  obtain ⟨ri, hri⟩ : ∃ r, r = (w.setCell ⟨D, 2, none⟩ (.bool false)).heap.size := ⟨_, rfl⟩
  rw [← hri] at hrg0 ⊢
  have hB1 : B ≤ ri := by rw [hri]; exact Nat.le_trans HW.out.2.2.2 HW.out.2.2.1.size
  have hbl : Below (w.setCell ⟨D, 2, none⟩ (.bool false)).heap.size (w.setCell ⟨D, 2, none⟩ (.bool false)) w0 := (Below.refl _ _).grown hg0 (Nat.le_refl _) (fun j hj => by cases hj)
  have START := Hid.mk' (show UpI B D M F s room ops ahead (.slice a l.length cap) sy l N w (Maps.has (D1 s F)) w0 from
    ⟨HW.out.2.2.1.trans (hbl.mono (by rw [← hri]; exact hB1)), .inl ⟨by rw [D1_has_iff]; simp [Lit.sameKey], fun z hz => by rw [D1_has_iff] at hz; exact hz, HW.out.1.next hbl, HW.out.2.1.next hbl⟩⟩)
  have HRI := Hid.mk' (And.intro hri hB1)
  clear hri hB1 hbl hg0 hs0 c0 c1 c2 c3 c4 f0 f1 f2 f3 f4
  go_loopw [] (fun wr => ∃ (left : Lit → Bool) (cnt : Nat), wr.ranges Try.prog 9 Rp M ri 1 (D1 s F) left cnt ∧ Hid (UpI B D M F s room ops ahead (.slice a l.length cap) sy l N w left wr)) (fun wr => wr.rangeLeft M ri)
  case atStart => exact ⟨_, _, hrg0, START⟩
  case round =>
    clear START
    obtain ⟨left, cnt, hrg, HP⟩ := hrel
    clear hrg0
    have HRG := Hid.mk' hrg
    go_wp2_with (at_next; refine wpList_next_ranges _ rfl _ rfl 9 strLaw Rp Value.string mkP (fun key kl hk => by obtain ⟨x, hx, _⟩ := WideMaps.string_of_keyOf Try.underlying9 hk; exact ⟨x, hx⟩) Rp_mk M ri 1 (D1 s F) _ _ rfl hrg ?_ ?_)
    · intro hc0 hl0
      have HN := Hid.mk' (show ∃ v', DS wr B D M F s room false ops ahead v' N ∧ BS wr v' (l.take (N : Int).toNat) ∧ Below B w wr by
        obtain ⟨hb, h3⟩ := HP.out
        rcases h3 with ⟨h1, _⟩ | ⟨_, v', h4, h5⟩
        · rw [hl0] at h1; cases h1
        · exact ⟨v', h4, h5, hb⟩)
      clear hrg hl0 HP
      go_wp2_with fail
      go_end0
      exact ⟨rfl, HN.out⟩
    · intro x c kl y yp w2 cnt2 hkey hlk hR2 hat hrg2 hlt hg2 hs2 hen
      obtain ⟨hy, hsk⟩ := D1_only hat
      have hkl := same_str hsk
      have hc : mkP c = .pointer (some ⟨F, 0, none⟩) := by
        subst hy
        exact Rp_inv hR2
      have hP2 : DS wr B D M F s room false ops ahead (.slice a l.length cap) sy ∧ BO wr B (.slice a l.length cap) l ∧ Below B w wr ∧ (∀ z, (left z && !z.sameKey kl) = false) := by
        obtain ⟨hb, h3⟩ := HP.out
        rcases h3 with ⟨h1, h2, h4, h5⟩ | ⟨h1, _⟩
        · refine ⟨h4, h5, hb, fun z => ?_⟩
          cases hz : left z with
          | false => rfl
          | true =>
            have := same_str (h2 z hz)
            rw [this, hkl]; simp [Lit.sameKey]
        · rw [h1] at hlk; cases hlk
      obtain ⟨hds, hbo, hbw, hleft⟩ := hP2
      have hds2 : DS w2 B D M F s room false ops ahead (.slice a l.length cap) sy := ⟨hds.dk.grown hg2 (fun e => bx_neit hds.dk HRG.out (by simpa using e)), hrg2.owns, hds.fl.grown hg2 (fun e => bx_neit hds.fl HRG.out (by simpa using e)), hds.bd, hds.bm, hds.bf⟩
      have hbo2 : BO w2 B (.slice a l.length cap) l := World.ownsRow.kept hbo hg2 (.inr (row_neit HRG.out hbo))
      have hbw2 : Below B w w2 := bgB HW.out.2.2.2 hbw hg2 HRI.out.2
      obtain ⟨g0, g1⟩ := And.intro (hds2.fl.read (i := 0) rfl) (hds2.fl.read (i := 1) rfl)
      obtain ⟨g2, g3⟩ := And.intro (hds2.fl.open_ 0) (hds2.fl.open_ 1)
      have hFM : F ≠ M := fun e => bx_nemap hds2.fl hds2.mp e.symm
      have hFr : F ≠ ri := fun e => bx_neit hds2.fl hrg2 e.symm
      obtain ⟨a9, cap9, hcut, hbs9⟩ := cut_to hbo2.bs N (by omega)
      rw [hc] at hen
      rw [hc]
      have hw5 : IntKind.i64.wrap ((l.length : Int) - sy) = (l.length : Int) - sy := IntWalk.i64_in _ (by omega)
      have hw6 : IntKind.i64.wrap ((l.length : Int) - sy + 1) = (l.length : Int) - sy + 1 := IntWalk.i64_in _ (by omega)
      have hT0 : ((l.length : Int) - sy + 1 == 0) = false := by simp; omega
      have hT1 : ¬ ((l.length : Int) - sy + 1 = 0) := by omega
      have htm : K.tmod ((l.length : Int) - sy + 1) = R := by rw [Int.tmod_eq_emod_of_nonneg hK0]; exact hR
      have hw7 : IntKind.i64.wrap R = R := IntWalk.i64_in _ (by have := HUP.out; omega)
      have hw8 : IntKind.i64.wrap (sy + R) = (N : Int) := by rw [HUP.out]; exact IntWalk.i64_in _ (by omega)
      have hN0 : ((N : Int) == 0) = false := by simp; omega
      have H2 := Hid.mk' (And.intro hds2 (And.intro hbo2 (And.intro hbw2 (And.intro hbs9 hleft))))
      have HRG2 := Hid.mk' (And.intro hrg2 hlt)
      clear hrg hrg2 hlt hlk hat hR2 hkey hg2 hs2 hy hsk hkl hc HP hds2 hbo2 hbw2 hbs9 hleft hds hbo hbw HUP hR
      go_wp2_with fail
      go_quiet (fail)
      go_wp2_with fail
      go_region
      have hds3 := (H2.out.1.drawn (nq + 1)).flset (v' := .slice a l.length cap) (sy' := (N : Int)) 1 (.int .i64 (N : Int)) rfl
      have hb3 : Below B w ((w2.drewN (nq + 1)).setCell ⟨F, 1, none⟩ (.int .i64 (N : Int))) := bgB HW.out.2.2.2 (H2.out.2.2.1.grown (row := none) (gb_drawn w2 (nq + 1) none) (Nat.le_trans HW.out.2.2.2 H2.out.2.2.1.size) (fun j hj => by cases hj)) (gb_set (w2.drewN (nq + 1)) F 1 (.int .i64 (N : Int))) H2.out.1.bf
      have hrg3 : ((w2.drewN (nq + 1)).setCell ⟨F, 1, none⟩ (.int .i64 (N : Int))).ranges Try.prog 9 Rp M ri 1 (D1 s F) (fun z => left z && !z.sameKey kl) cnt2 := World.ranges.kept (w := w2.drewN (nq + 1)) HRG2.out.1 (gb_set _ F 1 _) (by simp; exact fun e => hFM e.symm) (by simp; exact fun e => hFr e.symm)
      have hbs3 : BS ((w2.drewN (nq + 1)).setCell ⟨F, 1, none⟩ (.int .i64 (N : Int))) (.slice a9 N cap9) (l.take N) := by
        have hbo3 : BO ((w2.drewN (nq + 1)).setCell ⟨F, 1, none⟩ (.int .i64 (N : Int))) B (.slice a l.length cap) l := World.ownsRow.kept (w := w2.drewN (nq + 1)) H2.out.2.1 (gb_set _ _ _ _) (bx_row (w := w2.drewN (nq + 1)) H2.out.1.fl H2.out.2.1 (by decide))
        obtain ⟨a8, cap8, hcut8, hbs8⟩ := cut_to hbo3.bs N (by omega)
        have e := (hcut w2).symm.trans (hcut8 w2)
        simp at e
        rw [e.1, e.2]
        exact hbs8
      have H3 := Hid.mk' (And.intro hds3 (And.intro hb3 (And.intro hrg3 hbs3)))
      obtain ⟨p0, p1⟩ := And.intro (hds3.fl.read (i := 0) rfl) (hds3.fl.read (i := 1) rfl)
      obtain ⟨p2, p3⟩ := And.intro (hds3.fl.open_ 0) (hds3.fl.open_ 1)
      clear hds3 hb3 hrg3 hbs3 g0 g1 g2 g3
      generalize (w2.drewN (nq + 1)).setCell ⟨F, 1, none⟩ (.int .i64 (N : Int)) = W3 at *
      go_wp2_with fail
      go_region
      have hds4 := (H3.out.1.flset (v' := .slice a9 N cap9) (sy' := (N : Int)) 0 (.slice a9 N cap9) rfl).drawn 1
      have hbs4 : BS ((W3.setCell ⟨F, 0, none⟩ (.slice a9 N cap9)).drewN 1) (.slice a9 N cap9) (l.take N) := H3.out.2.2.2.apart H3.out.1.fl (by intro u hu n; simp at hu; rcases hu with rfl | rfl <;> simp) _
      have hb4 : Below B w ((W3.setCell ⟨F, 0, none⟩ (.slice a9 N cap9)).drewN 1) := (bgB HW.out.2.2.2 H3.out.2.1 (gb_set W3 F 0 (.slice a9 N cap9)) H3.out.1.bf).drew
      have hrg5 : (W3.setCell ⟨F, 0, none⟩ (.slice a9 N cap9)).ranges Try.prog 9 Rp M ri 1 (D1 s F) (fun z => left z && !z.sameKey kl) cnt2 := H3.out.2.2.1.kept (gb_set W3 F 0 (.slice a9 N cap9)) (by simp; exact fun e => hFM e.symm) (by simp; exact fun e => hFr e.symm)
      have hrg4 : ((W3.setCell ⟨F, 0, none⟩ (.slice a9 N cap9)).drewN 1).ranges Try.prog 9 Rp M ri 1 (D1 s F) (fun z => left z && !z.sameKey kl) cnt2 := hrg5
      clear hrg5
      have HE := Hid.mk' (show UpI B D M F s room ops ahead (.slice a l.length cap) sy l N w (fun z => left z && !z.sameKey kl) ((W3.setCell ⟨F, 0, none⟩ (.slice a9 N cap9)).drewN 1) from ⟨hb4, .inr ⟨H2.out.2.2.2.2, _, hds4, hbs4⟩⟩)
      have HRG4 := Hid.mk' hrg4
      obtain ⟨q0, q1⟩ := And.intro (hds4.fl.read (i := 0) rfl) (hds4.fl.read (i := 1) rfl)
      clear hds4 hbs4 hb4 hrg4 p0 p1 p2 p3
      obtain ⟨W4, hW4⟩ : ∃ W4, (W3.setCell ⟨F, 0, none⟩ (.slice a9 N cap9)).drewN 1 = W4 := ⟨_, rfl⟩
      rw [hW4] at HE HRG4 q0 q1
      change Exit.then _ _ _ _ ((W3.setCell ⟨F, 0, none⟩ (.slice a9 N cap9)).drewN 1)
      rw [hW4]
      clear hW4
      go_wp2_with fail
      go_roundw
      case rel => exact ⟨_, cnt2, HRG4.out, HE⟩
      case measure => rw [HRG4.out.left_eq, HRG.out.left_eq]; exact HRG2.out.2
end Go.Proofs.Ytdckdhbnfakleaa
