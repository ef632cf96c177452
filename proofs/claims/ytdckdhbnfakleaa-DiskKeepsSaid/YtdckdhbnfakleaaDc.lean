/- Layer 11 (disk): a disk of one file: Used, Append. -/
import Derived.Test.YtdckdhbnfakleaaDb
import Derived.Test.YtdckdhbnfakleaaKx
import Derived.Deep.RegionHeld3
import Derived.IntWalk
namespace Go.Proofs.Ytdckdhbnfakleaa
open Go.RowKit
open Go.Maps (Keyed)

theorem D1_has_iff (s : ByteArray) (F : Nat) (z : Lit) : Maps.has (D1 s F) z = (Lit.string s.data.toList).sameKey z := by
  simp [D1, Maps.has]
theorem D1_only {s : ByteArray} {F : Nat} {kl : Lit} {y : DataW Unit} (h : ∀ z, (D1 s F).atKey kl z = y) : y = .lit (.int .i64 (F : Int)) ∧ (Lit.string s.data.toList).sameKey kl = true := by
  have e : ∀ z, (D1 s F).atKey kl z = if (Lit.string s.data.toList).sameKey kl = true then .lit (.int .i64 (F : Int)) else z := by
    intro z
    unfold D1 DataW.atKey
    cases hk : (Lit.string s.data.toList).sameKey kl <;> simp [hk]
  cases hk : (Lit.string s.data.toList).sameKey kl with
  | true =>
    have := h .nil
    rw [e, hk] at this
    exact ⟨this.symm, rfl⟩
  | false =>
    have h1 := h .nil
    have h2 := h (.lit (.bool true))
    rw [e, hk] at h1 h2
    rw [← h1] at h2
    cases h2
theorem same_str {s : ByteArray} {kl : Lit} (h : (Lit.string s.data.toList).sameKey kl = true) : kl = .string s.data.toList := by
  cases kl <;> simp [Lit.sameKey] at h
  rw [h]
/-- How far a walk through the one file is: nothing yet, or all. -/
def UPh (left : Lit → Bool) (s : ByteArray) (x : Int) (n : Int) : Prop := (left (.string s.data.toList) = true ∧ (∀ z, left z = true → (Lit.string s.data.toList).sameKey z = true) ∧ n = 0) ∨ ((∀ z, left z = false) ∧ n = x)
set_option maxHeartbeats 2000000 in
theorem used_one (B D M F : Nat) (s : ByteArray) (room : Int) (off : Bool) (ops ahead : Int) (v : Value) (sy : Int) (l : List UInt8) (hl : l.length ≤ 100000) (w : World) (h : DS w B D M F s room off ops ahead v sy) (hv : BS w v l) :
    Calls Try.prog 68 #[.pointer (some ⟨D, 0, none⟩)] w fun e w' => e = .returned (.int .i64 (l.length : Int)) ∧ Below w.heap.size w w' := by
  have hd := h.dk
  unfold Dk at hd
  have c0 := hd.read (i := 0) rfl
  clear hd
  obtain ⟨a, cap, rfl⟩ := hv.form
  have HH := Hid.mk' (And.intro h.mp h.fl)
  have hFw := h.fl.inside
  clear h hv
  go_enter Try.func68, Try.ntmps68
  go_wp2_with (at_range; refine wpList_range_own _ rfl _ 87 rfl 9 90 strLaw Try.underlying87 Rp M 1 (D1 s F) rfl HH.out.1 ?_; intro w0 hrg0 hg0 hs0)
  go_frame
  have START := Hid.mk' (show UPh (Maps.has (D1 s F)) s (l.length : Int) 0 from .inl ⟨by rw [D1_has_iff]; simp [Lit.sameKey], fun z hz => by rw [D1_has_iff] at hz; exact hz, rfl⟩)
  have hbl : Below w.heap.size w w0 := (Below.refl _ _).grown hg0 (Nat.le_refl _) (fun j hj => by cases hj)
  have HB0 := Hid.mk' hbl
  have HS0 := Hid.mk' hs0
  clear hg0 hs0 hbl
  go_loopw [3] (fun nv wr => ∃ (n : Int) (left : Lit → Bool) (cnt : Nat), nv = .int .i64 n ∧ wr.ranges Try.prog 9 Rp M w.heap.size 1 (D1 s F) left cnt ∧ Hid (UPh left s (l.length : Int) n) ∧ Hid (Below w.heap.size w wr)) (fun _ wr => wr.rangeLeft M w.heap.size)
  case atStart => exact ⟨0, _, _, rfl, hrg0, START, HB0⟩
  case round =>
    clear START
    obtain ⟨n, left, cnt, rfl, hrg, HP, HB⟩ := hrel
    clear hrg0
    have HRG := Hid.mk' hrg
    go_wp2_with (at_next; refine wpList_next_ranges _ rfl _ rfl 9 strLaw Rp Value.string mkP (fun key kl hk => by obtain ⟨x, hx, _⟩ := WideMaps.string_of_keyOf Try.underlying9 hk; exact ⟨x, hx⟩) Rp_mk M w.heap.size 1 (D1 s F) _ _ rfl hrg ?_ ?_)
    · intro hc0 hl0
      have HN := Hid.mk' (show n = (l.length : Int) by
        rcases HP.out with ⟨h1, _⟩ | ⟨_, h2⟩
        · rw [hl0] at h1; cases h1
        · exact h2)
      clear hrg hl0 HP
      go_wp2_with fail
      go_ret
      exact ⟨ret_int HN.out, HB.out⟩
    · intro x c kl y yp w2 cnt2 hkey hlk hR hat hrg2 hlt hg2 hs2 hen
      obtain ⟨hy, hsk⟩ := D1_only hat
      have hkl := same_str hsk
      have hc : mkP c = .pointer (some ⟨F, 0, none⟩) := by
        subst hy
        exact Rp_inv hR
      have HP2 := Hid.mk' (show UPh (fun z => left z && !z.sameKey kl) s (l.length : Int) (l.length : Int) ∧ n = 0 by
        rcases HP.out with ⟨h1, h2, h3⟩ | ⟨h1, _⟩
        · refine ⟨.inr ⟨fun z => ?_, rfl⟩, h3⟩
          show (left z && !z.sameKey kl) = false
          cases hz : left z with
          | false => rfl
          | true =>
            have := same_str (h2 z hz)
            rw [this, hkl]; simp [Lit.sameKey]
        · rw [h1] at hlk; cases hlk)
      have hn0 := HP2.out.2
      subst hn0
      have HB2 := Hid.mk' (show Below w.heap.size w w2 from below_gb HB.out hg2 (Nat.le_refl _))
      have hF2 := HH.out.2.next HB2.out
      have f0 := hF2.read (i := 0) rfl
      rw [hc] at hen
      have HRG2 := Hid.mk' (And.intro hrg2 hlt)
      rw [hc]
      have hl2 : (l.length : Int) ≤ 100000 := by omega
      clear hrg hrg2 hlt hlk hat hR hkey hg2 hs2 hF2 hy hsk hkl hc HP HB
      go_wp2_with fail
      go_roundw
      case rel => exact ⟨(l.length : Int), _, cnt2, by simp, HRG2.out.1, Hid.mk' HP2.out.1, HB2⟩
      case measure => rw [HRG2.out.1.left_eq, HRG.out.left_eq]; exact HRG2.out.2
theorem D0_only {kl : Lit} {y : DataW Unit} (h : ∀ z, D0.atKey kl z = y) : False := by
  have h1 := h .nil
  have h2 := h (.lit (.bool true))
  have e : ∀ z, D0.atKey kl z = z := fun z => rfl
  rw [e] at h1 h2
  rw [← h1] at h2
  cases h2
set_option maxHeartbeats 2000000 in
theorem used_none (D M : Nat) (room : Int) (off : Bool) (ops ahead : Int) (w : World) (hd : Dk w D (.map (some M)) room off ops ahead) (hm : w.ownsMap Try.prog 9 Rp M 0 D0) :
    Calls Try.prog 68 #[.pointer (some ⟨D, 0, none⟩)] w fun e w' => e = .returned (.int .i64 0) ∧ Below w.heap.size w w' := by
  unfold Dk at hd
  have c0 := hd.read (i := 0) rfl
  clear hd
  have HH := Hid.mk' hm
  clear hm
  go_enter Try.func68, Try.ntmps68
  go_wp2_with (at_range; refine wpList_range_own _ rfl _ 87 rfl 9 90 strLaw Try.underlying87 Rp M 0 D0 rfl HH.out ?_; intro w0 hrg0 hg0 hs0)
  go_frame
  have HB0 := Hid.mk' ((Below.refl _ _).grown hg0 (Nat.le_refl _) (fun j hj => by cases hj) : Below w.heap.size w w0)
  clear hg0 hs0
  go_loopw [3] (fun nv wr => ∃ (left : Lit → Bool) (cnt : Nat), nv = .int .i64 0 ∧ wr.ranges Try.prog 9 Rp M w.heap.size 0 D0 left cnt ∧ Hid (Below w.heap.size w wr)) (fun _ wr => wr.rangeLeft M w.heap.size)
  case atStart => exact ⟨_, _, rfl, hrg0, HB0⟩
  case round =>
    obtain ⟨left, cnt, rfl, hrg, HB⟩ := hrel
    clear hrg0
    go_wp2_with (at_next; refine wpList_next_ranges _ rfl _ rfl 9 strLaw Rp Value.string mkP (fun key kl hk => by obtain ⟨x, hx, _⟩ := WideMaps.string_of_keyOf Try.underlying9 hk; exact ⟨x, hx⟩) Rp_mk M w.heap.size 0 D0 _ _ rfl hrg ?_ ?_)
    · intro hc0 hl0
      clear hrg hl0
      go_wp2_with fail
      go_ret
      exact ⟨rfl, HB.out⟩
    · intro x c kl y yp w2 cnt2 hkey hlk hR hat hrg2 hlt hg2 hs2 hen
      exact (D0_only hat).elim
theorem BS.keptMap {w w' : World} {v : Value} {l : List UInt8} {M n : Nat} {Dt : DataW Unit} (h : BS w v l) (hm : w.ownsMap Try.prog 9 Rp M n Dt) (hg : w.grownBy w' (some M)) : BS w' v l := by
  obtain ⟨a, cap, hv, hl, hn, hr⟩ := h
  refine ⟨a, cap, hv, hl, hn, fun h0 => ?_⟩
  obtain ⟨b, off, ha, hc⟩ := hr h0
  refine ⟨b, off, ha, fun i hi => hg.cell (hc i hi) ?_⟩
  intro e
  have hb := hc i hi
  simp at e
  obtain ⟨es, clock, hh, _⟩ := hm
  rw [← e] at hh
  simp [World.cell?, hh] at hb
/-- What Append leaves. -/
def AppPost (B D M : Nat) (s : ByteArray) (room ops ahead sy : Int) (l : List UInt8) (w : World) (e : Ending) (w' : World) : Prop :=
  e = .returned (.int .i64 (opS ahead).1) ∧ ∃ F v, DS w' B D M F s room (opS ahead).2.1 (ops + 1) (opS ahead).2.2 v sy ∧ BO w' B v l ∧ Below B w w'
set_option maxRecDepth 100000 in
set_option maxHeartbeats 4000000 in
theorem append_first (B D M : Nat) (s : ByteArray) (hk : keyB s = true) (hs : s.size ≤ 24) (room ops ahead : Int) (h1 : -1 ≤ ahead) (h2 : ahead ≤ 9223372036854775807) (ho : 0 ≤ ops) (ho2 : ops ≤ 1000) (vb : Value) (l : List UInt8) (hl : l.length ≤ 10000) (hroom : (l.length : Int) ≤ room) (hr2 : room ≤ 1000000)
    (w : World) (hd : Dk w D (.map (some M)) room false ops ahead) (hm : w.ownsMap Try.prog 9 Rp M 0 D0) (hB : B ≤ w.heap.size) (hbd : B ≤ D) (hbm : B ≤ M) (hb : BS w vb l) :
    Calls Try.prog 42 #[.pointer (some ⟨D, 0, none⟩), .string s, vb] w (AppPost B D M s room ops ahead 0 l w) := by
  have hsm : s.size ≤ maxLen := by unfold maxLen; omega
  have HSM := Hid.mk' hsm
  have CK := Hid.mk' (key_any s hsm w)
  rw [hk] at CK
  have hlk := lookok0 hm hsm
  obtain ⟨ab, cb, rfl⟩ := hb.form
  have HH := Hid.mk' (And.intro hd (And.intro hm hb))
  have HB := Hid.mk' (And.intro hB (And.intro hbd hbm))
  have hop := (fun W hW => operate_any D (.map (some M)) room ops ahead h1 h2 ho ho2 W hW)
  unfold AppPost
  generalize opS ahead = x at *
  obtain ⟨x1, x2, x3⟩ := x
  dsimp only at *
  have HO := Hid.mk' hop
  clear hop
  unfold Dk at hd
  obtain ⟨c0, c1, c2, c3, c4⟩ := hd.reads5
  clear hd hm hb hB hbd hbm hsm hk h1 h2 ho ho2
  go_enter Try.func42, Try.ntmps42
  go_wp2_with fail
  refine CK.out.mono ?_; rintro e w1 ⟨rfl, hb1⟩
  have hd1 := HH.out.1.next hb1
  have hm1 : w1.ownsMap Try.prog 9 Rp M 0 D0 := HH.out.2.1.kept (row := none) (gb_below hb1 none) (by simp)
  have hbs1 := HH.out.2.2.next hb1
  have H1 := Hid.mk' (And.intro hd1 (And.intro hm1 (And.intro hbs1 hb1)))
  obtain ⟨d0, d1, d2, d3, d4⟩ := hd1.reads5
  have CU := Hid.mk' (fun (W : World) (hW : Hid (Below w1.heap.size w1 W)) => (used_none D M room false ops ahead W (H1.out.1.next hW.out) (H1.out.2.1.kept (row := none) (gb_below hW.out none) (by simp))).mono (R' := fun e w' => e = .returned (.int .i64 0) ∧ w'.cell? ⟨D, 0, none⟩ = some (.map (some M)) ∧ w'.cell? ⟨D, 1, none⟩ = some (.int .i64 room) ∧ (Builtin.len_ #[87] 3 #[.map (some M)]).run Try.prog w' = .ok (.int .i64 0) w' ∧ Hid (Below w1.heap.size w1 w')) (fun e w' ⟨a, b⟩ => by
      have hb2 := bnext hW.out b
      have hd2 := H1.out.1.next hb2
      obtain ⟨e0, e1, e2, e3, e4⟩ := hd2.reads5
      have hm2 : w'.ownsMap Try.prog 9 Rp M 0 D0 := H1.out.2.1.kept (row := none) (gb_below hb2 none) (by simp)
      exact ⟨a, e0, e1, hm2.len Try.underlying87 _, Hid.mk' hb2⟩))
  have hlen1 : (Builtin.len_ #[87] 3 #[.map (some M)]).run Try.prog w1.drew = .ok (.int .i64 0) w1.drew := (World.ownsMap.drew hm1).len Try.underlying87 _
  have hbel1 := Hid.mk' ((Below.refl w1.heap.size w1).drew)
  have hrm : IntKind.i64.wrap room = room := IntWalk.i64_in _ (by omega)
  have hl0 : (0 : Int) ≤ (l.length : Int) := by omega
  clear hd1 hm1 hbs1 hb1 hlk c0 c1 c2 c3 c4 CK
  go_wp2_with fail
  go_region_held3 (fun W => W.cell? ⟨D, 0, none⟩ = some (.map (some M)) ∧ W.cell? ⟨D, 1, none⟩ = some (.int .i64 room) ∧ (Builtin.len_ #[87] 3 #[.map (some M)]).run Try.prog W = .ok (.int .i64 0) W ∧ Hid (Below w1.heap.size w1 W))
    (first | assumption | exact ⟨d0, d1, hlen1, hbel1⟩ | (refine ⟨?_, ?_, ?_, ?_⟩ <;> assumption))
    ((first | (go_at_call 68; refine (CU.out _ (by assumption)).mono ?_; rintro e w6 ⟨rfl, k0, k1, k2, k3⟩)))
  all_goals
    have hb6 := k3.out
    have hd6 := H1.out.1.next hb6
    have hm6 : w6.ownsMap Try.prog 9 Rp M 0 D0 := H1.out.2.1.kept (row := none) (gb_below hb6 none) (by simp)
    have hbs6 := H1.out.2.2.1.next hb6
    have hfl6 := Bx.fresh w6 94 #[.slice none 0 0, .int .i64 0]
    have hdp6 := hd6.past (.cells #[.slice none 0 0, .int .i64 0] 94)
    have HM6 := Hid.mk' (hm6.alloc (.cells #[.slice none 0 0, .int .i64 0] 94))
    have hbA : Below B w (w6.alloc (.cells #[.slice none 0 0, .int .i64 0] 94)) := (((Below.refl B w).trans (H1.out.2.2.2.mono HB.out.1)).trans (hb6.mono (Nat.le_trans HB.out.1 H1.out.2.2.2.size))).alloc (Nat.le_trans HB.out.1 (Nat.le_trans H1.out.2.2.2.size hb6.size)) _
    have hbsA : BS (w6.alloc (.cells #[.slice none 0 0, .int .i64 0] 94)) (.slice ab l.length cb) l := hbs6.next ((Below.refl _ w6).alloc (Nat.le_refl _) _)
    have hF : B ≤ w6.heap.size := Nat.le_trans HB.out.1 (Nat.le_trans H1.out.2.2.2.size hb6.size)
    have H6 := Hid.mk' (And.intro hdp6 (And.intro hfl6 (And.intro hbsA (And.intro hbA hF))))
    have hMs := hm6.lt
    have hDs := hd6.inside
    have HMs := Hid.mk' hMs
    clear hb6 hd6 hm6 hbs6 hfl6 hdp6 hbA hF hbsA k1 k2 k3 hMs hlen1 hbel1 d0 d1 d2 d3 d4
    go_wp2_with (at_mapUpdate; refine wpList_mapUpdate_own _ rfl _ _ _ 87 rfl 9 90 strLaw Try.underlying87 Rp M 0 D0 rfl HM6.out (by unfold maxLen; omega) _ _ _ rfl rfl (WideMaps.keyOf_string_mk Try.underlying9 HSM.out) _ [] (Rp_some _) ?_)
    intro w7 hm7 hg7
    rw [D0_put] at hm7
    have hneD : M ≠ D := bx_nemap H1.out.1 H1.out.2.1
    have hneF : M ≠ w6.heap.size := by have := HMs.out; omega
    have hd7 := H6.out.1.grown hg7 (fun e => hneD (by simpa using e))
    have hf7 := H6.out.2.1.grown hg7 (fun e => hneF (by simpa using e))
    have hbs7 := H6.out.2.2.1.keptMap HM6.out hg7
    have hb7 : Below B w w7 := H6.out.2.2.2.1.grown hg7 (Nat.le_trans HB.out.1 H6.out.2.2.2.1.size) (fun j hj => by cases hj; exact HB.out.2.2)
    have hs7 := hg7.size
    have H7 := Hid.mk' (And.intro hd7 (And.intro hf7 (And.intro hm7 (And.intro hb7 H6.out.2.2.2.2))))
    obtain ⟨g0, g1⟩ := And.intro (hf7.read (i := 0) rfl) (hf7.read (i := 1) rfl)
    have g2 := hf7.open_ 0
    have hB7 : B ≤ w7.heap.size := Nat.le_trans HB.out.1 hb7.size
    have HBS := Hid.mk' (And.intro hbs7 hB7)
    clear hd7 hf7 hm7 hb7 hg7 hbs7 hneD hneF HM6 H6 hB7 k0
    generalize w6.heap.size = F at *
    go_wp2_with (at_builtin; refine wpList_append_bs rfl (.tmp 64) (.tmp 65) rfl B _ _ [] l rfl rfl (BO.nil _ _) HBS.out.1 (by simp; omega) HBS.out.2 ?_)
    intro v8 w8 ho8 hg8
    try rw [List.nil_append] at ho8
    obtain ⟨a8, c8, hv8⟩ := ho8.bs.form
    subst hv8
    have hb8 : Below B w w8 := H7.out.2.2.2.1.grown hg8 (Nat.le_trans HB.out.1 H7.out.2.2.2.1.size) (fun j hj => by cases hj)
    have hds8 : DS w8 B D M F s room false ops ahead (.slice none 0 0) 0 := ⟨H7.out.1.grown hg8 (by simp [Value.ownBlock]), H7.out.2.2.1.kept hg8 (by simp [Value.ownBlock]), H7.out.2.1.grown hg8 (by simp [Value.ownBlock]), HB.out.2.1, HB.out.2.2, H7.out.2.2.2.2⟩
    obtain ⟨e0, e1⟩ := And.intro (hds8.fl.read (i := 0) rfl) (hds8.fl.read (i := 1) rfl)
    have e2 := hds8.fl.open_ 0
    have hds9 := hds8.flset (v' := .slice a8 l.length c8) (sy' := 0) 0 (.slice a8 l.length c8) rfl
    have ho9 : BO (w8.setCell ⟨F, 0, none⟩ (.slice a8 l.length c8)) B (.slice a8 l.length c8) l := World.ownsRow.kept ho8 (gb_set _ _ _ _) (bx_row hds8.fl ho8 (by decide))
    have hb9 := bgB HB.out.1 hb8 (gb_set w8 F 0 (.slice a8 l.length c8)) H7.out.2.2.2.2
    have CO := Hid.mk' (HO.out _ hds9.dk)
    have H9 := Hid.mk' (And.intro hds9 (And.intro ho9 hb9))
    clear hds8 hds9 ho9 hb9 hb8 ho8 hg8 g0 g1 g2 H7 HBS HO CU H1 HH HSM
    go_wp2_with fail
    refine CO.out.mono ?_; rintro e w10 ⟨rfl, hd10, hg10⟩
    have H10 := Hid.mk' (show DS w10 B D M F s room x2 (ops + 1) x3 (.slice a8 l.length c8) 0 ∧ BO w10 B (.slice a8 l.length c8) l ∧ Below B w w10 from ⟨H9.out.1.dkset hd10 hg10, H9.out.1.rowset H9.out.2.1 hg10, bgB HB.out.1 H9.out.2.2 hg10 HB.out.2.1⟩)
    clear hd10 hg10 H9
    go_wp2_with fail
    go_ret
    exact ⟨rfl, F, _, H10.out⟩
end Go.Proofs.Ytdckdhbnfakleaa
