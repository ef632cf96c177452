/- Layers 8, 13: the laws' Great of rows; how a tree's mutations stand. -/
import Derived.Test.YtljhnkcoknikgaaX9
import Derived.Test.YtljhnkcoknikgaaXf
namespace Go.Proofs.Ytljhnkcoknikgaa
open Go.RowKit

/-- Is a mutation too great to be asked? -/
def g8 (p : MP) : Bool := decide (200 < p.1.key.size) || decide (200 < p.1.en.size) || decide (200 < p.1.val.size) || decide (50 < p.1.over.length)
set_option maxRecDepth 100000 in
set_option maxHeartbeats 4000000 in
theorem great8_any (v : Value) (L : List MP) (most : Nat) (hm : L.length ≤ most) (hn : most ≤ 10000) (w : World) (h : MI w v L) (ho : ∀ p ∈ L, SI w p.2 p.1.over) :
    Calls Try.prog 28 #[v, .int .i64 most] w fun e w' => e = .returned (.bool (L.any g8)) ∧ w' = w := by
  obtain ⟨a1, c1, rfl⟩ := h.form
  have H := Lib.hid (And.intro h ho)
  clear h ho
  have hi0 : ¬ (most : Int) < (L.length : Int) := by omega
  go_enter Try.func28, Try.ntmps28
  go_wp2_with fail
  go_loopw [5] (fun i wr => ∃ k : Nat, i = .int .i64 k ∧ k ≤ L.length ∧ wr = w ∧ Hid ((L.take k).any g8 = false)) (fun i _ => L.length - (intOf i).toNat)
  case atStart => exact ⟨0, rfl, by omega, rfl, Lib.hid rfl⟩
  case round =>
    obtain ⟨k, rfl, hk, rfl, HF⟩ := hrel
    by_cases hlt : k < L.length
    · have hi1 : (k : Int) < (L.length : Int) := by omega
      obtain ⟨b, off, rfl, hc⟩ := H.out.1.at' k hlt
      have HO := Lib.hid (H.out.2 L[k] (List.getElem_mem hlt))
      have HT := Lib.hid (fun (e : g8 L[k] = true) => (show true = L.any g8 from (List.any_eq_true.2 ⟨L[k], List.getElem_mem hlt, e⟩).symm))
      have HN := Lib.hid (fun (e : g8 L[k] = false) => (show (L.take (k + 1)).any g8 = false from by rw [List.take_succ_eq_append_getElem hlt, List.any_append, HF.out, List.any_cons, e]; rfl))
      clear HF
      generalize L[k] = p at *
      obtain ⟨⟨t, kd, mk, en, val, ex, ⟨x, y, z⟩, over⟩, ov⟩ := p
      obtain ⟨_, _, m2, m3, m4, _, _, _, _, m9⟩ := hc.cells
      obtain ⟨ao, co, hovf⟩ := HO.out.form
      dsimp only at hovf
      subst hovf
      clear hc
      have q1 : ((200 : Int) < (mk.size : Int)) = (200 < mk.size) := propext (by omega)
      have q2 : ((200 : Int) < (en.size : Int)) = (200 < en.size) := propext (by omega)
      have q3 : ((200 : Int) < (val.size : Int)) = (200 < val.size) := propext (by omega)
      have q4 : ((50 : Int) < (over.length : Int)) = (50 < over.length) := propext (by omega)
      have hcs : 200 < mk.size ∨ (¬ 200 < mk.size ∧ 200 < en.size) ∨ (¬ 200 < mk.size ∧ ¬ 200 < en.size ∧ 200 < val.size) ∨ (¬ 200 < mk.size ∧ ¬ 200 < en.size ∧ ¬ 200 < val.size ∧ 50 < over.length) ∨ (¬ 200 < mk.size ∧ ¬ 200 < en.size ∧ ¬ 200 < val.size ∧ ¬ 50 < over.length) := by omega
      rcases hcs with h1 | ⟨h1, h2⟩ | ⟨h1, h2, h3⟩ | ⟨h1, h2, h3, h4⟩ | ⟨h1, h2, h3, h4⟩
      · have HR := Lib.hid (HT.out (by simp [g8, *]))
        clear HT HN HO
        go_wp2_with fail
        go_ret
        exact ⟨xret_b HR.out, rfl⟩
      · have HR := Lib.hid (HT.out (by simp [g8, *]))
        clear HT HN HO
        go_wp2_with fail
        go_ret
        exact ⟨xret_b HR.out, rfl⟩
      · have HR := Lib.hid (HT.out (by simp [g8, *]))
        clear HT HN HO
        go_wp2_with fail
        go_ret
        exact ⟨xret_b HR.out, rfl⟩
      · have HR := Lib.hid (HT.out (by simp [g8, *]))
        clear HT HN HO
        go_wp2_with fail
        go_ret
        exact ⟨xret_b HR.out, rfl⟩
      · have HR := Lib.hid (HN.out (by simp [g8, *]))
        clear HT HN HO
        go_wp2_with fail
        go_roundw
        case rel => exact ⟨k + 1, by go_num, by omega, by first | rfl | trivial, HR⟩
        case measure => simp [intOf]; omega
    · have hi1 : ¬ (k : Int) < (L.length : Int) := by omega
      have HR := Lib.hid (show false = L.any g8 from by have h := HF.out; rw [List.take_of_length_le (by omega)] at h; exact h.symm)
      clear HF
      go_wp2_with fail
      go_ret
      exact ⟨xret_b HR.out, rfl⟩
/-- How a tree's mutations stand. -/
def cmpK (a b : Mu) : Int := if cmpT a.key b.key ≠ 0 then cmpT a.key b.key else cmpM a b
set_option maxRecDepth 100000 in
set_option maxHeartbeats 4000000 in
theorem kcompare_any (a b : Mu) (oa ob : Value) (hna : a.over.length ≤ 100000) (hnb : b.over.length ≤ 100000) (w : World) (ha : SI w oa a.over) (hb : SI w ob b.over) :
    Calls Try.prog 29 #[.agg (a.cells oa), .agg (b.cells ob)] w fun e w' => e = .returned (.int .i64 (cmpK a b)) ∧ Below w.heap.size w w' := by
  have CM := Lib.hid (fun W hA hB => mcompare_any a b oa ob hna hnb W hA hB)
  have CT := Lib.hid (fun W => cmps_any a.key b.key W)
  have H := Lib.hid (And.intro ha hb)
  have HV := Lib.hid (show (if cmpT a.key b.key ≠ 0 then cmpT a.key b.key else cmpM a b) = cmpK a b from rfl)
  clear ha hb hna hnb
  generalize cmpK a b = z at *
  generalize cmpM a b = zm at *
  obtain ⟨at_, ak, akey, aen, aval, aex, ⟨ax, ay, az⟩, ao⟩ := a
  obtain ⟨bt, bk, bkey, ben, bval, bex, ⟨bx, b_y, bz⟩, bo⟩ := b
  unfold Mu.cells at *
  dsimp only at *
  generalize cmpT akey bkey = zt at *
  have HA := Lib.hid (((Below.refl w.heap.size w).alloc (Nat.le_refl _) (.cells #[.int .i64 at_, .int .i64 ak, .string akey, .string aen, .string aval, .int .i64 aex, .int .i64 ax, .int .i64 ay, .int .i64 az, oa] 40)).alloc (by simp) (.cells #[.int .i64 bt, .int .i64 bk, .string bkey, .string ben, .string bval, .int .i64 bex, .int .i64 bx, .int .i64 b_y, .int .i64 bz, ob] 40))
  by_cases hz : zt = 0
  · have HR := Lib.hid (show zm = z by have h := HV.out; rw [if_neg (by simpa using hz)] at h; exact h)
    subst hz
    clear HV
    go_enter Try.func29, Try.ntmps29
    go_wp2_with fail
    refine (CT.out _).mono ?_; rintro e w1 ⟨rfl, rfl⟩
    go_wp2_with fail
    refine (CM.out _ (H.out.1.next HA.out) (H.out.2.next HA.out)).mono ?_; rintro e w1 ⟨rfl, hb1⟩
    have HB := Lib.hid (bnext HA.out hb1)
    clear hb1
    go_wp2_with fail
    go_ret
    exact ⟨ret_int HR.out, HB.out⟩
  · have HR := Lib.hid (show zt = z by have h := HV.out; rw [if_pos (by simpa using hz)] at h; exact h)
    have hzb : (zt != 0) = true := by simp [hz]
    clear HV hz
    go_enter Try.func29, Try.ntmps29
    go_wp2_with fail
    refine (CT.out _).mono ?_; rintro e w1 ⟨rfl, rfl⟩
    go_wp2_with fail
    go_ret
    exact ⟨ret_int HR.out, HA.out⟩
theorem cmpT_eq (a b : ByteArray) : (cmpT a b = 0) ↔ (a.toList == b.toList) = true := by
  unfold cmpT
  rcases bl_cases a.toList b.toList with ⟨h1, h2, h3, h4⟩ | ⟨h1, h2, h3, h4⟩ | ⟨h1, h2, h3, h4⟩
  · rw [if_pos h1, h3]; simp
  · rw [if_neg (by rw [h1]; simp), if_pos h3, h3]; simp
  · rw [if_neg (by rw [h1]; simp), if_neg (by rw [h3]; simp), h3]; simp
set_option maxRecDepth 100000 in
set_option maxHeartbeats 4000000 in
theorem lcompare_any (RC : RCmp) (a b : Mu) (oa ob : Value) (hna : a.over.length ≤ 100000) (hnb : b.over.length ≤ 100000) (w : World) (ha : SI w oa a.over) (hb : SI w ob b.over) :
    Calls Try.prog 30 #[.agg (a.cells oa), .agg (b.cells ob)] w fun e w' => e = .returned (.int .i64 (cmpK a b)) ∧ Below w.heap.size w w' := by
  have CM := Lib.hid (fun W hA hB => RC a b oa ob hna hnb W hA hB)
  have CT := Lib.hid (fun W => ntext_any a.key b.key W)
  have H := Lib.hid (And.intro ha hb)
  have HV := Lib.hid (show (if cmpT a.key b.key ≠ 0 then cmpT a.key b.key else cmpM a b) = cmpK a b from rfl)
  have HE := Lib.hid (cmpT_eq a.key b.key)
  clear ha hb hna hnb RC
  generalize cmpK a b = z at *
  generalize cmpM a b = zm at *
  obtain ⟨at_, ak, akey, aen, aval, aex, ⟨ax, ay, az⟩, ao⟩ := a
  obtain ⟨bt, bk, bkey, ben, bval, bex, ⟨bx, b_y, bz⟩, bo⟩ := b
  unfold Mu.cells at *
  dsimp only at *
  generalize cmpT akey bkey = zt at *
  have HA := Lib.hid (((Below.refl w.heap.size w).alloc (Nat.le_refl _) (.cells #[.int .i64 at_, .int .i64 ak, .string akey, .string aen, .string aval, .int .i64 aex, .int .i64 ax, .int .i64 ay, .int .i64 az, oa] 40)).alloc (by simp) (.cells #[.int .i64 bt, .int .i64 bk, .string bkey, .string ben, .string bval, .int .i64 bex, .int .i64 bx, .int .i64 b_y, .int .i64 bz, ob] 40))
  by_cases hz : zt = 0
  · have HR := Lib.hid (show zm = z by have h := HV.out; rw [if_neg (by simpa using hz)] at h; exact h)
    have he : (akey.toList == bkey.toList) = true := HE.out.1 hz
    clear HV HE hz
    go_enter Try.func30, Try.ntmps30
    go_wp2_with fail
    refine (CM.out _ (H.out.1.next HA.out) (H.out.2.next HA.out)).mono ?_; rintro e w1 ⟨rfl, hb1⟩
    have HB := Lib.hid (bnext HA.out hb1)
    clear hb1
    go_wp2_with fail
    go_ret
    exact ⟨ret_int HR.out, HB.out⟩
  · have HR := Lib.hid (show zt = z by have h := HV.out; rw [if_pos (by simpa using hz)] at h; exact h)
    have he : (akey.toList == bkey.toList) = false := by
      cases h : (akey.toList == bkey.toList) with
      | false => rfl
      | true => exact absurd (HE.out.2 h) hz
    clear HV HE hz
    go_enter Try.func30, Try.ntmps30
    go_wp2_with fail
    refine (CT.out _).mono ?_; rintro e w1 ⟨rfl, rfl⟩
    go_wp2_with fail
    go_ret
    exact ⟨ret_int HR.out, HA.out⟩
end Go.Proofs.Ytljhnkcoknikgaa
