/- Layer 11 (disk): the law on what was synced: its walk. -/
import Derived.Test.YtdckdhbnfakleaaDf
namespace Go.Proofs.Ytdckdhbnfakleaa
open Go.RowKit
open Go.Maps (Keyed)

theorem i64_top {n : Int} (h : (Lit.int .i64 n).wf = true) : n ≤ 9223372036854775807 := by
  have h2 : (decide (IntKind.i64.min ≤ n) && decide (n ≤ IntKind.i64.max)) = true := h
  rw [Bool.and_eq_true, decide_eq_true_eq, decide_eq_true_eq, show IntKind.i64.max = 9223372036854775807 from by decide] at h2
  exact h2.2
theorem Bx.reads2 {w : World} {g : Nat} {t : TypeId} {a b : Value} (h : Bx w g t #[a, b]) : w.cell? ⟨g, 0, none⟩ = some a ∧ w.cell? ⟨g, 1, none⟩ = some b := ⟨h.read rfl, h.read rfl⟩
theorem Bx.opens2 {w : World} {g : Nat} {t : TypeId} {cs : Array Value} (h : Bx w g t cs) : w.frozen? ⟨g, 0, none⟩ = false ∧ w.frozen? ⟨g, 1, none⟩ = false := ⟨h.open_ 0, h.open_ 1⟩
section
variable {w w' : World} {B D M F : Nat} {s : ByteArray} {room ops ahead ah' : Int} {v : Value} {sy : Int} {l : List UInt8} {off : Bool}
theorem DS.armed (h : DS w B D M F s room off ops ahead v sy) (hv : BO w B v l) (hB : B ≤ w.heap.size) (hd : Dk w' D (.map (some M)) room off ops ah') (hg : w.grownBy w' (some D)) : DS w' B D M F s room off ops ah' v sy ∧ BO w' B v l ∧ Below B w w' :=
  ⟨h.dkset hd hg, h.rowset hv hg, bgB hB (Below.refl B w) hg h.bd⟩
end
theorem opS_bd (A : Int) (h0 : 0 ≤ A) (h1 : A ≤ 9223372036854775807) : -1 ≤ (opS A).2.2 ∧ (opS A).2.2 ≤ 9223372036854775807 := by
  unfold opS; split
  · exact ⟨by decide, by decide⟩
  · split
    · exact ⟨by decide, by decide⟩
    · exact ⟨by show -1 ≤ A - 1; omega, by show A - 1 ≤ _; omega⟩
/-- Sync on a disk that may be off: the code, and how far the file is synced. -/
theorem sync_gen {B D M F : Nat} {s : ByteArray} {room ops ahead : Int} {v : Value} {sy : Int} {l : List UInt8} (off : Bool) (hs : s.size ≤ maxLen) (h1 : -1 ≤ ahead) (h2 : ahead ≤ 9223372036854775807) (ho : 0 ≤ ops) (ho2 : ops ≤ 1000) (w : World) (h : DS w B D M F s room off ops ahead v sy) (hv : BO w B v l) (hB : B ≤ w.heap.size) :
    Calls Try.prog 43 #[.pointer (some ⟨D, 0, none⟩), .string s] w fun e w' => ∃ fc off' ops' ah' sy', e = .returned (.int .i64 fc) ∧ DS w' B D M F s room off' ops' ah' v sy' ∧ BO w' B v l ∧ Below B w w' ∧ (sy' = sy ∨ sy' = (l.length : Int)) ∧ (fc = 0 → sy' = (l.length : Int)) := by
  cases off with
  | true =>
    refine (sync_off w h).mono ?_
    rintro e w' ⟨rfl, rfl⟩
    exact ⟨110, _, _, _, _, rfl, h, hv, Below.refl _ _, .inl rfl, fun h => by cases h⟩
  | false =>
    refine (sync_on hs h1 h2 ho ho2 w h hv hB).mono ?_
    rintro e w' ⟨rfl, hds, hbo, hb⟩
    refine ⟨_, _, _, _, _, rfl, hds, hbo, hb, ?_, fun hz => by rw [if_pos hz]⟩
    split
    · exact .inr rfl
    · exact .inl rfl
theorem new_cut (af kp : Int) (w : World) : Calls Try.prog 41 #[.int .i64 10000] (w.alloc (.cells #[.int .i64 af, .int .i64 kp] 62)) fun e w' => e = .returned (.pointer (some ⟨w.heap.size + 2, 0, none⟩)) ∧ Dk w' (w.heap.size + 2) (.map (some (w.heap.size + 1))) 10000 false 0 (-1) ∧ w'.ownsMap Try.prog 9 Rp (w.heap.size + 1) 0 D0 ∧ Below w.heap.size w w' ∧ Bx w' w.heap.size 62 #[.int .i64 af, .int .i64 kp] ∧ w.heap.size + 1 ≤ w'.heap.size := by
  refine (new_any _ _).mono ?_
  rintro e w' ⟨rfl, hd, hm, hb⟩
  have hz : (w.alloc (.cells #[.int .i64 af, .int .i64 kp] 62)).heap.size = w.heap.size + 1 := by simp
  have e1 : Below w.heap.size w (w.alloc (.cells #[.int .i64 af, .int .i64 kp] 62)) := (Below.refl _ _).alloc (Nat.le_refl _) _
  have hs := hb.size
  rw [hz] at hd hm hs ⊢
  exact ⟨rfl, hd, hm, bnext e1 hb, (Bx.fresh w _ _).next hb, hs⟩
set_option maxRecDepth 100000 in
set_option maxHeartbeats 4000000 in
theorem keeps_big (va vb : Value) (la lb : List UInt8) (af kp : Int) (w : World) (ha : BS w va la) (hb : BS w vb lb) (h : 5000 < la.length ∨ 5000 < lb.length ∨ la.length = 0) :
    Calls Try.prog 9 #[va, vb, .agg #[.int .i64 af, .int .i64 kp]] w fun e w' => e = .returned (.bool true) ∧ Below w.heap.size w w' := by
  obtain ⟨aa, ca, rfl⟩ := ha.form
  obtain ⟨ab, cb, rfl⟩ := hb.form
  have e1 : Below w.heap.size w (w.alloc (.cells #[.int .i64 af, .int .i64 kp] 62)) := (Below.refl _ _).alloc (Nat.le_refl _) _
  have H1 := Hid.mk' e1
  clear ha hb e1
  generalize la.length = na at h ⊢
  generalize lb.length = nb at h ⊢
  by_cases h1 : (5000 : Int) < (na : Int)
  · clear h
    go_enter Try.func9, Try.ntmps9
    go_wp2_with fail
    go_ret
    exact ⟨rfl, H1.out⟩
  · by_cases h2 : (5000 : Int) < (nb : Int)
    · clear h
      go_enter Try.func9, Try.ntmps9
      go_wp2_with fail
      go_ret
      exact ⟨rfl, H1.out⟩
    · have h3 : na = 0 := by omega
      subst h3
      clear h h1
      go_enter Try.func9, Try.ntmps9
      go_wp2_with fail
      go_ret
      exact ⟨rfl, H1.out⟩
/-- What stands before the power may go. -/
def KpA (w wr : World) (F : Nat) (va vb v : Value) (la lb : List UInt8) (af kp : Int) : Prop :=
  DS wr (w.heap.size + 1) (w.heap.size + 2) (w.heap.size + 1) F ⟨#[102]⟩ 10000 false 2 (max af 0) v (la.length : Int) ∧ BO wr (w.heap.size + 1) v la ∧ Below w.heap.size w wr ∧ Bx wr w.heap.size 62 #[.int .i64 af, .int .i64 kp] ∧ w.heap.size + 1 ≤ wr.heap.size ∧ BS wr va la ∧ BS wr vb lb
/-- What stands behind the crash and Up. -/
def KpB (w wr : World) (F : Nat) (va vb : Value) (la lb : List UInt8) (N : Nat) (fc : Int) : Prop :=
  (∃ v, DS wr (w.heap.size + 1) (w.heap.size + 2) (w.heap.size + 1) F ⟨#[102]⟩ 10000 false 0 (-1) v (N : Int) ∧ BS wr v ((la ++ lb).take N)) ∧ Below w.heap.size w wr ∧ BS wr va la ∧ BS wr vb lb
set_option maxRecDepth 100000 in
set_option maxHeartbeats 8000000 in
theorem keeps_main (va vb : Value) (la lb : List UInt8) (af kp : Int) (hkf : af ≤ 9223372036854775807) (hkp : kp ≤ 9223372036854775807) (w : World) (ha : BS w va la) (hb : BS w vb lb) (ha1 : la.length ≤ 5000) (hb1 : lb.length ≤ 5000) (ha0 : 1 ≤ la.length) :
    Calls Try.prog 9 #[va, vb, .agg #[.int .i64 af, .int .i64 kp]] w fun e w' => e = .returned (.bool true) ∧ Below w.heap.size w w' := by
  obtain ⟨aa, ca, rfl⟩ := ha.form
  obtain ⟨ab, cb, rfl⟩ := hb.form
  have HAB := Hid.mk' (And.intro ha hb)
  have HL := Hid.mk' (And.intro ha1 (And.intro hb1 ha0))
  have C0 := Hid.mk' (new_cut af kp w)
  have x1 : ¬ (5000 : Int) < (la.length : Int) := by omega
  have x2 : ¬ (5000 : Int) < (lb.length : Int) := by omega
  have x3 : ¬ (la.length : Int) = 0 := by omega
  clear ha hb ha1 hb1 ha0
  go_enter Try.func9, Try.ntmps9
  go_wp2_with fail
  refine C0.out.mono ?_; rintro e w1 ⟨rfl, hd1, hm1, hb1, hx1, hz1⟩
  have hsa1 := HAB.out.1.next hb1
  have C1 := Hid.mk' (append_first (w.heap.size + 1) (w.heap.size + 2) (w.heap.size + 1) ⟨#[102]⟩ key_f (by decide) 10000 0 (-1) (by omega) (by omega) (by omega) (by omega) _ la (by have := HL.out; omega) (by have := HL.out; omega) (by omega) w1 hd1 hm1 hz1 (by omega) (by omega) hsa1)
  have H1 := Hid.mk' (And.intro hb1 (And.intro hx1 hz1))
  clear hd1 hm1 hb1 hx1 hz1 hsa1 C0
  go_wp2_with fail
  refine C1.out.mono ?_; rintro e w2 ⟨rfl, F, v, hds2, hbo2, hb2⟩
  rw [op_never] at hds2
  have H2 := Hid.mk' (show DS w2 (w.heap.size + 1) (w.heap.size + 2) (w.heap.size + 1) F ⟨#[102]⟩ 10000 false (0 + 1) (-1) v 0 ∧ BO w2 (w.heap.size + 1) v la ∧ Below (w.heap.size + 1) w1 w2 from ⟨hds2, hbo2, hb2⟩)
  have C2 := Hid.mk' (sync_on (by decide +kernel) (by omega) (by omega) (by omega) (by omega) w2 H2.out.1 H2.out.2.1 (Nat.le_trans H1.out.2.2 H2.out.2.2.size))
  clear hds2 hbo2 hb2 C1
  go_wp2_with fail
  refine C2.out.mono ?_; rintro e w3 ⟨rfl, hds3, hbo3, hb3⟩
  have hds3' : DS w3 (w.heap.size + 1) (w.heap.size + 2) (w.heap.size + 1) F ⟨#[102]⟩ 10000 false 2 (-1) v (la.length : Int) := hds3
  have hbx3 := H1.out.2.1.later (H2.out.2.2.trans hb3) (Nat.lt_succ_self _)
  have H3 := Hid.mk' (And.intro hds3' (And.intro hbo3 (And.intro (H2.out.2.2.trans hb3) hbx3)))
  have C3 := Hid.mk' (arm_any _ _ _ _ _ _ af w3 hds3'.dk)
  obtain ⟨y0, y1⟩ := Bx.reads2 hbx3
  obtain ⟨z0, z1⟩ := Bx.opens2 hbx3
  clear hds3 hds3' hbo3 hb3 hbx3 C2 H2
  go_wp2_with fail
  refine C3.out.mono ?_; rintro e w4 ⟨rfl, hd4, hg4⟩
  have hz3 := Nat.le_trans H1.out.2.2 H3.out.2.2.1.size
  obtain ⟨hds4, hbo4, hb4⟩ := H3.out.1.armed H3.out.2.1 hz3 hd4 hg4
  have H4 := Hid.mk' (show KpA w w4 F (.slice aa la.length ca) (.slice ab lb.length cb) v la lb af kp ∧ True from by
    have hbw : Below w.heap.size w w4 := H1.out.1.trans (((H3.out.2.2.1).trans hb4).mono (Nat.le_succ _))
    exact ⟨⟨hds4, hbo4, hbw, H3.out.2.2.2.later hb4 (Nat.lt_succ_self _), Nat.le_trans hz3 hb4.size, HAB.out.1.next hbw, HAB.out.2.next hbw⟩, trivial⟩)
  clear hd4 hg4 hz3 hds4 hbo4 hb4 y0 y1 z0 z1 C3 H3 H1
  obtain ⟨A, hA⟩ : ∃ A, max af 0 = A := ⟨_, rfl⟩
  have hA0 : 0 ≤ A := by omega
  have hA1 : A ≤ 9223372036854775807 := by omega
  have hab := opS_bd A hA0 hA1
  have C4 := Hid.mk' (append_next (w.heap.size + 1) (w.heap.size + 2) (w.heap.size + 1) F ⟨#[102]⟩ key_f (by decide) 10000 2 A (by omega) hA1 (by omega) (by omega) v la.length la _ lb (by have := HL.out; omega) (by have := HL.out; omega) (by have := HL.out; omega) (by omega) w4 (by rw [← hA]; exact H4.out.1.1) H4.out.1.2.1 H4.out.1.2.2.2.2.1 H4.out.1.2.2.2.2.2.2)
  have HOP := Hid.mk' hab
  clear hA hA0 hA1 hab
  go_wp2_with fail
  refine C4.out.mono ?_; rintro e w5 ⟨rfl, v5, hds5, hbo5, hb5⟩
  generalize (opS A).1 = ec at hds5 hbo5 hb5 ⊢
  have H5 := Hid.mk' (And.intro hds5 (And.intro hbo5 (And.intro hb5 (Nat.le_trans H4.out.1.2.2.2.2.1 hb5.size))))
  have C5 := Hid.mk' (sync_gen _ (by decide +kernel) HOP.out.1 HOP.out.2 (by omega) (by omega) w5 H5.out.1 H5.out.2.1 H5.out.2.2.2)
  clear hds5 hbo5 hb5 C4
  go_wp2_with fail
  refine C5.out.mono ?_; rintro e w6 ⟨fc, off6, ops6, ah6, sy6, rfl, hds6, hbo6, hb6, hsy6, hfin6⟩
  have H6 := Hid.mk' (And.intro hds6 (And.intro hbo6 (And.intro (H5.out.2.2.1.trans hb6) (And.intro (Nat.le_trans H5.out.2.2.2 hb6.size) (And.intro hsy6 hfin6)))))
  have C6 := Hid.mk' (crash_any _ _ _ _ _ _ w6 hds6.dk)
  clear hds6 hbo6 hb6 hsy6 hfin6 C5 H5
  go_wp2_with fail
  refine C6.out.mono ?_; rintro e w7 ⟨rfl, hd7, hg7⟩
  obtain ⟨hds7, hbo7, hb7⟩ := H6.out.1.crashed H6.out.2.1 H6.out.2.2.2.1 hd7 hg7
  have hsb : 1 ≤ sy6 ∧ sy6 ≤ ((la ++ lb).length : Int) ∧ (la.length : Int) ≤ sy6 := by
    have h1 := H6.out.2.2.2.2.1
    have h2 := HL.out
    rw [List.length_append] at h1 ⊢
    rcases h1 with h1 | h1 <;> omega
  have hupb := upN_bd ((la ++ lb).length : Int) sy6 kp hsb.1 hsb.2.1
  have C7 := Hid.mk' (up_on _ _ _ _ _ _ _ _ _ _ _ kp hkp hsb.1 hsb.2.1 (by have := HL.out; rw [List.length_append]; omega) w7 hds7 hbo7 (Nat.le_trans H6.out.2.2.2.1 hb7.size))
  obtain ⟨N, hN⟩ : ∃ N : Nat, upN ((la ++ lb).length : Int) sy6 kp = (N : Int) := ⟨(upN ((la ++ lb).length : Int) sy6 kp).toNat, by omega⟩
  rw [hN] at C7 hupb
  have hbx7 := H4.out.1.2.2.2.1.later (H6.out.2.2.1.trans hb7) (Nat.lt_succ_self _)
  obtain ⟨y0, y1⟩ := Bx.reads2 hbx7
  obtain ⟨z0, z1⟩ := Bx.opens2 hbx7
  have HN := Hid.mk' (show la.length ≤ N ∧ N ≤ (la ++ lb).length ∧ (fc = 0 → N = (la ++ lb).length) by
    refine ⟨by omega, by omega, fun hz => ?_⟩
    have := H6.out.2.2.2.2.2 hz
    omega)
  have H7 := Hid.mk' (H6.out.2.2.1.trans hb7)
  clear hd7 hg7 hds7 hbo7 hb7 hsb hupb hN hbx7 C6 H6
  go_wp2_with fail
  refine C7.out.mono ?_; rintro e w8 ⟨rfl, v8, hds8, hbs8, hb8⟩
  rw [Int.toNat_natCast] at hbs8
  have hbw8 : Below w.heap.size w w8 := H4.out.1.2.2.1.trans ((H7.out.trans hb8).mono (Nat.le_succ _))
  have H8 := Hid.mk' (And.intro hds8 (And.intro hbs8 (And.intro hbw8 (And.intro (HAB.out.1.next hbw8) (HAB.out.2.next hbw8)))))
  have C8 := Hid.mk' (sclone_any _ la (by have := HL.out; omega) w8 H8.out.2.2.2.1)
  clear hds8 hbs8 hb8 hbw8 y0 y1 z0 z1 C7 H7 H4
  go_wp2_with fail
  refine C8.out.mono ?_; rintro e w9 ⟨v9, rfl, hbo9, hb9⟩
  have H9 := Hid.mk' (And.intro (H8.out.1.next hb9) (And.intro (H8.out.2.1.next hb9) (And.intro (bnext H8.out.2.2.1 hb9) (And.intro (H8.out.2.2.2.2.next hb9) (And.intro hbo9 hb9)))))
  clear hbo9 hb9 C8
  go_wp2_with (at_builtin; refine wpList_append_bs rfl (.tmp 54) (.tmp 55) rfl w8.heap.size _ _ la lb rfl rfl H9.out.2.2.2.2.1 H9.out.2.2.2.1 (by have := HL.out; omega) H9.out.2.2.2.2.2.size ?_)
  intro va10 w10 hbo10 hg10
  have hb10 : Below w8.heap.size w8 w10 := H9.out.2.2.2.2.2.grown hg10 H9.out.2.2.2.2.2.size (fun k hk => by
    rcases Nat.lt_or_ge k w8.heap.size with h | h
    · exact absurd hk (own_ne H9.out.2.2.2.2.1 h)
    · exact h)
  obtain ⟨T, hT⟩ : ∃ T, (la ++ lb).length = T := ⟨_, rfl⟩
  have hTN : ((la ++ lb).take N).length = N := by have := HN.out; rw [List.length_take]; omega
  have hTb : T ≤ 10000 := by rw [← hT, List.length_append]; have := HL.out; omega
  obtain ⟨a10, c10, rfl⟩ := hbo10.bs.form
  have H10 := Hid.mk' (And.intro (H8.out.1.next hb10) (And.intro (H8.out.2.1.next hb10) (And.intro (bnext H8.out.2.2.1 hb10) hbo10.bs)))
  have C10 := Hid.mk' (read_on (l := (la ++ lb).take N) (by decide +kernel) (by have h1 := HN.out; have h2 := HL.out; rw [hTN]; rw [List.length_append] at h1; omega) w10 H10.out.1 H10.out.2.1)
  clear hbo10 hg10 hb10 H9 H8
  rw [hT]
  rw [hT] at HN
  have HT := Hid.mk' hT
  go_wp2_with fail
  refine C10.out.mono ?_; rintro e w11 ⟨v11, rfl, hbs11, hb11⟩
  have h11 := H10.out.2.2.2.next hb11
  obtain ⟨a11, c11, hv11⟩ := hbs11.form
  rw [hTN] at hv11
  subst hv11
  obtain ⟨a12, c12, hsl, hbs12⟩ := cut_to h11 N (by have := HN.out; rw [hT]; omega)
  rw [hT] at hsl
  have C11 := Hid.mk' (equal_yes _ _ ((la ++ lb).take N) (by have := HN.out; rw [hTN]; omega) w11 hbs11 hbs12)
  have H11 := Hid.mk' (bnext H10.out.2.2.1 hb11)
  have z1 : ¬ (N : Int) < (la.length : Int) := by have := HN.out; omega
  have z2 : ¬ (T : Int) < (N : Int) := by have := HN.out; omega
  clear hbs11 hbs12 hb11 h11 hT hTN C10 H10
  go_wp2_with fail
  refine C11.out.mono ?_; rintro e w12 ⟨rfl, hb12⟩
  have H12 := Hid.mk' (bnext H11.out hb12)
  clear hb12 C11 hsl
  by_cases he : ec = 0
  · by_cases hf : fc = 0
    · have hNT : (N : Int) = (T : Int) := by have := HN.out.2.2 hf; omega
      subst he
      subst hf
      go_wp2_with fail
      refine (alive11_any _).mono ?_; rintro e w13 ⟨rfl, hb13⟩
      have H13 := Hid.mk' (bnext H12.out hb13)
      go_wp2_with fail
      go_ret
      exact ⟨rfl, H13.out⟩
    · subst he
      go_wp2_with fail
      refine (alive11_any _).mono ?_; rintro e w13 ⟨rfl, hb13⟩
      have H13 := Hid.mk' (bnext H12.out hb13)
      go_wp2_with fail
      go_ret
      exact ⟨rfl, H13.out⟩
  · go_wp2_with fail
    refine (alive11_any _).mono ?_; rintro e w13 ⟨rfl, hb13⟩
    have H13 := Hid.mk' (bnext H12.out hb13)
    go_wp2_with fail
    go_ret
    exact ⟨rfl, H13.out⟩
theorem keepslaw (va vb : Value) (af kp : Int) (hkf : af ≤ 9223372036854775807) (hkp : kp ≤ 9223372036854775807) (w : World) (ha : ∃ l, BS w va l ∧ l.length ≤ maxLen) (hb : ∃ l, BS w vb l ∧ l.length ≤ maxLen) :
    Calls Try.prog 9 #[va, vb, .agg #[.int .i64 af, .int .i64 kp]] w fun e w' => e = .returned (.bool true) ∧ Below w.heap.size w w' := by
  obtain ⟨la, hsa, _⟩ := ha
  obtain ⟨lb, hsb, _⟩ := hb
  by_cases h : 5000 < la.length ∨ 5000 < lb.length ∨ la.length = 0
  · exact keeps_big va vb la lb af kp w hsa hsb h
  · exact keeps_main va vb la lb af kp hkf hkp w hsa hsb (by omega) (by omega) (by omega)
end Go.Proofs.Ytdckdhbnfakleaa
