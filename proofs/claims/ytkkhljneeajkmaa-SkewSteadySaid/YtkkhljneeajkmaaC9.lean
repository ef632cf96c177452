/- Layer 41 (skew): the statement SkewSteady's walk. -/
import Derived.Test.YtkkhljneeajkmaaC8
namespace Go.Proofs.Ytkkhljneeajkmaa
open Go.RowKit Go.ChangeShapes Go.WideShapes Go.Deep

set_option maxRecDepth 100000 in
theorem open_steps {H : Type} {enc : TypeId × Value → H} {w : World} {r : Reach} {base : Nat} {spare : Nat → Bool} {held : Bool} {v : Value} {d : DataW H} {p : List MemPlace} (hv : Value.okWide Try.prog w r base 55 v)
    (h : DataW.Trod enc Try.prog w 0 spare held 55 v d p) : ∃ S : List Sp, SpI w v S ∧ S.length ≤ maxLen := by
  obtain ⟨a0, len, cap, rfl⟩ := okWide_slice Try.underlying55 hv
  obtain ⟨fuel, hf⟩ := h
  rcases open_slice Try.underlying55 hf with ⟨hcs, _⟩ | ⟨a, len', cap', m, n, D, Pl, hcs, _, hl, hcm, hm, _, hi⟩
  · simp [Value.cells] at hcs
    obtain ⟨rfl, rfl, rfl⟩ := hcs
    exact ⟨[], ⟨none, 0, rfl, fun h => absurd rfl h⟩, by simp⟩
  · simp [Value.cells] at hcs
    obtain ⟨rfl, rfl, rfl⟩ := hcs
    have hlm : len ≤ m := by rw [hm]; split <;> omega
    have hC : Try.prog.cellsOf 62 = 9 := by kernel_rfl
    have key : ∀ i, i < len → ∃ o : Sp, w.cell? (a.add (i * 9)) = some (.int .i64 o.kind) ∧ w.cell? (a.add (i * 9 + 1)) = some (.int .i64 o.n) ∧ w.cell? (a.add (i * 9 + 2)) = some (.int .i64 o.ticks) ∧
        w.cell? (a.add (i * 9 + 3)) = some (.int .i64 o.table) ∧ w.cell? (a.add (i * 9 + 4)) = some (.int .i64 o.level) ∧ w.cell? (a.add (i * 9 + 5)) = some (.string o.key) ∧ w.cell? (a.add (i * 9 + 6)) = some (.string o.fin) ∧ w.cell? (a.add (i * 9 + 7)) = some (.string o.val) ∧ w.cell? (a.add (i * 9 + 8)) = some (.int .i64 o.ctx) := by
      intro i hil
      obtain ⟨cs, hcs, ht⟩ := hi i (by omega)
      rw [hC] at hcs
      obtain ⟨_, hlen, hat⟩ := World.cells?_some hcs
      match cs, hlen with
      | [c0, c1, c2, c3, c4, c5, c6, c7, c8], _ =>
        obtain ⟨xs, n1, _, _, _, hxl, hg⟩ := DataW.trod_struct Try.underlying62 ht
        have k1 : Try.prog.cellsOf 3 = 1 := by kernel_rfl
        have k2 : Try.prog.cellsOf 9 = 1 := by kernel_rfl
        have k3 : Try.prog.cellsOf 58 = 1 := by kernel_rfl
        have k4 : Try.prog.cellsOf 59 = 1 := by kernel_rfl
        have k5 : Try.prog.cellsOf 60 = 1 := by kernel_rfl
        match xs, hxl with
        | [y0, y1, y2, y3, y4, y5, y6, y7, y8], _ =>
          have g0 := hg 0 _ rfl
          have g1 := hg 1 _ rfl
          have g2 := hg 2 _ rfl
          have g3 := hg 3 _ rfl
          have g4 := hg 4 _ rfl
          have g5 := hg 5 _ rfl
          have g6 := hg 6 _ rfl
          have g7 := hg 7 _ rfl
          have g8 := hg 8 _ rfl
          simp [k1, k2, k3, k4, k5] at g0 g1 g2 g3 g4 g5 g6 g7 g8
          obtain ⟨a0, e0, _, _⟩ := DataW.trod_int Try.underlying58 g0
          obtain ⟨a1, e1, _, _⟩ := DataW.trod_int Try.underlying3 g1
          obtain ⟨a2, e2, _, _⟩ := DataW.trod_int Try.underlying3 g2
          obtain ⟨a3, e3, _, _⟩ := DataW.trod_int Try.underlying59 g3
          obtain ⟨a4, e4, _, _⟩ := DataW.trod_int Try.underlying60 g4
          obtain ⟨a5, e5, _, _⟩ := DataW.trod_string Try.underlying9 g5
          obtain ⟨a6, e6, _, _⟩ := DataW.trod_string Try.underlying9 g6
          obtain ⟨a7, e7, _, _⟩ := DataW.trod_string Try.underlying9 g7
          obtain ⟨a8, e8, _, _⟩ := DataW.trod_int Try.underlying3 g8
          simp at e0 e1 e2 e3 e4 e5 e6 e7 e8
          subst e0 e1 e2 e3 e4 e5 e6 e7 e8
          have q0 := hat 0 (by omega)
          have q1 := hat 1 (by omega)
          have q2 := hat 2 (by omega)
          have q3 := hat 3 (by omega)
          have q4 := hat 4 (by omega)
          have q5 := hat 5 (by omega)
          have q6 := hat 6 (by omega)
          have q7 := hat 7 (by omega)
          have q8 := hat 8 (by omega)
          rw [add_add] at q0 q1 q2 q3 q4 q5 q6 q7 q8
          exact ⟨⟨a0, a1, a2, a3, a4, a5, a6, a7, a8⟩, q0, q1, q2, q3, q4, q5, q6, q7, q8⟩
    have : Inhabited Sp := ⟨⟨0, 0, 0, 0, 0, ByteArray.empty, ByteArray.empty, ByteArray.empty, 0⟩⟩
    obtain ⟨f, hf2⟩ := choose_lt key
    have hlen : ((List.range len).map f).length = len := by simp
    refine ⟨(List.range len).map f, ⟨some a, cap, by rw [hlen], fun h0 => ?_⟩, by rw [hlen]; omega⟩
    have hpos : 0 < len := by
      rcases Nat.eq_zero_or_pos len with h | h
      · subst h; simp at h0
      · exact h
    obtain ⟨b, off, spot⟩ := a
    have hspot : spot = none := by simpa [Addr.add] using World.cell?_spot (hf2 0 hpos).1
    subst hspot
    refine ⟨b, off, rfl, fun i hil => ?_⟩
    rw [hlen] at hil
    have := hf2 i hil
    simp only [add_plain, ← Nat.add_assoc] at this
    simp only [List.getElem_map, List.getElem_range]
    exact this
/-- What the law found so far: all within, or one that isn't. -/
def WN (R : RT) (n a b : Nat) (W : Bool) : Prop := (W = true ∧ (∀ x, x < a → ∀ y, y < n → R.most x y ≤ 4) ∧ ∀ y, y < b → R.most a y ≤ 4) ∨ (W = false ∧ wth R 4 n = false)
set_option maxRecDepth 100000 in
set_option maxHeartbeats 16000000 in
theorem skew_some (n : Nat) (h1 : 1 ≤ n) (h5 : n ≤ 5) (v : Value) (S : List Sp) (hl : S.length ≤ 60) (w : World) (h : SpI w v S) :
    Calls Try.prog 9 #[.int .i64 n, v] w fun e w' => e = .returned (.bool true) ∧ Below w.heap.size w w' := by
  have HR := Lib.hid h
  obtain ⟨av, cv, rfl, hc⟩ := h
  clear hc
  have n0 : ¬ ((60 : Int) < (S.length : Int)) := by omega
  have n1 : ¬ ((n : Int) < 1) := by omega
  have n2 : ¬ ((5 : Int) < (n : Int)) := by omega
  have H5 := Lib.hid h5
  go_enter Try.func9, Try.ntmps9
  go_wp2_with fail
  go_loopw [5, 6] (fun vm i wr => ∃ (k : Nat) (vt : Value), i = .int .i64 k ∧ vm = vt ∧ k ≤ S.length ∧ Hid (TO wr w.heap.size vt (tks n (S.take k))) ∧ Hid (Below w.heap.size w wr)) (fun _ i _ => S.length - (intOf i).toNat)
  case atStart => exact ⟨0, _, rfl, rfl, Nat.zero_le _, Lib.hid ⟨rfl, .inl ⟨rfl, rfl⟩⟩, Lib.hid (Below.refl _ _)⟩
  case round =>
    obtain ⟨k, vt, rfl, rfl, hk, HO, HB⟩ := hrel
    have HTL := Lib.hid (show (tks n (S.take k)).length ≤ 60 from by have := tks_len n (S.take k); rw [List.length_take] at this; omega)
    by_cases hlt : k < S.length
    · have hi1 : (k : Int) < (S.length : Int) := by omega
      obtain ⟨a', cap', hv, hc⟩ := id (HR.out.next HB.out)
      obtain ⟨b, off, hb0, hcell⟩ := hc (fun e => by rw [e] at hlt; simp at hlt)
      subst hb0
      cases hv
      obtain ⟨x0, x1, x2, _⟩ := hcell k hlt
      have HT := Lib.hid (tks_snoc n S k hlt)
      clear hcell hc
      generalize S[k] = s at *
      obtain ⟨kind, sn, ticks, table, level, key, fin, val, ctx⟩ := s
      dsimp only at x0 x1 x2
      obtain ⟨_, hlo, hhi, hne⟩ := node_eq sn n h1 h5
      have hm1 := Int.emod_nonneg sn (b := (n : Int)) (by omega)
      have hm2 := Int.emod_lt_of_pos sn (b := (n : Int)) (by omega)
      obtain ⟨m, hm⟩ : ∃ m : Nat, sn % (n : Int) = m := ⟨(sn % (n : Int)).toNat, by omega⟩
      have HT2 := Lib.hid (fun (hk : kind = 10) => (show tks n (S.take (k + 1)) = tks n (S.take k) ++ [((m : Int), min (max ticks 0) 64)] from by
        rw [HT.out, show tk1 n ⟨kind, sn, ticks, table, level, key, fin, val, ctx⟩ = [((m : Int), min (max ticks 0) 64)] from by unfold tk1; dsimp only; rw [if_pos hk, hm]]))
      have HT3 := Lib.hid (fun (hk : ¬ kind = 10) => (show tks n (S.take (k + 1)) = tks n (S.take k) from by
        rw [HT.out, show tk1 n ⟨kind, sn, ticks, table, level, key, fin, val, ctx⟩ = [] from by unfold tk1; dsimp only; rw [if_neg hk], List.append_nil]))
      rw [hm] at hne
      clear hm hm1 hm2 HT
      generalize hr : sn.tmod (n : Int) = r at *
      have hwr : IntKind.i64.wrap (r + n) = r + n := IntWalk.i64_in _ (by omega)
      by_cases h10 : kind = 10
      · have e10 : (kind == 10) = true := by simp [h10]
        have HN := Lib.hid (HT2.out h10)
        clear HT2 HT3 h10
        by_cases hr0 : r < 0
        · rw [if_pos hr0] at hne
          clear hlo hhi
          go_wp2_with (at_builtin; refine wpList_appT rfl (.tmp 50) (.tmp 60) rfl w.heap.size _ (tks n (S.take k)) (m : Int) (min (max ticks 0) 64) rfl rfl HO.out ?c1 ?c2 ?_)
          case c1 => have := HTL.out; omega
          case c2 => exact HB.out.size
          intro v5 w5 hO5 hg5
          have HO5 := Lib.hid (show TO w5 w.heap.size v5 (tks n (S.take (k + 1))) from by rw [HN.out]; exact hO5)
          have HB5 := Lib.hid (HB.out.grown hg5 HB.out.size (fun k hk => (World.ownsRow.lt HO.out k hk).1))
          clear hO5 hg5 x0 x1 x2
          go_wp2_with fail
          go_roundw
          case rel => exact ⟨k + 1, _, by go_num, rfl, by omega, HO5, HB5⟩
          case measure => simp [intOf]; omega
        · rw [if_neg hr0] at hne
          subst hne
          clear hlo hhi
          go_wp2_with (at_builtin; refine wpList_appT rfl (.tmp 50) (.tmp 60) rfl w.heap.size _ (tks n (S.take k)) (m : Int) (min (max ticks 0) 64) rfl rfl HO.out ?c1 ?c2 ?_)
          case c1 => have := HTL.out; omega
          case c2 => exact HB.out.size
          intro v5 w5 hO5 hg5
          have HO5 := Lib.hid (show TO w5 w.heap.size v5 (tks n (S.take (k + 1))) from by rw [HN.out]; exact hO5)
          have HB5 := Lib.hid (HB.out.grown hg5 HB.out.size (fun k hk => (World.ownsRow.lt HO.out k hk).1))
          clear hO5 hg5 x0 x1 x2
          go_wp2_with fail
          go_roundw
          case rel => exact ⟨k + 1, _, by go_num, rfl, by omega, HO5, HB5⟩
          case measure => simp [intOf]; omega
      · have e10 : (kind == 10) = false := by simp [h10]
        have HO5 := Lib.hid (show TO wr w.heap.size u5 (tks n (S.take (k + 1))) from by rw [HT3.out h10]; exact HO.out)
        clear HT2 HT3 h10
        by_cases hr0 : r < 0
        · rw [if_pos hr0] at hne
          clear hlo hhi
          go_wp2_with fail
          go_roundw
          case rel => exact ⟨k + 1, _, by go_num, rfl, by omega, HO5, HB⟩
          case measure => simp [intOf]; omega
        · clear hne hlo hhi
          go_wp2_with fail
          go_roundw
          case rel => exact ⟨k + 1, _, by go_num, rfl, by omega, HO5, HB⟩
          case measure => simp [intOf]; omega
    · have hi1 : ¬ (k : Int) < (S.length : Int) := by omega
      have HO2 := Lib.hid (show TO wr w.heap.size u5 (tks n S) from by have := HO.out; rwa [List.take_of_length_le (show S.length ≤ k by omega)] at this)
      have HTL2 := Lib.hid (show (tks n S).length ≤ 60 from by have := tks_len n S; omega)
      have HTK := Lib.hid (tks_ok n h1 h5 S)
      obtain ⟨ao, co, rfl⟩ := HO2.out.form
      clear HO HTL
      go_wp2_with fail
      go_loopg [8, 9] n (fun gh s8 i wx => ∃ (a : Nat) (W : Bool), i = .int .i64 a ∧ s8 = .bool W ∧ a ≤ n ∧ wx = wr ∧ Hid (gh = n - a) ∧ Hid (WN (RT.of (tks n S)) n a 0 W))
      case atStart => exact ⟨0, true, rfl, rfl, Nat.zero_le _, rfl, Lib.hid rfl, Lib.hid (.inl ⟨rfl, fun x hx => absurd hx (by omega), fun y hy => absurd hy (by omega)⟩)⟩
      case round =>
        obtain ⟨a, W, rfl, rfl, ha, rfl, HG, HW⟩ := hrel
        by_cases hlta : a < n
        · have hi2 : (a : Int) < (n : Int) := by omega
          go_wp2_with fail
          go_loopg [8, 10] n (fun gh s8 i wx => ∃ (b : Nat) (W : Bool), i = .int .i64 b ∧ s8 = .bool W ∧ b ≤ n ∧ wx = wr ∧ Hid (gh = n - b) ∧ Hid (WN (RT.of (tks n S)) n a b W))
          case atStart => exact ⟨0, W, rfl, rfl, Nat.zero_le _, rfl, Lib.hid rfl, HW⟩
          case round =>
            obtain ⟨b, W2, rfl, rfl, hb, rfl, HG2, HW2⟩ := hrel
            clear HW
            by_cases hltb : b < n
            · have hi3 : (b : Int) < (n : Int) := by omega
              rcases HW2.out with ⟨rfl, hall, hrow⟩ | ⟨rfl, hno⟩
              · have CA := Lib.hid (refahead_any _ _ a b (by omega) (by omega) HTL2.out HTK.out _ HO2.out.in_)
                have HA := Lib.hid hall
                have HRW := Lib.hid hrow
                clear hall hrow
                have HY := Lib.hid (fun (hv : (RT.of (tks n S)).most a b ≤ 4) => (show WN (RT.of (tks n S)) n a (b + 1) true from .inl ⟨rfl, HA.out, fun y hy => by
                  by_cases h3 : y < b
                  · exact HRW.out y h3
                  · have : y = b := by omega
                    subst this; exact hv⟩))
                have HN := Lib.hid (fun (hv : ¬ (RT.of (tks n S)).most a b ≤ 4) => (show WN (RT.of (tks n S)) n a (b + 1) false from .inr ⟨rfl, wth_no hlta hltb hv⟩))
                generalize (RT.of (tks n S)).most a b = mo at *
                go_wp2_with fail
                refine CA.out.mono ?_; rintro e w5 ⟨rfl, rfl⟩
                by_cases hv : mo ≤ 4
                · have HW3 := Lib.hid (HY.out hv)
                  clear HY HN CA
                  go_wp2_with fail
                  go_roundg (n - (b + 1))
                  case measure => have := HG2.out; omega
                  case rel => exact ⟨b + 1, true, by go_num, rfl, by omega, by first | rfl | trivial, by first | rfl | (exact Lib.hid rfl), HW3⟩
                · have hd : decide (mo ≤ 4) = false := decide_eq_false hv
                  have HW3 := Lib.hid (HN.out (by omega))
                  clear HY HN CA
                  go_wp2_with fail
                  go_roundg (n - (b + 1))
                  case measure => have := HG2.out; omega
                  case rel => exact ⟨b + 1, false, by go_num, rfl, by omega, by first | rfl | trivial, by first | rfl | (exact Lib.hid rfl), HW3⟩
              · have HW3 := Lib.hid (show WN (RT.of (tks n S)) n a (b + 1) false from .inr ⟨rfl, hno⟩)
                clear hno
                go_wp2_with fail
                go_roundg (n - (b + 1))
                case measure => have := HG2.out; omega
                case rel => exact ⟨b + 1, false, by go_num, rfl, by omega, by first | rfl | trivial, by first | rfl | (exact Lib.hid rfl), HW3⟩
            · have hi3 : ¬ (b : Int) < (n : Int) := by omega
              have HW3 := Lib.hid (show WN (RT.of (tks n S)) n (a + 1) 0 W2 from by
                rcases HW2.out with ⟨hW, hall, hrow⟩ | ⟨hW, hno⟩
                · refine .inl ⟨hW, fun x hx y hy => ?_, fun y hy => absurd hy (by omega)⟩
                  by_cases h3 : x < a
                  · exact hall x h3 y hy
                  · have : x = a := by omega
                    subst this; exact hrow y (by omega)
                · exact .inr ⟨hW, hno⟩)
              go_wp2_with fail
              go_roundg (n - (a + 1))
              case measure => have := HG.out; omega
              case rel => exact ⟨a + 1, W2, by go_num, rfl, by omega, by first | rfl | trivial, by first | rfl | (exact Lib.hid rfl), HW3⟩
        · have hi2 : ¬ (a : Int) < (n : Int) := by omega
          have HWF : wth (RT.of (tks n S)) 4 n = W := by
            rcases HW.out with ⟨hW, hall, _⟩ | ⟨hW, hno⟩
            · rw [hW]; exact wth_yes (fun x hx y hy => hall x (by omega) y hy)
            · rw [hW, hno]
          have CS := Lib.hid (steady_some n h1 H5.out _ S hl _ (HR.out.next HB.out))
          rw [HWF] at CS
          clear HWF HW
          have hWW : (W == W) = true := by simp
          go_wp2_with fail
          refine CS.out.mono ?_; rintro e w5 ⟨rfl, hb5⟩
          have HB5 := Lib.hid (bnext HB.out hb5)
          clear hb5 CS
          go_wp2_with fail
          refine (alive41_any _).mono ?_; rintro e w6 ⟨rfl, hb6⟩
          go_wp2_with fail
          go_ret
          exact ⟨rfl, bnext HB5.out hb6⟩
theorem skewlaw (n : Int) (v : Value) (w : World) (h : ∃ S : List Sp, SpI w v S ∧ S.length ≤ maxLen) :
    Calls Try.prog 9 #[.int .i64 n, v] w fun e w' => e = .returned (.bool true) ∧ Below w.heap.size w w' := by
  obtain ⟨S, h, hm⟩ := h
  unfold maxLen at hm
  by_cases hl : S.length ≤ 60
  · rcases (show (1 ≤ n ∧ n ≤ 5) ∨ n < 1 ∨ (¬ n < 1 ∧ 5 < n) from by omega) with ⟨h1, h5⟩ | h1 | ⟨h1, h5⟩
    · obtain ⟨m, rfl⟩ : ∃ m : Nat, n = m := ⟨n.toNat, by omega⟩
      exact skew_some m (by omega) (by omega) v S hl w h
    · have CS := Lib.hid (steady_none n (.inl h1) v w)
      obtain ⟨a, cap, rfl⟩ := h.form
      have n0 : ¬ ((60 : Int) < (S.length : Int)) := by omega
      go_enter Try.func9, Try.ntmps9
      go_wp2_with fail
      refine CS.out.mono ?_; rintro e w5 ⟨rfl, rfl⟩
      go_wp2_with fail
      refine (alive41_any _).mono ?_; rintro e w6 ⟨rfl, hb6⟩
      go_wp2_with fail
      go_ret
      exact ⟨rfl, hb6⟩
    · have CS := Lib.hid (steady_none n (.inr h5) v w)
      obtain ⟨a, cap, rfl⟩ := h.form
      have n0 : ¬ ((60 : Int) < (S.length : Int)) := by omega
      go_enter Try.func9, Try.ntmps9
      go_wp2_with fail
      refine CS.out.mono ?_; rintro e w5 ⟨rfl, rfl⟩
      go_wp2_with fail
      refine (alive41_any _).mono ?_; rintro e w6 ⟨rfl, hb6⟩
      go_wp2_with fail
      go_ret
      exact ⟨rfl, hb6⟩
  · obtain ⟨a, cap, rfl⟩ := h.form
    generalize S.length = q at *
    have n0 : (60 : Int) < (q : Int) := by omega
    go_enter Try.func9, Try.ntmps9
    go_wp2_with fail
    go_ret
    exact ⟨rfl, Below.refl _ _⟩
end Go.Proofs.Ytkkhljneeajkmaa
