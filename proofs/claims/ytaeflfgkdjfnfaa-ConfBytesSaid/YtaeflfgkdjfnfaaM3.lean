/- Layer 21 (conf): Put, by the code, and the law's bytes. -/
import Derived.Test.YtaeflfgkdjfnfaaM2
import Derived.Deep.RegionHeld3
namespace Go.Proofs.Ytaeflfgkdjfnfaa
open Go.RowKit

/-- The bytes of a configuration's first nodes. -/
def cT (c : Cf) (k : Nat) : List UInt8 := pall ((cN c).take (1 + 2 * k))
theorem cT_len (c : Cf) (k : Nat) : (cT c k).length ≤ 110 := by
  have := pall_len ((cN c).take (1 + 2 * k))
  have h2 : ((cN c).take (1 + 2 * k)).length ≤ 11 := by rw [List.length_take]; simp [cN]; omega
  unfold cT
  omega
theorem wpList_app1b {w X : World} {ops : Array Oper} {rest : List Oper} {o : Oper} {a : Act} {Q : Exit → Act → World → Prop} (hgd : o.guard = none) (s x : Operand)
    (ho : o.op = .call { callee := .builtin .append, args := #[s, x], argTypes := #[78, 78] })
    (v : Value) (L : List UInt8) (b : UInt8) (z : Int) (hz : z = (b.toNat : Int)) (hs : a.eval s = v) (hx : a.eval x = .slice (some ⟨X.heap.size, 0, none⟩) 1 1) (hS : BO X w.heap.size v L ∧ Below w.heap.size w X) (hm : L.length ≤ 10000)
    (h : ∀ v' w', Hid (BO w' w.heap.size v' (L ++ [b]) ∧ Below w.heap.size w w') → (∀ g t cs, Bx X g t cs → v.ownBlock ≠ some g → Bx w' g t cs) → wpList Try.prog ops Q rest (a.put o.dst v') w') : wpList Try.prog ops Q (o :: rest) a (X.alloc (.cells #[.int .u8 z] 5)) := by
  subst hz
  have hb : Below w.heap.size w (X.alloc (.cells #[.int .u8 (b.toNat : Int)] 5)) := hS.2.alloc hS.2.size _
  have hO : BO (X.alloc (.cells #[.int .u8 (b.toNat : Int)] 5)) w.heap.size v L := hS.1.alloc _
  have hl : BS (X.alloc (.cells #[.int .u8 (b.toNat : Int)] 5)) (.slice (some ⟨X.heap.size, 0, none⟩) 1 1) [b] := BO.bs (B := X.heap.size) (World.ownsRow_lit X #[.int .u8 (b.toNat : Int)] 1 (Nat.le_refl _) (by decide) rfl)
  refine wpList_append_bs hgd s x ho w.heap.size v _ L [b] hs hx hO hl (by simp; omega) hb.size ?_
  intro v' w' hO' hg
  refine h v' w' (Lib.hid ⟨hO', hb.grown hg hb.size (fun j hj => (hO.lt j hj).1)⟩) (fun g t cs hX hn => ?_)
  have h1 := hX.past (.cells #[.int .u8 (b.toNat : Int)] 5)
  have h2 := h1.inside
  unfold Bx at h1 ⊢
  rw [hg.block g h2 (fun e => hn e.symm)]
  exact h1
set_option maxRecDepth 100000 in
set_option maxHeartbeats 16000000 in
theorem cf_put (c : Cf) (hr : c.right = true) (w : World) : Calls Try.prog 35 #[.agg c.cells] w fun e w' => ∃ v, e = .returned v ∧ BS w' v (cB c) ∧ Below w.heap.size w w' := by
  obtain ⟨r1, r2⟩ := right_bd hr
  have hb : Below w.heap.size w (w.alloc (.cells c.cells 39)) := (Below.refl _ _).alloc (Nat.le_refl _) _
  have hx := Bx.fresh w 39 c.cells
  have CP0 := Lib.hid (put_any (.slice none 0 0) [] c.e (by omega) (by simp) _ (BS.nil (w.alloc (.cells c.cells 39))))
  have HB := Lib.hid (And.intro hb hx)
  have HLN := Lib.hid (cT_len c)
  have HF : Hid (cB c = cT c 5) := Lib.hid rfl
  have H0 : Hid (([] : List UInt8) ++ put c.e.toNat = cT c 0) := Lib.hid (by simp [cT, cN, pall])
  have HT0 : Hid (cT c 0 ++ put (ob c.o0) ++ put c.j0.toNat = cT c 1) := Lib.hid (by simp [cT, cN, pall])
  have HJ0 := Lib.hid (r2 c.j0 (by simp [Cf.joins]))
  have HT1 : Hid (cT c 1 ++ put (ob c.o1) ++ put c.j1.toNat = cT c 2) := Lib.hid (by simp [cT, cN, pall])
  have HJ1 := Lib.hid (r2 c.j1 (by simp [Cf.joins]))
  have HT2 : Hid (cT c 2 ++ put (ob c.o2) ++ put c.j2.toNat = cT c 3) := Lib.hid (by simp [cT, cN, pall])
  have HJ2 := Lib.hid (r2 c.j2 (by simp [Cf.joins]))
  have HT3 : Hid (cT c 3 ++ put (ob c.o3) ++ put c.j3.toNat = cT c 4) := Lib.hid (by simp [cT, cN, pall])
  have HJ3 := Lib.hid (r2 c.j3 (by simp [Cf.joins]))
  have HT4 : Hid (cT c 4 ++ put (ob c.o4) ++ put c.j4.toNat = cT c 5) := Lib.hid (by simp [cT, cN, pall])
  have HJ4 := Lib.hid (r2 c.j4 (by simp [Cf.joins]))
  have HE := Lib.hid r1
  clear r1 r2 hb hx
  have HCT := Lib.hid (show ∀ k, cT c k = cT c k from fun _ => rfl)
  generalize cT c = T at *
  generalize cB c = CB at *
  obtain ⟨e, o0, o1, o2, o3, o4, j0, j1, j2, j3, j4⟩ := c
  unfold Cf.cells at *
  dsimp only at *
  clear HCT hr
  go_enter Try.func35, Try.ntmps35
  go_wp2_with fail
  refine (CP0.out).mono ?_; rintro _ w1 ⟨v1, rfl, hO1, hb1⟩
  have HS0 := Lib.hid (show BS w1 v1 (T 0) ∧ Bx w1 w.heap.size 39 #[.int .i64 e, .bool o0, .bool o1, .bool o2, .bool o3, .bool o4, .int .i64 j0, .int .i64 j1, .int .i64 j2, .int .i64 j3, .int .i64 j4] ∧ Below w.heap.size w w1 from ⟨by rw [← H0.out]; exact hO1.bs, HB.out.2.next hb1, bnext HB.out.1 hb1⟩)
  obtain ⟨x0, x1, x2, x3, x4, x5, x6, x7, x8, x9, x10⟩ := (HB.out.2.next hb1).reads11
  clear hO1 hb1 CP0 HB
  go_wp2_with fail
  clear x0 x1 x2 x3 x4 x5 x6 x7 x8 x9 x10
  go_loopw [3, 12] (fun r i wr => ∃ (k : Nat) (v3 : Value), i = .int .i64 k ∧ v3 = r ∧ k ≤ 5 ∧ Hid (BS wr v3 (T k) ∧ Bx wr w.heap.size 39 #[.int .i64 e, .bool o0, .bool o1, .bool o2, .bool o3, .bool o4, .int .i64 j0, .int .i64 j1, .int .i64 j2, .int .i64 j3, .int .i64 j4] ∧ Below w.heap.size w wr)) (fun _ i _ => 5 - (intOf i).toNat)
  case atStart => exact ⟨0, _, rfl, rfl, by omega, HS0⟩
  case round =>
    clear HS0
    obtain ⟨k, v3, rfl, rfl, hk, HS⟩ := hrel
    rcases (show k = 0 ∨ k = 1 ∨ k = 2 ∨ k = 3 ∨ k = 4 ∨ k = 5 from by omega) with rfl | rfl | rfl | rfl | rfl | rfl
    · have hc := HS.out.2.1.read (i := 6) (v := .int .i64 j0) rfl
      have CPA := Lib.hid (fun W (hW : Below wr.heap.size wr W) => put_any v3 (T 0) (ob o0 : Nat) (by have := (ob_le o0).2; omega) (by have := HLN.out 0; omega) W (HS.out.1.next hW))
      have CPB := Lib.hid (fun v W (hv : BS W v (T 0 ++ put (ob o0))) => put_any v (T 0 ++ put (ob o0)) j0 (by have := HJ0.out; have := HE.out; omega) (by have := HLN.out 0; have := put_len (ob o0); rw [List.length_append]; omega) W hv)
      have HB1 := Lib.hid (show wr.drew.cell? ⟨w.heap.size, 6, none⟩ = some (.int .i64 j0) from hc)
      have HDX := Lib.hid (show Bx wr.drew w.heap.size 39 #[.int .i64 e, .bool o0, .bool o1, .bool o2, .bool o3, .bool o4, .int .i64 j0, .int .i64 j1, .int .i64 j2, .int .i64 j3, .int .i64 j4] from HS.out.2.1)
      have HDL := Lib.hid (show Below w.heap.size w wr.drew from HS.out.2.2.drew)
      have HBD := Lib.hid (show Below wr.heap.size wr wr.drew from (Below.refl _ _).drew)
      rw [Int.toNat_natCast] at CPA
      have hix : ∀ W, (Instr.index 36 (.agg #[.bool o0, .bool o1, .bool o2, .bool o3, .bool o4]) (.int .i64 0)).run Try.prog W = .ok (.bool o0) W := fun _ => by kernel_rfl
      clear hk
      cases o0
      case' false => rw [show ((ob false : Nat) : Int) = 0 from rfl] at CPA
      case' true => rw [show ((ob true : Nat) : Int) = 1 from rfl] at CPA
      all_goals
        go_wp2_with fail
        go_region_held3 (fun W => W.cell? ⟨w.heap.size, 6, none⟩ = some (.int .i64 j0))
          (first | assumption | exact HB1.out)
          (first | (go_at_call 106; refine (CPB.out v2 _ HA2.out.1).mono ?_; rintro _ w4 ⟨v4, rfl, hO4, hb4⟩; have HA4 := Lib.hid (And.intro hO4.bs (And.intro (HA2.out.2.1.next hb4) (bnext HA2.out.2.2 hb4))); have s1 := HA4.out.2.1.read (i := 6) (v := .int .i64 j0) rfl; clear hO4 hb4) | (go_at_call 106; refine (CPA.out _ HBD.out).mono ?_; rintro _ w2 ⟨v2, rfl, hO2, hb2⟩; have HA2 := Lib.hid (And.intro hO2.bs (And.intro (HDX.out.next hb2) (bnext HDL.out hb2))); have s0 := HA2.out.2.1.read (i := 6) (v := .int .i64 j0) rfl; clear hO2 hb2) | fail)
        rw [HT0.out] at HA4
        go_wp2_with fail
        go_roundw
        case rel => exact ⟨1, _, rfl, rfl, by omega, HA4⟩
        case measure => simp [intOf]
    · have hc := HS.out.2.1.read (i := 7) (v := .int .i64 j1) rfl
      have CPA := Lib.hid (fun W (hW : Below wr.heap.size wr W) => put_any v3 (T 1) (ob o1 : Nat) (by have := (ob_le o1).2; omega) (by have := HLN.out 1; omega) W (HS.out.1.next hW))
      have CPB := Lib.hid (fun v W (hv : BS W v (T 1 ++ put (ob o1))) => put_any v (T 1 ++ put (ob o1)) j1 (by have := HJ1.out; have := HE.out; omega) (by have := HLN.out 1; have := put_len (ob o1); rw [List.length_append]; omega) W hv)
      have HB1 := Lib.hid (show wr.drew.cell? ⟨w.heap.size, 7, none⟩ = some (.int .i64 j1) from hc)
      have HDX := Lib.hid (show Bx wr.drew w.heap.size 39 #[.int .i64 e, .bool o0, .bool o1, .bool o2, .bool o3, .bool o4, .int .i64 j0, .int .i64 j1, .int .i64 j2, .int .i64 j3, .int .i64 j4] from HS.out.2.1)
      have HDL := Lib.hid (show Below w.heap.size w wr.drew from HS.out.2.2.drew)
      have HBD := Lib.hid (show Below wr.heap.size wr wr.drew from (Below.refl _ _).drew)
      rw [Int.toNat_natCast] at CPA
      have hix : ∀ W, (Instr.index 36 (.agg #[.bool o0, .bool o1, .bool o2, .bool o3, .bool o4]) (.int .i64 1)).run Try.prog W = .ok (.bool o1) W := fun _ => by kernel_rfl
      clear hk
      cases o1
      case' false => rw [show ((ob false : Nat) : Int) = 0 from rfl] at CPA
      case' true => rw [show ((ob true : Nat) : Int) = 1 from rfl] at CPA
      all_goals
        go_wp2_with fail
        go_region_held3 (fun W => W.cell? ⟨w.heap.size, 7, none⟩ = some (.int .i64 j1))
          (first | assumption | exact HB1.out)
          (first | (go_at_call 106; refine (CPB.out v2 _ HA2.out.1).mono ?_; rintro _ w4 ⟨v4, rfl, hO4, hb4⟩; have HA4 := Lib.hid (And.intro hO4.bs (And.intro (HA2.out.2.1.next hb4) (bnext HA2.out.2.2 hb4))); have s1 := HA4.out.2.1.read (i := 7) (v := .int .i64 j1) rfl; clear hO4 hb4) | (go_at_call 106; refine (CPA.out _ HBD.out).mono ?_; rintro _ w2 ⟨v2, rfl, hO2, hb2⟩; have HA2 := Lib.hid (And.intro hO2.bs (And.intro (HDX.out.next hb2) (bnext HDL.out hb2))); have s0 := HA2.out.2.1.read (i := 7) (v := .int .i64 j1) rfl; clear hO2 hb2) | fail)
        rw [HT1.out] at HA4
        go_wp2_with fail
        go_roundw
        case rel => exact ⟨2, _, rfl, rfl, by omega, HA4⟩
        case measure => simp [intOf]
    · have hc := HS.out.2.1.read (i := 8) (v := .int .i64 j2) rfl
      have CPA := Lib.hid (fun W (hW : Below wr.heap.size wr W) => put_any v3 (T 2) (ob o2 : Nat) (by have := (ob_le o2).2; omega) (by have := HLN.out 2; omega) W (HS.out.1.next hW))
      have CPB := Lib.hid (fun v W (hv : BS W v (T 2 ++ put (ob o2))) => put_any v (T 2 ++ put (ob o2)) j2 (by have := HJ2.out; have := HE.out; omega) (by have := HLN.out 2; have := put_len (ob o2); rw [List.length_append]; omega) W hv)
      have HB1 := Lib.hid (show wr.drew.cell? ⟨w.heap.size, 8, none⟩ = some (.int .i64 j2) from hc)
      have HDX := Lib.hid (show Bx wr.drew w.heap.size 39 #[.int .i64 e, .bool o0, .bool o1, .bool o2, .bool o3, .bool o4, .int .i64 j0, .int .i64 j1, .int .i64 j2, .int .i64 j3, .int .i64 j4] from HS.out.2.1)
      have HDL := Lib.hid (show Below w.heap.size w wr.drew from HS.out.2.2.drew)
      have HBD := Lib.hid (show Below wr.heap.size wr wr.drew from (Below.refl _ _).drew)
      rw [Int.toNat_natCast] at CPA
      have hix : ∀ W, (Instr.index 36 (.agg #[.bool o0, .bool o1, .bool o2, .bool o3, .bool o4]) (.int .i64 2)).run Try.prog W = .ok (.bool o2) W := fun _ => by kernel_rfl
      clear hk
      cases o2
      case' false => rw [show ((ob false : Nat) : Int) = 0 from rfl] at CPA
      case' true => rw [show ((ob true : Nat) : Int) = 1 from rfl] at CPA
      all_goals
        go_wp2_with fail
        go_region_held3 (fun W => W.cell? ⟨w.heap.size, 8, none⟩ = some (.int .i64 j2))
          (first | assumption | exact HB1.out)
          (first | (go_at_call 106; refine (CPB.out v2 _ HA2.out.1).mono ?_; rintro _ w4 ⟨v4, rfl, hO4, hb4⟩; have HA4 := Lib.hid (And.intro hO4.bs (And.intro (HA2.out.2.1.next hb4) (bnext HA2.out.2.2 hb4))); have s1 := HA4.out.2.1.read (i := 8) (v := .int .i64 j2) rfl; clear hO4 hb4) | (go_at_call 106; refine (CPA.out _ HBD.out).mono ?_; rintro _ w2 ⟨v2, rfl, hO2, hb2⟩; have HA2 := Lib.hid (And.intro hO2.bs (And.intro (HDX.out.next hb2) (bnext HDL.out hb2))); have s0 := HA2.out.2.1.read (i := 8) (v := .int .i64 j2) rfl; clear hO2 hb2) | fail)
        rw [HT2.out] at HA4
        go_wp2_with fail
        go_roundw
        case rel => exact ⟨3, _, rfl, rfl, by omega, HA4⟩
        case measure => simp [intOf]
    · have hc := HS.out.2.1.read (i := 9) (v := .int .i64 j3) rfl
      have CPA := Lib.hid (fun W (hW : Below wr.heap.size wr W) => put_any v3 (T 3) (ob o3 : Nat) (by have := (ob_le o3).2; omega) (by have := HLN.out 3; omega) W (HS.out.1.next hW))
      have CPB := Lib.hid (fun v W (hv : BS W v (T 3 ++ put (ob o3))) => put_any v (T 3 ++ put (ob o3)) j3 (by have := HJ3.out; have := HE.out; omega) (by have := HLN.out 3; have := put_len (ob o3); rw [List.length_append]; omega) W hv)
      have HB1 := Lib.hid (show wr.drew.cell? ⟨w.heap.size, 9, none⟩ = some (.int .i64 j3) from hc)
      have HDX := Lib.hid (show Bx wr.drew w.heap.size 39 #[.int .i64 e, .bool o0, .bool o1, .bool o2, .bool o3, .bool o4, .int .i64 j0, .int .i64 j1, .int .i64 j2, .int .i64 j3, .int .i64 j4] from HS.out.2.1)
      have HDL := Lib.hid (show Below w.heap.size w wr.drew from HS.out.2.2.drew)
      have HBD := Lib.hid (show Below wr.heap.size wr wr.drew from (Below.refl _ _).drew)
      rw [Int.toNat_natCast] at CPA
      have hix : ∀ W, (Instr.index 36 (.agg #[.bool o0, .bool o1, .bool o2, .bool o3, .bool o4]) (.int .i64 3)).run Try.prog W = .ok (.bool o3) W := fun _ => by kernel_rfl
      clear hk
      cases o3
      case' false => rw [show ((ob false : Nat) : Int) = 0 from rfl] at CPA
      case' true => rw [show ((ob true : Nat) : Int) = 1 from rfl] at CPA
      all_goals
        go_wp2_with fail
        go_region_held3 (fun W => W.cell? ⟨w.heap.size, 9, none⟩ = some (.int .i64 j3))
          (first | assumption | exact HB1.out)
          (first | (go_at_call 106; refine (CPB.out v2 _ HA2.out.1).mono ?_; rintro _ w4 ⟨v4, rfl, hO4, hb4⟩; have HA4 := Lib.hid (And.intro hO4.bs (And.intro (HA2.out.2.1.next hb4) (bnext HA2.out.2.2 hb4))); have s1 := HA4.out.2.1.read (i := 9) (v := .int .i64 j3) rfl; clear hO4 hb4) | (go_at_call 106; refine (CPA.out _ HBD.out).mono ?_; rintro _ w2 ⟨v2, rfl, hO2, hb2⟩; have HA2 := Lib.hid (And.intro hO2.bs (And.intro (HDX.out.next hb2) (bnext HDL.out hb2))); have s0 := HA2.out.2.1.read (i := 9) (v := .int .i64 j3) rfl; clear hO2 hb2) | fail)
        rw [HT3.out] at HA4
        go_wp2_with fail
        go_roundw
        case rel => exact ⟨4, _, rfl, rfl, by omega, HA4⟩
        case measure => simp [intOf]
    · have hc := HS.out.2.1.read (i := 10) (v := .int .i64 j4) rfl
      have CPA := Lib.hid (fun W (hW : Below wr.heap.size wr W) => put_any v3 (T 4) (ob o4 : Nat) (by have := (ob_le o4).2; omega) (by have := HLN.out 4; omega) W (HS.out.1.next hW))
      have CPB := Lib.hid (fun v W (hv : BS W v (T 4 ++ put (ob o4))) => put_any v (T 4 ++ put (ob o4)) j4 (by have := HJ4.out; have := HE.out; omega) (by have := HLN.out 4; have := put_len (ob o4); rw [List.length_append]; omega) W hv)
      have HB1 := Lib.hid (show wr.drew.cell? ⟨w.heap.size, 10, none⟩ = some (.int .i64 j4) from hc)
      have HDX := Lib.hid (show Bx wr.drew w.heap.size 39 #[.int .i64 e, .bool o0, .bool o1, .bool o2, .bool o3, .bool o4, .int .i64 j0, .int .i64 j1, .int .i64 j2, .int .i64 j3, .int .i64 j4] from HS.out.2.1)
      have HDL := Lib.hid (show Below w.heap.size w wr.drew from HS.out.2.2.drew)
      have HBD := Lib.hid (show Below wr.heap.size wr wr.drew from (Below.refl _ _).drew)
      rw [Int.toNat_natCast] at CPA
      have hix : ∀ W, (Instr.index 36 (.agg #[.bool o0, .bool o1, .bool o2, .bool o3, .bool o4]) (.int .i64 4)).run Try.prog W = .ok (.bool o4) W := fun _ => by kernel_rfl
      clear hk
      cases o4
      case' false => rw [show ((ob false : Nat) : Int) = 0 from rfl] at CPA
      case' true => rw [show ((ob true : Nat) : Int) = 1 from rfl] at CPA
      all_goals
        go_wp2_with fail
        go_region_held3 (fun W => W.cell? ⟨w.heap.size, 10, none⟩ = some (.int .i64 j4))
          (first | assumption | exact HB1.out)
          (first | (go_at_call 106; refine (CPB.out v2 _ HA2.out.1).mono ?_; rintro _ w4 ⟨v4, rfl, hO4, hb4⟩; have HA4 := Lib.hid (And.intro hO4.bs (And.intro (HA2.out.2.1.next hb4) (bnext HA2.out.2.2 hb4))); have s1 := HA4.out.2.1.read (i := 10) (v := .int .i64 j4) rfl; clear hO4 hb4) | (go_at_call 106; refine (CPA.out _ HBD.out).mono ?_; rintro _ w2 ⟨v2, rfl, hO2, hb2⟩; have HA2 := Lib.hid (And.intro hO2.bs (And.intro (HDX.out.next hb2) (bnext HDL.out hb2))); have s0 := HA2.out.2.1.read (i := 10) (v := .int .i64 j4) rfl; clear hO2 hb2) | fail)
        rw [HT4.out] at HA4
        go_wp2_with fail
        go_roundw
        case rel => exact ⟨5, _, rfl, rfl, by omega, HA4⟩
        case measure => simp [intOf]
    · have HG := Lib.hid (show BS wr v3 CB ∧ Below w.heap.size w wr from ⟨by rw [HF.out]; exact HS.out.1, HS.out.2.2⟩)
      go_wp2_with fail
      go_ret
      exact ⟨_, rfl, HG.out⟩
end Go.Proofs.Ytaeflfgkdjfnfaa
