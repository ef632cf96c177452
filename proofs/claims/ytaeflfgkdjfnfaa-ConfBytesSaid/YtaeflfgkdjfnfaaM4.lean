/- Layer 21 (conf): the law's bytes. -/
import Derived.Test.YtaeflfgkdjfnfaaM3
namespace Go.Proofs.Ytaeflfgkdjfnfaa
open Go.RowKit

theorem own_neC {w : World} {B : Nat} {v : Value} {l : List UInt8} {g : Nat} (h : BO w B v l) (hg : g < B) : v.ownBlock ≠ some g := fun e => by have := (h.lt g e).1; omega
/-- What the row of bytes is part of: the row, the configuration, old memory. -/
theorem CS.app {w X W : World} {v v' : Value} {L r : List UInt8} {cs : Array Value} (hS : BO X (w.heap.size + 1) v L ∧ Bx X w.heap.size 39 cs ∧ Below w.heap.size w X) (hO : BO W (w.heap.size + 1) v' (L ++ r)) (hg : X.grownBy W v.ownBlock) : BO W (w.heap.size + 1) v' (L ++ r) ∧ Bx W w.heap.size 39 cs ∧ Below w.heap.size w W := by
  have hn := own_neC hS.1 (Nat.lt_succ_self _)
  refine ⟨hO, ?_, hS.2.2.grown hg hS.2.2.size (fun j hj => Nat.le_of_succ_le (hS.1.lt j hj).1)⟩
  have h1 := hS.2.1
  have h2 := h1.inside
  unfold Bx at h1 ⊢
  rw [hg.block w.heap.size h2 (fun e => hn e.symm)]
  exact h1
theorem wpList_appD {w X : World} {ops : Array Oper} {rest : List Oper} {o : Oper} {a : Act} {Q : Exit → Act → World → Prop} (hgd : o.guard = none) (s x : Operand)
    (ho : o.op = .call { callee := .builtin .append, args := #[s, x], argTypes := #[78, 78] })
    (v vx : Value) (L r : List UInt8) {cs : Array Value} (hs : a.eval s = v) (hx : a.eval x = vx) (hS : BO X (w.heap.size + 1) v L ∧ Bx X w.heap.size 39 cs ∧ Below w.heap.size w X) (hr : BS X vx r) (hm : L.length + r.length ≤ 100000)
    (h : ∀ v' w', Hid (BO w' (w.heap.size + 1) v' (L ++ r) ∧ Bx w' w.heap.size 39 cs ∧ Below w.heap.size w w') → wpList Try.prog ops Q rest (a.put o.dst v') w') : wpList Try.prog ops Q (o :: rest) a X := by
  refine wpList_append_bs hgd s x ho (w.heap.size + 1) v vx L r hs hx hS.1 hr hm hS.2.1.inside ?_
  intro v' w' hO hg
  exact h v' w' (Lib.hid (CS.app hS hO hg))
theorem wpList_appC {w X : World} {ops : Array Oper} {rest : List Oper} {o : Oper} {a : Act} {Q : Exit → Act → World → Prop} (hgd : o.guard = none) (s x : Operand)
    (ho : o.op = .call { callee := .builtin .append, args := #[s, x], argTypes := #[78, 78] })
    (v : Value) (L : List UInt8) (b : UInt8) (z : Int) {cs : Array Value} (hz : z = (b.toNat : Int)) (hs : a.eval s = v) (hx : a.eval x = .slice (some ⟨X.heap.size, 0, none⟩) 1 1) (hS : BO X (w.heap.size + 1) v L ∧ Bx X w.heap.size 39 cs ∧ Below w.heap.size w X) (hm : L.length ≤ 10000)
    (h : ∀ v' w', Hid (BO w' (w.heap.size + 1) v' (L ++ [b]) ∧ Bx w' w.heap.size 39 cs ∧ Below w.heap.size w w') → wpList Try.prog ops Q rest (a.put o.dst v') w') : wpList Try.prog ops Q (o :: rest) a (X.alloc (.cells #[.int .u8 z] 5)) := by
  subst hz
  have hl : BS (X.alloc (.cells #[.int .u8 (b.toNat : Int)] 5)) (.slice (some ⟨X.heap.size, 0, none⟩) 1 1) [b] := BO.bs (B := X.heap.size) (World.ownsRow_lit X #[.int .u8 (b.toNat : Int)] 1 (Nat.le_refl _) (by decide) rfl)
  exact wpList_appD hgd s x ho v _ L [b] hs hx ⟨hS.1.alloc _, hS.2.1.past _, hS.2.2.alloc hS.2.2.size _⟩ hl (by simp; omega) h
set_option maxRecDepth 100000 in
set_option maxHeartbeats 16000000 in
theorem law_bytes (c : Cf) (hr : c.right = true) (w : World) : Calls Try.prog 37 #[.agg c.cells] w fun e w' => ∃ v, e = .returned v ∧ BS w' v (cB c) ∧ Below w.heap.size w w' := by
  obtain ⟨r1, r2⟩ := right_bd hr
  have hb : Below w.heap.size w (w.alloc (.cells c.cells 39)) := (Below.refl _ _).alloc (Nat.le_refl _) _
  have hx := Bx.fresh w 39 c.cells
  have CP0 := Lib.hid (refput_any c.e (by omega) (w.alloc (.cells c.cells 39)))
  have HB := Lib.hid (And.intro hb hx)
  have HLN := Lib.hid (cT_len c)
  have HF : Hid (cB c = cT c 5) := Lib.hid rfl
  have H0 : Hid (put c.e.toNat = cT c 0) := Lib.hid (by simp [cT, cN, pall])
  have HT0 : Hid (cT c 0 ++ [UInt8.ofNat (ob c.o0)] ++ put c.j0.toNat = cT c 1) := Lib.hid (by have h1 : [UInt8.ofNat (ob c.o0)] = put (ob c.o0) := (by cases c.o0 <;> decide); rw [h1]; simp [cT, cN, pall])
  have HJ0 := Lib.hid (r2 c.j0 (by simp [Cf.joins]))
  have HT1 : Hid (cT c 1 ++ [UInt8.ofNat (ob c.o1)] ++ put c.j1.toNat = cT c 2) := Lib.hid (by have h1 : [UInt8.ofNat (ob c.o1)] = put (ob c.o1) := (by cases c.o1 <;> decide); rw [h1]; simp [cT, cN, pall])
  have HJ1 := Lib.hid (r2 c.j1 (by simp [Cf.joins]))
  have HT2 : Hid (cT c 2 ++ [UInt8.ofNat (ob c.o2)] ++ put c.j2.toNat = cT c 3) := Lib.hid (by have h1 : [UInt8.ofNat (ob c.o2)] = put (ob c.o2) := (by cases c.o2 <;> decide); rw [h1]; simp [cT, cN, pall])
  have HJ2 := Lib.hid (r2 c.j2 (by simp [Cf.joins]))
  have HT3 : Hid (cT c 3 ++ [UInt8.ofNat (ob c.o3)] ++ put c.j3.toNat = cT c 4) := Lib.hid (by have h1 : [UInt8.ofNat (ob c.o3)] = put (ob c.o3) := (by cases c.o3 <;> decide); rw [h1]; simp [cT, cN, pall])
  have HJ3 := Lib.hid (r2 c.j3 (by simp [Cf.joins]))
  have HT4 : Hid (cT c 4 ++ [UInt8.ofNat (ob c.o4)] ++ put c.j4.toNat = cT c 5) := Lib.hid (by have h1 : [UInt8.ofNat (ob c.o4)] = put (ob c.o4) := (by cases c.o4 <;> decide); rw [h1]; simp [cT, cN, pall])
  have HJ4 := Lib.hid (r2 c.j4 (by simp [Cf.joins]))
  have HE := Lib.hid r1
  clear r1 r2 hb hx
  generalize cT c = T at *
  generalize cB c = CB at *
  obtain ⟨e, o0, o1, o2, o3, o4, j0, j1, j2, j3, j4⟩ := c
  unfold Cf.cells at *
  dsimp only at *
  clear hr
  go_enter Try.func37, Try.ntmps37
  go_wp2_with fail
  refine (CP0.out).mono ?_; rintro _ w1 ⟨v1, rfl, hO1, hb1⟩
  have HS0 := Lib.hid (show BO w1 (w.heap.size + 1) v1 (T 0) ∧ Bx w1 w.heap.size 39 #[.int .i64 e, .bool o0, .bool o1, .bool o2, .bool o3, .bool o4, .int .i64 j0, .int .i64 j1, .int .i64 j2, .int .i64 j3, .int .i64 j4] ∧ Below w.heap.size w w1 from ⟨by rw [← H0.out]; rw [World.size_alloc] at hO1; exact hO1, HB.out.2.next hb1, bnext HB.out.1 hb1⟩)
  clear hO1 hb1 CP0 HB
  go_wp2_with fail
  go_loopw [3, 4] (fun r i wr => ∃ (k : Nat) (v3 : Value), i = .int .i64 k ∧ v3 = r ∧ k ≤ 5 ∧ Hid (BO wr (w.heap.size + 1) v3 (T k) ∧ Bx wr w.heap.size 39 #[.int .i64 e, .bool o0, .bool o1, .bool o2, .bool o3, .bool o4, .int .i64 j0, .int .i64 j1, .int .i64 j2, .int .i64 j3, .int .i64 j4] ∧ Below w.heap.size w wr)) (fun _ i _ => 5 - (intOf i).toNat)
  case atStart => exact ⟨0, _, rfl, rfl, by omega, HS0⟩
  case round =>
    clear HS0
    obtain ⟨k, v3, rfl, rfl, hk, HS⟩ := hrel
    rcases (show k = 0 ∨ k = 1 ∨ k = 2 ∨ k = 3 ∨ k = 4 ∨ k = 5 from by omega) with rfl | rfl | rfl | rfl | rfl | rfl
    · have ho := HS.out.2.1.read (i := 1) (v := .bool o0) rfl
      have CPB := Lib.hid (fun W => refput_any j0 (by have := HJ0.out; have := HE.out; omega) W)
      have HLK := Lib.hid (HLN.out 0)
      have HBO : Hid (BO wr w.heap.size v3 (T 0) ∧ Below w.heap.size w wr) := Lib.hid ⟨HS.out.1.base (Nat.le_succ _), HS.out.2.2⟩
      have HNE := Lib.hid (own_neC HS.out.1 (Nat.lt_succ_self _))
      clear hk
      cases o0
      case false =>
        go_wp2_with (at_builtin; refine wpList_appC rfl (.tmp 19) (.tmp 20) rfl v3 (T 0) (UInt8.ofNat (ob false)) 0 rfl rfl rfl HS.out (by have := HLK.out; omega) ?_)
        intro v4 w4 HA
        clear ho
        have hj := HA.out.2.1.read (i := 6) (v := .int .i64 j0) rfl
        go_wp2_with fail
        refine (CPB.out _).mono ?_; rintro _ w5 ⟨v5, rfl, hO5, hb5⟩
        have HB5 := Lib.hid (show BO w5 (w.heap.size + 1) v4 (T 0 ++ [UInt8.ofNat (ob false)]) ∧ Bx w5 w.heap.size 39 #[.int .i64 e, .bool false, .bool o1, .bool o2, .bool o3, .bool o4, .int .i64 j0, .int .i64 j1, .int .i64 j2, .int .i64 j3, .int .i64 j4] ∧ Below w.heap.size w w5 from ⟨HA.out.1.next hb5, HA.out.2.1.next hb5, bnext HA.out.2.2 hb5⟩)
        have HV5 := Lib.hid hO5.bs
        clear hO5 hb5 hj HA
        go_wp2_with (at_builtin; refine wpList_appD rfl (.tmp 22) (.tmp 27) rfl v4 v5 (T 0 ++ [UInt8.ofNat (ob false)]) (put j0.toNat) rfl rfl HB5.out HV5.out (by have := HLK.out; have := put_len j0.toNat; simp; omega) ?_)
        intro v6 w6 HC
        have HC2 : Hid (BO w6 (w.heap.size + 1) v6 (T 1) ∧ Bx w6 w.heap.size 39 #[.int .i64 e, .bool false, .bool o1, .bool o2, .bool o3, .bool o4, .int .i64 j0, .int .i64 j1, .int .i64 j2, .int .i64 j3, .int .i64 j4] ∧ Below w.heap.size w w6) := Lib.hid (by rw [← HT0.out, List.append_assoc]; exact HC.out)
        clear HC HB5 HV5
        go_wp2_with fail
        go_roundw
        case rel => exact ⟨1, _, rfl, rfl, by omega, HC2⟩
        case measure => simp [intOf]
      case true =>
        go_wp2_with (at_builtin; refine wpList_appC rfl (.tmp 16) (.tmp 17) rfl v3 (T 0) (UInt8.ofNat (ob true)) 1 rfl rfl rfl HS.out (by have := HLK.out; omega) ?_)
        intro v4 w4 HA
        clear ho
        have hj := HA.out.2.1.read (i := 6) (v := .int .i64 j0) rfl
        go_wp2_with fail
        refine (CPB.out _).mono ?_; rintro _ w5 ⟨v5, rfl, hO5, hb5⟩
        have HB5 := Lib.hid (show BO w5 (w.heap.size + 1) v4 (T 0 ++ [UInt8.ofNat (ob true)]) ∧ Bx w5 w.heap.size 39 #[.int .i64 e, .bool true, .bool o1, .bool o2, .bool o3, .bool o4, .int .i64 j0, .int .i64 j1, .int .i64 j2, .int .i64 j3, .int .i64 j4] ∧ Below w.heap.size w w5 from ⟨HA.out.1.next hb5, HA.out.2.1.next hb5, bnext HA.out.2.2 hb5⟩)
        have HV5 := Lib.hid hO5.bs
        clear hO5 hb5 hj HA
        go_wp2_with (at_builtin; refine wpList_appD rfl (.tmp 22) (.tmp 27) rfl v4 v5 (T 0 ++ [UInt8.ofNat (ob true)]) (put j0.toNat) rfl rfl HB5.out HV5.out (by have := HLK.out; have := put_len j0.toNat; simp; omega) ?_)
        intro v6 w6 HC
        have HC2 : Hid (BO w6 (w.heap.size + 1) v6 (T 1) ∧ Bx w6 w.heap.size 39 #[.int .i64 e, .bool true, .bool o1, .bool o2, .bool o3, .bool o4, .int .i64 j0, .int .i64 j1, .int .i64 j2, .int .i64 j3, .int .i64 j4] ∧ Below w.heap.size w w6) := Lib.hid (by rw [← HT0.out, List.append_assoc]; exact HC.out)
        clear HC HB5 HV5
        go_wp2_with fail
        go_roundw
        case rel => exact ⟨1, _, rfl, rfl, by omega, HC2⟩
        case measure => simp [intOf]
    · have ho := HS.out.2.1.read (i := 2) (v := .bool o1) rfl
      have CPB := Lib.hid (fun W => refput_any j1 (by have := HJ1.out; have := HE.out; omega) W)
      have HLK := Lib.hid (HLN.out 1)
      have HBO : Hid (BO wr w.heap.size v3 (T 1) ∧ Below w.heap.size w wr) := Lib.hid ⟨HS.out.1.base (Nat.le_succ _), HS.out.2.2⟩
      have HNE := Lib.hid (own_neC HS.out.1 (Nat.lt_succ_self _))
      clear hk
      cases o1
      case false =>
        go_wp2_with (at_builtin; refine wpList_appC rfl (.tmp 19) (.tmp 20) rfl v3 (T 1) (UInt8.ofNat (ob false)) 0 rfl rfl rfl HS.out (by have := HLK.out; omega) ?_)
        intro v4 w4 HA
        clear ho
        have hj := HA.out.2.1.read (i := 7) (v := .int .i64 j1) rfl
        go_wp2_with fail
        refine (CPB.out _).mono ?_; rintro _ w5 ⟨v5, rfl, hO5, hb5⟩
        have HB5 := Lib.hid (show BO w5 (w.heap.size + 1) v4 (T 1 ++ [UInt8.ofNat (ob false)]) ∧ Bx w5 w.heap.size 39 #[.int .i64 e, .bool o0, .bool false, .bool o2, .bool o3, .bool o4, .int .i64 j0, .int .i64 j1, .int .i64 j2, .int .i64 j3, .int .i64 j4] ∧ Below w.heap.size w w5 from ⟨HA.out.1.next hb5, HA.out.2.1.next hb5, bnext HA.out.2.2 hb5⟩)
        have HV5 := Lib.hid hO5.bs
        clear hO5 hb5 hj HA
        go_wp2_with (at_builtin; refine wpList_appD rfl (.tmp 22) (.tmp 27) rfl v4 v5 (T 1 ++ [UInt8.ofNat (ob false)]) (put j1.toNat) rfl rfl HB5.out HV5.out (by have := HLK.out; have := put_len j1.toNat; simp; omega) ?_)
        intro v6 w6 HC
        have HC2 : Hid (BO w6 (w.heap.size + 1) v6 (T 2) ∧ Bx w6 w.heap.size 39 #[.int .i64 e, .bool o0, .bool false, .bool o2, .bool o3, .bool o4, .int .i64 j0, .int .i64 j1, .int .i64 j2, .int .i64 j3, .int .i64 j4] ∧ Below w.heap.size w w6) := Lib.hid (by rw [← HT1.out, List.append_assoc]; exact HC.out)
        clear HC HB5 HV5
        go_wp2_with fail
        go_roundw
        case rel => exact ⟨2, _, rfl, rfl, by omega, HC2⟩
        case measure => simp [intOf]
      case true =>
        go_wp2_with (at_builtin; refine wpList_appC rfl (.tmp 16) (.tmp 17) rfl v3 (T 1) (UInt8.ofNat (ob true)) 1 rfl rfl rfl HS.out (by have := HLK.out; omega) ?_)
        intro v4 w4 HA
        clear ho
        have hj := HA.out.2.1.read (i := 7) (v := .int .i64 j1) rfl
        go_wp2_with fail
        refine (CPB.out _).mono ?_; rintro _ w5 ⟨v5, rfl, hO5, hb5⟩
        have HB5 := Lib.hid (show BO w5 (w.heap.size + 1) v4 (T 1 ++ [UInt8.ofNat (ob true)]) ∧ Bx w5 w.heap.size 39 #[.int .i64 e, .bool o0, .bool true, .bool o2, .bool o3, .bool o4, .int .i64 j0, .int .i64 j1, .int .i64 j2, .int .i64 j3, .int .i64 j4] ∧ Below w.heap.size w w5 from ⟨HA.out.1.next hb5, HA.out.2.1.next hb5, bnext HA.out.2.2 hb5⟩)
        have HV5 := Lib.hid hO5.bs
        clear hO5 hb5 hj HA
        go_wp2_with (at_builtin; refine wpList_appD rfl (.tmp 22) (.tmp 27) rfl v4 v5 (T 1 ++ [UInt8.ofNat (ob true)]) (put j1.toNat) rfl rfl HB5.out HV5.out (by have := HLK.out; have := put_len j1.toNat; simp; omega) ?_)
        intro v6 w6 HC
        have HC2 : Hid (BO w6 (w.heap.size + 1) v6 (T 2) ∧ Bx w6 w.heap.size 39 #[.int .i64 e, .bool o0, .bool true, .bool o2, .bool o3, .bool o4, .int .i64 j0, .int .i64 j1, .int .i64 j2, .int .i64 j3, .int .i64 j4] ∧ Below w.heap.size w w6) := Lib.hid (by rw [← HT1.out, List.append_assoc]; exact HC.out)
        clear HC HB5 HV5
        go_wp2_with fail
        go_roundw
        case rel => exact ⟨2, _, rfl, rfl, by omega, HC2⟩
        case measure => simp [intOf]
    · have ho := HS.out.2.1.read (i := 3) (v := .bool o2) rfl
      have CPB := Lib.hid (fun W => refput_any j2 (by have := HJ2.out; have := HE.out; omega) W)
      have HLK := Lib.hid (HLN.out 2)
      have HBO : Hid (BO wr w.heap.size v3 (T 2) ∧ Below w.heap.size w wr) := Lib.hid ⟨HS.out.1.base (Nat.le_succ _), HS.out.2.2⟩
      have HNE := Lib.hid (own_neC HS.out.1 (Nat.lt_succ_self _))
      clear hk
      cases o2
      case false =>
        go_wp2_with (at_builtin; refine wpList_appC rfl (.tmp 19) (.tmp 20) rfl v3 (T 2) (UInt8.ofNat (ob false)) 0 rfl rfl rfl HS.out (by have := HLK.out; omega) ?_)
        intro v4 w4 HA
        clear ho
        have hj := HA.out.2.1.read (i := 8) (v := .int .i64 j2) rfl
        go_wp2_with fail
        refine (CPB.out _).mono ?_; rintro _ w5 ⟨v5, rfl, hO5, hb5⟩
        have HB5 := Lib.hid (show BO w5 (w.heap.size + 1) v4 (T 2 ++ [UInt8.ofNat (ob false)]) ∧ Bx w5 w.heap.size 39 #[.int .i64 e, .bool o0, .bool o1, .bool false, .bool o3, .bool o4, .int .i64 j0, .int .i64 j1, .int .i64 j2, .int .i64 j3, .int .i64 j4] ∧ Below w.heap.size w w5 from ⟨HA.out.1.next hb5, HA.out.2.1.next hb5, bnext HA.out.2.2 hb5⟩)
        have HV5 := Lib.hid hO5.bs
        clear hO5 hb5 hj HA
        go_wp2_with (at_builtin; refine wpList_appD rfl (.tmp 22) (.tmp 27) rfl v4 v5 (T 2 ++ [UInt8.ofNat (ob false)]) (put j2.toNat) rfl rfl HB5.out HV5.out (by have := HLK.out; have := put_len j2.toNat; simp; omega) ?_)
        intro v6 w6 HC
        have HC2 : Hid (BO w6 (w.heap.size + 1) v6 (T 3) ∧ Bx w6 w.heap.size 39 #[.int .i64 e, .bool o0, .bool o1, .bool false, .bool o3, .bool o4, .int .i64 j0, .int .i64 j1, .int .i64 j2, .int .i64 j3, .int .i64 j4] ∧ Below w.heap.size w w6) := Lib.hid (by rw [← HT2.out, List.append_assoc]; exact HC.out)
        clear HC HB5 HV5
        go_wp2_with fail
        go_roundw
        case rel => exact ⟨3, _, rfl, rfl, by omega, HC2⟩
        case measure => simp [intOf]
      case true =>
        go_wp2_with (at_builtin; refine wpList_appC rfl (.tmp 16) (.tmp 17) rfl v3 (T 2) (UInt8.ofNat (ob true)) 1 rfl rfl rfl HS.out (by have := HLK.out; omega) ?_)
        intro v4 w4 HA
        clear ho
        have hj := HA.out.2.1.read (i := 8) (v := .int .i64 j2) rfl
        go_wp2_with fail
        refine (CPB.out _).mono ?_; rintro _ w5 ⟨v5, rfl, hO5, hb5⟩
        have HB5 := Lib.hid (show BO w5 (w.heap.size + 1) v4 (T 2 ++ [UInt8.ofNat (ob true)]) ∧ Bx w5 w.heap.size 39 #[.int .i64 e, .bool o0, .bool o1, .bool true, .bool o3, .bool o4, .int .i64 j0, .int .i64 j1, .int .i64 j2, .int .i64 j3, .int .i64 j4] ∧ Below w.heap.size w w5 from ⟨HA.out.1.next hb5, HA.out.2.1.next hb5, bnext HA.out.2.2 hb5⟩)
        have HV5 := Lib.hid hO5.bs
        clear hO5 hb5 hj HA
        go_wp2_with (at_builtin; refine wpList_appD rfl (.tmp 22) (.tmp 27) rfl v4 v5 (T 2 ++ [UInt8.ofNat (ob true)]) (put j2.toNat) rfl rfl HB5.out HV5.out (by have := HLK.out; have := put_len j2.toNat; simp; omega) ?_)
        intro v6 w6 HC
        have HC2 : Hid (BO w6 (w.heap.size + 1) v6 (T 3) ∧ Bx w6 w.heap.size 39 #[.int .i64 e, .bool o0, .bool o1, .bool true, .bool o3, .bool o4, .int .i64 j0, .int .i64 j1, .int .i64 j2, .int .i64 j3, .int .i64 j4] ∧ Below w.heap.size w w6) := Lib.hid (by rw [← HT2.out, List.append_assoc]; exact HC.out)
        clear HC HB5 HV5
        go_wp2_with fail
        go_roundw
        case rel => exact ⟨3, _, rfl, rfl, by omega, HC2⟩
        case measure => simp [intOf]
    · have ho := HS.out.2.1.read (i := 4) (v := .bool o3) rfl
      have CPB := Lib.hid (fun W => refput_any j3 (by have := HJ3.out; have := HE.out; omega) W)
      have HLK := Lib.hid (HLN.out 3)
      have HBO : Hid (BO wr w.heap.size v3 (T 3) ∧ Below w.heap.size w wr) := Lib.hid ⟨HS.out.1.base (Nat.le_succ _), HS.out.2.2⟩
      have HNE := Lib.hid (own_neC HS.out.1 (Nat.lt_succ_self _))
      clear hk
      cases o3
      case false =>
        go_wp2_with (at_builtin; refine wpList_appC rfl (.tmp 19) (.tmp 20) rfl v3 (T 3) (UInt8.ofNat (ob false)) 0 rfl rfl rfl HS.out (by have := HLK.out; omega) ?_)
        intro v4 w4 HA
        clear ho
        have hj := HA.out.2.1.read (i := 9) (v := .int .i64 j3) rfl
        go_wp2_with fail
        refine (CPB.out _).mono ?_; rintro _ w5 ⟨v5, rfl, hO5, hb5⟩
        have HB5 := Lib.hid (show BO w5 (w.heap.size + 1) v4 (T 3 ++ [UInt8.ofNat (ob false)]) ∧ Bx w5 w.heap.size 39 #[.int .i64 e, .bool o0, .bool o1, .bool o2, .bool false, .bool o4, .int .i64 j0, .int .i64 j1, .int .i64 j2, .int .i64 j3, .int .i64 j4] ∧ Below w.heap.size w w5 from ⟨HA.out.1.next hb5, HA.out.2.1.next hb5, bnext HA.out.2.2 hb5⟩)
        have HV5 := Lib.hid hO5.bs
        clear hO5 hb5 hj HA
        go_wp2_with (at_builtin; refine wpList_appD rfl (.tmp 22) (.tmp 27) rfl v4 v5 (T 3 ++ [UInt8.ofNat (ob false)]) (put j3.toNat) rfl rfl HB5.out HV5.out (by have := HLK.out; have := put_len j3.toNat; simp; omega) ?_)
        intro v6 w6 HC
        have HC2 : Hid (BO w6 (w.heap.size + 1) v6 (T 4) ∧ Bx w6 w.heap.size 39 #[.int .i64 e, .bool o0, .bool o1, .bool o2, .bool false, .bool o4, .int .i64 j0, .int .i64 j1, .int .i64 j2, .int .i64 j3, .int .i64 j4] ∧ Below w.heap.size w w6) := Lib.hid (by rw [← HT3.out, List.append_assoc]; exact HC.out)
        clear HC HB5 HV5
        go_wp2_with fail
        go_roundw
        case rel => exact ⟨4, _, rfl, rfl, by omega, HC2⟩
        case measure => simp [intOf]
      case true =>
        go_wp2_with (at_builtin; refine wpList_appC rfl (.tmp 16) (.tmp 17) rfl v3 (T 3) (UInt8.ofNat (ob true)) 1 rfl rfl rfl HS.out (by have := HLK.out; omega) ?_)
        intro v4 w4 HA
        clear ho
        have hj := HA.out.2.1.read (i := 9) (v := .int .i64 j3) rfl
        go_wp2_with fail
        refine (CPB.out _).mono ?_; rintro _ w5 ⟨v5, rfl, hO5, hb5⟩
        have HB5 := Lib.hid (show BO w5 (w.heap.size + 1) v4 (T 3 ++ [UInt8.ofNat (ob true)]) ∧ Bx w5 w.heap.size 39 #[.int .i64 e, .bool o0, .bool o1, .bool o2, .bool true, .bool o4, .int .i64 j0, .int .i64 j1, .int .i64 j2, .int .i64 j3, .int .i64 j4] ∧ Below w.heap.size w w5 from ⟨HA.out.1.next hb5, HA.out.2.1.next hb5, bnext HA.out.2.2 hb5⟩)
        have HV5 := Lib.hid hO5.bs
        clear hO5 hb5 hj HA
        go_wp2_with (at_builtin; refine wpList_appD rfl (.tmp 22) (.tmp 27) rfl v4 v5 (T 3 ++ [UInt8.ofNat (ob true)]) (put j3.toNat) rfl rfl HB5.out HV5.out (by have := HLK.out; have := put_len j3.toNat; simp; omega) ?_)
        intro v6 w6 HC
        have HC2 : Hid (BO w6 (w.heap.size + 1) v6 (T 4) ∧ Bx w6 w.heap.size 39 #[.int .i64 e, .bool o0, .bool o1, .bool o2, .bool true, .bool o4, .int .i64 j0, .int .i64 j1, .int .i64 j2, .int .i64 j3, .int .i64 j4] ∧ Below w.heap.size w w6) := Lib.hid (by rw [← HT3.out, List.append_assoc]; exact HC.out)
        clear HC HB5 HV5
        go_wp2_with fail
        go_roundw
        case rel => exact ⟨4, _, rfl, rfl, by omega, HC2⟩
        case measure => simp [intOf]
    · have ho := HS.out.2.1.read (i := 5) (v := .bool o4) rfl
      have CPB := Lib.hid (fun W => refput_any j4 (by have := HJ4.out; have := HE.out; omega) W)
      have HLK := Lib.hid (HLN.out 4)
      have HBO : Hid (BO wr w.heap.size v3 (T 4) ∧ Below w.heap.size w wr) := Lib.hid ⟨HS.out.1.base (Nat.le_succ _), HS.out.2.2⟩
      have HNE := Lib.hid (own_neC HS.out.1 (Nat.lt_succ_self _))
      clear hk
      cases o4
      case false =>
        go_wp2_with (at_builtin; refine wpList_appC rfl (.tmp 19) (.tmp 20) rfl v3 (T 4) (UInt8.ofNat (ob false)) 0 rfl rfl rfl HS.out (by have := HLK.out; omega) ?_)
        intro v4 w4 HA
        clear ho
        have hj := HA.out.2.1.read (i := 10) (v := .int .i64 j4) rfl
        go_wp2_with fail
        refine (CPB.out _).mono ?_; rintro _ w5 ⟨v5, rfl, hO5, hb5⟩
        have HB5 := Lib.hid (show BO w5 (w.heap.size + 1) v4 (T 4 ++ [UInt8.ofNat (ob false)]) ∧ Bx w5 w.heap.size 39 #[.int .i64 e, .bool o0, .bool o1, .bool o2, .bool o3, .bool false, .int .i64 j0, .int .i64 j1, .int .i64 j2, .int .i64 j3, .int .i64 j4] ∧ Below w.heap.size w w5 from ⟨HA.out.1.next hb5, HA.out.2.1.next hb5, bnext HA.out.2.2 hb5⟩)
        have HV5 := Lib.hid hO5.bs
        clear hO5 hb5 hj HA
        go_wp2_with (at_builtin; refine wpList_appD rfl (.tmp 22) (.tmp 27) rfl v4 v5 (T 4 ++ [UInt8.ofNat (ob false)]) (put j4.toNat) rfl rfl HB5.out HV5.out (by have := HLK.out; have := put_len j4.toNat; simp; omega) ?_)
        intro v6 w6 HC
        have HC2 : Hid (BO w6 (w.heap.size + 1) v6 (T 5) ∧ Bx w6 w.heap.size 39 #[.int .i64 e, .bool o0, .bool o1, .bool o2, .bool o3, .bool false, .int .i64 j0, .int .i64 j1, .int .i64 j2, .int .i64 j3, .int .i64 j4] ∧ Below w.heap.size w w6) := Lib.hid (by rw [← HT4.out, List.append_assoc]; exact HC.out)
        clear HC HB5 HV5
        go_wp2_with fail
        go_roundw
        case rel => exact ⟨5, _, rfl, rfl, by omega, HC2⟩
        case measure => simp [intOf]
      case true =>
        go_wp2_with (at_builtin; refine wpList_appC rfl (.tmp 16) (.tmp 17) rfl v3 (T 4) (UInt8.ofNat (ob true)) 1 rfl rfl rfl HS.out (by have := HLK.out; omega) ?_)
        intro v4 w4 HA
        clear ho
        have hj := HA.out.2.1.read (i := 10) (v := .int .i64 j4) rfl
        go_wp2_with fail
        refine (CPB.out _).mono ?_; rintro _ w5 ⟨v5, rfl, hO5, hb5⟩
        have HB5 := Lib.hid (show BO w5 (w.heap.size + 1) v4 (T 4 ++ [UInt8.ofNat (ob true)]) ∧ Bx w5 w.heap.size 39 #[.int .i64 e, .bool o0, .bool o1, .bool o2, .bool o3, .bool true, .int .i64 j0, .int .i64 j1, .int .i64 j2, .int .i64 j3, .int .i64 j4] ∧ Below w.heap.size w w5 from ⟨HA.out.1.next hb5, HA.out.2.1.next hb5, bnext HA.out.2.2 hb5⟩)
        have HV5 := Lib.hid hO5.bs
        clear hO5 hb5 hj HA
        go_wp2_with (at_builtin; refine wpList_appD rfl (.tmp 22) (.tmp 27) rfl v4 v5 (T 4 ++ [UInt8.ofNat (ob true)]) (put j4.toNat) rfl rfl HB5.out HV5.out (by have := HLK.out; have := put_len j4.toNat; simp; omega) ?_)
        intro v6 w6 HC
        have HC2 : Hid (BO w6 (w.heap.size + 1) v6 (T 5) ∧ Bx w6 w.heap.size 39 #[.int .i64 e, .bool o0, .bool o1, .bool o2, .bool o3, .bool true, .int .i64 j0, .int .i64 j1, .int .i64 j2, .int .i64 j3, .int .i64 j4] ∧ Below w.heap.size w w6) := Lib.hid (by rw [← HT4.out, List.append_assoc]; exact HC.out)
        clear HC HB5 HV5
        go_wp2_with fail
        go_roundw
        case rel => exact ⟨5, _, rfl, rfl, by omega, HC2⟩
        case measure => simp [intOf]
    · have HG := Lib.hid (show BS wr v3 CB ∧ Below w.heap.size w wr from ⟨by rw [HF.out]; exact HS.out.1.bs, HS.out.2.2⟩)
      go_wp2_with fail
      go_ret
      exact ⟨_, rfl, HG.out⟩
end Go.Proofs.Ytaeflfgkdjfnfaa
