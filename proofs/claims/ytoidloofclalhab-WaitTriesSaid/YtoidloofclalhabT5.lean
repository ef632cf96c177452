/- Layer 48 (wait): the iterator that All hands out: its contract, at the wide fence. -/
import Derived.Test.YtoidloofclalhabT4
import Derived.RangeFuncNested
import Derived.RangeFuncBound
import Derived.RangeFuncCalls
import Derived.RangeFuncLeaves
import Derived.Shelf.Abstract
import Derived.Shelf.RegionOpen
import Derived.OwnWalkIn
import Derived.TacticsInMore
import Derived.LoopNIn
import Derived.LoopIn
namespace Go.Proofs.Ytoidloofclalhab
open Go.RowKit
attribute [local go_sem] Oper.semAt_some

/-- The tick of a try, from a tick on. -/
def atI (F M s tick : Int) : Nat → Int
  | 0 => tick
  | k + 1 => atI F M s tick k + ofI F M s k
theorem atI_ge (F M s tick : Int) (h : 0 ≤ tick) : ∀ k : Nat, (k : Int) ≤ atI F M s tick k
  | 0 => h
  | k + 1 => by
    have h1 := atI_ge F M s tick h k
    have h2 := ofI_bd F M s k
    show ((k + 1 : Nat) : Int) ≤ atI F M s tick k + ofI F M s k
    omega
theorem ofI_max (F M s t : Int) : ofI F M s t ≤ 1073741824 := by
  have h1 := ofI_bd F M s t
  have h2 := bdI_bd F M t
  omega
/-- A try that is gone through: its tick is a tick. -/
abbrev Pt (F M s tick : Int) := { k : Nat // k ≤ 1099511627776 ∧ 0 ≤ atI F M s tick k ∧ atI F M s tick k ≤ 1099511627776 }
def encPt (F M s tick : Int) (x : Pt F M s tick) : Array Value := #[.int .i64 (x.1 : Int), .int .i64 (atI F M s tick x.1)]
/-- What three boxes hold they hold. -/
def KB (B : Nat) (W W' : World) : Prop := W.heap.size ≤ W'.heap.size ∧ ∀ (k : Nat) (cs : Array Value) (t : TypeId) (fr : Nat × Nat), B ≤ k → k < B + 3 → W.heap[k]? = some (.cells cs t fr) → W'.heap[k]? = some (.cells cs t fr)
theorem KB.refl (B : Nat) (W : World) : KB B W W := ⟨Nat.le_refl _, fun _ _ _ _ _ _ h => h⟩
theorem KB.trans {B : Nat} {X Y Z : World} (h : KB B X Y) (k : KB B Y Z) : KB B X Z := ⟨Nat.le_trans h.1 k.1, fun i cs t fr hi hj hc => k.2 i cs t fr hi hj (h.2 i cs t fr hi hj hc)⟩
theorem KB.of_below {B : Nat} {X Y : World} (h : Below X.heap.size X Y) : KB B X Y := ⟨h.size, fun i cs t fr _ _ hc => by rw [h.block i (Array.getElem?_eq_some_iff.1 hc).1]; exact hc⟩
theorem Bx.kb {B g : Nat} {W W' : World} {t : TypeId} {cs : Array Value} (h : Bx W g t cs) (hk : KB B W W') (h1 : B ≤ g) (h2 : g < B + 3) : Bx W' g t cs := hk.2 g cs t (0, 0) h1 h2 h
/-- A row of tries from 0 on. -/
def ptsTo (F M s tick : Int) (T : List (Pt F M s tick)) : Prop := T.map (·.1) = List.range T.length
set_option maxRecDepth 100000 in
set_option maxHeartbeats 4000000 in
theorem all1_in (n : Nat) (hn : 1 ≤ n) (F M s tick stop : Int) (hs : 0 ≤ s ∧ s < 4294967296) (ht : 0 ≤ tick ∧ tick ≤ 1099511627776) (he : 0 ≤ stop ∧ stop ≤ 1099511627776) (l B m : Nat) (hm : 2199023255552 ≤ m) (J Jx : List (Pt F M s tick) → World → Prop) (W : World)
    (hJ : AbidesFrom W.heap.size J)
    (hY : ∀ pre (x : Pt F M s tick) W1, J pre W1 → pre.length < m → YieldAt Fence.wide (n - 1) Try.prog l (encPt F M s tick x) W1 fun e W' =>
      (e = .returned (.bool true) ∧ J (pre ++ [x]) W' ∧ KB B W1 W') ∨ (e = .returned (.bool false) ∧ Jx (pre ++ [x]) W'))
    (hB0 : Bx W B 66 #[.int .i64 F, .int .i64 M, .int .u32 s]) (hB1 : Bx W (B + 1) 3 #[.int .i64 tick]) (hB2 : Bx W (B + 2) 3 #[.int .i64 stop]) (h0 : J [] W) :
    CallsIn Fence.wide n Try.prog 61 #[.func (.yield l) #[] #[], .pointer (some ⟨B + 1, 0, none⟩), .pointer (some ⟨B + 2, 0, none⟩), .pointer (some ⟨B, 0, none⟩)] W fun e W' => (∃ v, e = .returned v) ∧
      ((∃ ys : List (Pt F M s tick), (ptsTo F M s tick ys ∧ stop ≤ atI F M s tick ys.length ∧ ∀ k < ys.length, atI F M s tick k < stop) ∧ J ys W') ∨ (∃ pre : List (Pt F M s tick), (ptsTo F M s tick pre ∧ ∀ k < pre.length, atI F M s tick k < stop) ∧ Jx pre W')) := by
  have CO := Lib.hid (fun (k : Nat) W => of_any F M s (k : Int) hs W)
  have t0 := hB1.read (i := 0) rfl
  have HBX := Lib.hid (And.intro hB0 hB2)
  clear hB0 hB1 hB2 hs
  obtain ⟨ht0, ht1⟩ := ht
  obtain ⟨he0, he1⟩ := he
  refine callsIn_of_wp Try.func61 rfl trivial ?_ rfl
  simp only [Try.ntmps61, List.size_toArray, List.length_cons, List.length_nil, Nat.reduceAdd, Nat.reduceSub, Array.replicate_succ, Array.replicate_zero, List.push_toArray, List.append_toArray, List.nil_append, List.cons_append]
  gi_wp2
  gi_loopw [5, 6] (fun a5 a6 wr => ∃ (T : List (Pt F M s tick)) (z : Int), a6 = .int .i64 (T.length : Nat) ∧ a5 = .int .i64 z ∧ 0 ≤ z ∧ z ≤ 2199023255552 ∧ Hid (z = atI F M s tick T.length) ∧ J T wr ∧ Hid (KB B W wr ∧ ptsTo F M s tick T ∧ ∀ k < T.length, atI F M s tick k < stop)) (fun a5 _ _ => (stop - intOf a5).toNat)
  case atStart => exact ⟨[], tick, rfl, rfl, ht0, by omega, Lib.hid rfl, h0, Lib.hid ⟨KB.refl _ _, rfl, fun k hk => by simp at hk⟩⟩
  case round =>
    obtain ⟨T, z, rfl, rfl, hz0, hz1, HZ, hJT, HK⟩ := hrel
    have b2 := HBX.out.2.kb HK.out.1 (by omega) (by omega)
    have e0 := b2.read (i := 0) rfl
    have b0 := HBX.out.1.kb HK.out.1 (by omega) (by omega)
    have B0 := Lib.hid b0
    clear h0 t0 b2 b0
    by_cases hlt : z < stop
    · have hge := atI_ge F M s tick ht0 T.length
      have hzT : (T.length : Int) ≤ z := by rw [HZ.out]; exact hge
      have hpx : T.length ≤ 1099511627776 ∧ 0 ≤ atI F M s tick T.length ∧ atI F M s tick T.length ≤ 1099511627776 := by rw [← HZ.out]; omega
      have hyy := hY T ⟨T.length, hpx⟩ wr hJT (by omega)
      unfold encPt at hyy
      dsimp only at hyy
      rw [← HZ.out] at hyy
      obtain ⟨fn, tmps, assign, body, hy, hR⟩ := hyy
      have hT' : Hid (ptsTo F M s tick (T ++ [⟨T.length, hpx⟩]) ∧ ∀ k < (T ++ [(⟨T.length, hpx⟩ : Pt F M s tick)]).length, atI F M s tick k < stop) := Lib.hid ⟨by
        have h3 := HK.out.2.1
        unfold ptsTo at h3 ⊢
        rw [List.map_append, h3]
        simp [List.range_succ], fun k hk => by
        simp at hk
        by_cases e : k = T.length
        · subst e; rw [← HZ.out]; exact hlt
        · exact HK.out.2.2 k (by omega)⟩
      generalize hX : T ++ [(⟨T.length, hpx⟩ : Pt F M s tick)] = T' at *
      have HX := Lib.hid hX
      clear hX hge hY
      gi_wp2
      refine hR.mono ?_
      rintro e W3 (⟨rfl, hJ3, hk3⟩ | ⟨rfl, hJx3⟩)
      · have hb3 := B0.out.kb hk3 (by omega) (by omega)
        obtain ⟨c0, c1, c2⟩ := hb3.reads3
        have hof := ofI_bd F M s T.length
        have hom := ofI_max F M s T.length
        have HST := Lib.hid (show z + ofI F M s T.length = atI F M s tick (T.length + 1) by rw [HZ.out]; rfl)
        have CO1 := Lib.hid (fun W => CO.out T.length W)
        have HJ3 := Lib.hid hJ3
        have HK3 := Lib.hid (HK.out.1.trans hk3)
        have HL := Lib.hid (show T'.length = T.length + 1 by rw [← HX.out]; simp)
        obtain ⟨hof0, hof1, hof2⟩ := hof
        clear hJ3 hk3 hb3 hR hJT CO hof1 hof2
        generalize ofI F M s T.length = d at *
        unfold wv at CO1
        gi_wp2_with (refine ⟨trivial, ?_⟩; gi_at_call 37; refine (callsIn_wide.2 (CO1.out _)).mono ?_; rintro e w4 ⟨rfl, hb4⟩)
        have HF4 := Lib.hid (And.intro (hJ T' W3 w4 none HJ3.out (gb_below hb4 none) (fun r e => by cases e)) (HK3.out.trans (KB.of_below hb4)))
        clear hb4
        gi_wp2
        go_roundw
        case rel => exact ⟨T', z + d, by rw [HL.out]; go_num, rfl, by omega, by omega, by rw [HL.out]; exact HST, HF4.out.1, Lib.hid ⟨HF4.out.2, hT'.out⟩⟩
        case measure => simp [intOf]; omega
      · gi_wp2
        go_end0
        exact ⟨⟨_, rfl⟩, .inr ⟨_, hT'.out, hJx3⟩⟩
    · gi_wp2
      refine ⟨fun f hf => (by cases hf), ?_⟩
      gi_wp2
      go_end0
      exact ⟨⟨_, rfl⟩, .inl ⟨T, ⟨HK.out.2.1, by rw [← HZ.out]; omega, HK.out.2.2⟩, hJT⟩⟩
/-- **What All hands out goes through the tries, from 0 on, and their ticks.** -/
theorem all_stops (n : Nat) (hn : 1 ≤ n) (F M s tick stop : Int) (hs : 0 ≤ s ∧ s < 4294967296) (ht : 0 ≤ tick ∧ tick ≤ 1099511627776) (he : 0 ≤ stop ∧ stop ≤ 1099511627776) (B m : Nat) (hm : 2199023255552 ≤ m) (w : World)
    (hB0 : Bx w B 66 #[.int .i64 F, .int .i64 M, .int .u32 s]) (hB1 : Bx w (B + 1) 3 #[.int .i64 tick]) (hB2 : Bx w (B + 2) 3 #[.int .i64 stop]) :
    SeqStopsK Fence.wide n Try.prog 61 #[.pointer (some ⟨B + 1, 0, none⟩), .pointer (some ⟨B + 2, 0, none⟩), .pointer (some ⟨B, 0, none⟩)] (encPt F M s tick) (KB B) (fun xs : List (Pt F M s tick) => ptsTo F M s tick xs ∧ stop ≤ atI F M s tick xs.length ∧ ∀ k < xs.length, atI F M s tick k < stop) (fun pre : List (Pt F M s tick) => ptsTo F M s tick pre ∧ ∀ k < pre.length, atI F M s tick k < stop) m w :=
  fun l J Jx W hW hJ _ hY h0 => all1_in n hn F M s tick stop hs ht he l B m hm J Jx W hJ hY (hB0.next hW) (hB1.next hW) (hB2.next hW) h0
theorem all_any (F M s from_ to_ : Int) (w : World) :
    Calls Try.prog 57 #[wv F M s, .int .i64 from_, .int .i64 to_] w fun e w' => e = .returned (.func (.func 61) #[] #[.pointer (some ⟨w.heap.size + 1, 0, none⟩), .pointer (some ⟨w.heap.size + 2, 0, none⟩), .pointer (some ⟨w.heap.size, 0, none⟩)]) ∧
      Bx w' w.heap.size 66 #[.int .i64 F, .int .i64 M, .int .u32 s] ∧ Bx w' (w.heap.size + 1) 3 #[.int .i64 (clampI from_ 0 1099511627776)] ∧ Bx w' (w.heap.size + 2) 3 #[.int .i64 (clampI to_ 0 1099511627776)] ∧ Below w.heap.size w w' := by
  have C1 := Lib.hid (fun W => within_any from_ 0 1099511627776 W)
  have C2 := Lib.hid (fun W => within_any to_ 0 1099511627776 W)
  generalize clampI from_ 0 1099511627776 = a at *
  generalize clampI to_ 0 1099511627776 = b at *
  unfold wv
  go_enter Try.func57, Try.ntmps57
  go_wp2_with fail
  refine (C1.out _).mono ?_; rintro e w1 ⟨rfl, rfl⟩
  go_wp2_with fail
  refine (C2.out _).mono ?_; rintro e w1 ⟨rfl, rfl⟩
  go_wp2_with fail
  go_ret
  refine ⟨rfl, ((Bx.fresh _ _ _).past _).past _, (Bx.fresh' _ (by simp) _ _).past _, Bx.fresh' _ (by simp) _ _, (((Below.refl _ _).alloc (Nat.le_refl _) _).alloc (by simp) _).alloc (by simp; omega) _⟩
end Go.Proofs.Ytoidloofclalhab
