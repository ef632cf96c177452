/- Layer 5 (vector): the iterator that Dots hands out: its contract, at the wide fence. -/
import Derived.Test.YtaeflfgkdjfnfaaYe
import Derived.RangeFuncNested
import Derived.RangeFuncBound
import Derived.RangeFuncCalls
import Derived.RangeFuncLeaves
import Derived.Shelf.Abstract
import Derived.Shelf.RegionOpen
import Derived.WalkKit
import Derived.OwnWalkIn
import Derived.TacticsInMore
import Derived.LoopNIn
import Derived.LoopIn
namespace Go.Proofs.Ytaeflfgkdjfnfaa
open Go.RowKit
attribute [local go_sem] Oper.semAt_some

/-- A dot of two numbers that are ints. -/
abbrev Dt := { x : Int × Int // IW x.1 ∧ IW x.2 }
def encDt (x : Dt) : Array Value := #[.agg #[.int .i64 x.1.1, .int .i64 x.1.2]]
theorem dt_of : ∀ (T : List (Int × Int)), (∀ x ∈ T, IW x.1 ∧ IW x.2) → ∃ T' : List Dt, T'.map (·.1) = T
  | [], _ => ⟨[], rfl⟩
  | x :: T, h => by
    obtain ⟨T', hT⟩ := dt_of T (fun y hy => h y (by simp [hy]))
    exact ⟨⟨x, h x (by simp)⟩ :: T', by simp [hT]⟩
/-- What cells lie from a place on lie as they lay. -/
def KC (B : Nat) (W W' : World) : Prop := W.heap.size ≤ W'.heap.size ∧ ∀ (k : Nat) (cs : Array Value) (t : TypeId) (fr : Nat × Nat), B ≤ k → W.heap[k]? = some (.cells cs t fr) → W'.heap[k]? = some (.cells cs t fr)
theorem KC.refl (B : Nat) (W : World) : KC B W W := ⟨Nat.le_refl _, fun _ _ _ _ _ h => h⟩
theorem KC.trans {B : Nat} {X Y Z : World} (h : KC B X Y) (k : KC B Y Z) : KC B X Z := ⟨Nat.le_trans h.1 k.1, fun i cs t fr hi hc => k.2 i cs t fr hi (h.2 i cs t fr hi hc)⟩
theorem KC.of_below {B : Nat} {X Y : World} (h : Below X.heap.size X Y) : KC B X Y := ⟨h.size, fun i cs t fr _ hc => by rw [h.block i (Array.getElem?_eq_some_iff.1 hc).1]; exact hc⟩
theorem DO.kc {B C : Nat} {W W' : World} {v : Value} {L : List (Int × Int)} (h : DO W C v L) (hk : KC B W W') (hB : B ≤ C) : DO W' C v L := by
  refine ⟨h.1, ?_⟩
  rcases h.2 with h2 | ⟨g, cap, cur, a, b, c, d⟩
  · exact .inl h2
  · exact .inr ⟨g, cap, cur, a, b, hk.2 g _ _ _ (Nat.le_trans hB b) c, d⟩
theorem DO.cell {w : World} {B n c : Nat} {a : Option Addr} {L : List (Int × Int)} (h : DO w B (.slice a n c) L) (k : Nat) (hk : k < L.length) : ∃ g, a = some ⟨g, 0, none⟩ ∧ w.cell? ⟨g, k * 2, none⟩ = some (.int .i64 L[k].1) ∧ w.cell? ⟨g, k * 2 + 1, none⟩ = some (.int .i64 L[k].2) := by
  rcases h.2 with ⟨hv, hl⟩ | ⟨g, cap, cur, hv, hg, _⟩
  · omega
  · obtain ⟨f0, f1⟩ := flatD_at L k hk
    cases hv
    have hc := World.ownsRow.cells h (g := g) rfl
    have add : ∀ j, (⟨g, 0, none⟩ : Addr).add j = ⟨g, j, none⟩ := fun j => by unfold Addr.add; split <;> simp_all
    have r0 := hc _ _ f0
    have r1 := hc _ _ f1
    rw [add] at r0 r1
    exact ⟨g, rfl, r0, r1⟩
theorem DO.form {w : World} {B : Nat} {v : Value} {L : List (Int × Int)} (h : DO w B v L) : ∃ a c, v = .slice a L.length c := by
  rcases h.2 with ⟨rfl, hl⟩ | ⟨g, cap, cur, rfl, _⟩
  · exact ⟨none, 0, by rw [hl]⟩
  · exact ⟨_, _, rfl⟩
set_option maxRecDepth 100000 in
set_option maxHeartbeats 4000000 in
theorem dots1_in (n : Nat) (hn : 1 ≤ n) (l Bs n₀ M m : Nat) (D : DataW Unit) (hm : m ≤ 100000) (J Jx : List Dt → World → Prop) (W : World) (hn₀ : n₀ ≤ W.heap.size)
    (hJ : AbidesFrom W.heap.size J)
    (hY : ∀ pre (x : Dt) W1, J pre W1 → pre.length < m → YieldAt Fence.wide (n - 1) Try.prog l (encDt x) W1 fun e W' =>
      (e = .returned (.bool true) ∧ J (pre ++ [x]) W' ∧ KC n₀ W1 W') ∨ (e = .returned (.bool false) ∧ Jx (pre ++ [x]) W'))
    (hBs : W.cell? ⟨Bs, 0, none⟩ = some (.map (some M))) (hV : VM W M m D) (h0 : J [] W) :
    CallsIn Fence.wide n Try.prog 177 #[.func (.yield l) #[] #[], .pointer (some ⟨Bs, 0, none⟩)] W fun e W' => (∃ v, e = .returned v) ∧
      ((∃ ys : List Dt, (Lists D (ys.map (·.1)) ∧ Up (ys.map (·.1)) ∧ ys.length ≤ m) ∧ J ys W') ∨ (∃ pre : List Dt, (∀ x ∈ pre, Maps.has D (.int .i64 x.1.1) = true ∧ gI D x.1.1 = x.1.2) ∧ Jx pre W')) := by
  have C := Hid.mk' (row_any W M m D hm hV)
  clear hV
  refine callsIn_of_wp Try.func177 rfl trivial ?_ rfl
  simp only [Try.ntmps177, List.size_toArray, List.length_cons, List.length_nil, Nat.reduceAdd, Nat.reduceSub, Array.replicate_succ, Array.replicate_zero, List.push_toArray, List.append_toArray, List.nil_append, List.cons_append]
  gi_wp2_with (refine ⟨trivial, ?_⟩; gi_at_call 178; refine (callsIn_wide.2 C.out).mono ?_; rintro e w2 ⟨v2, T, rfl, hd2, hl2, hu2, hb2, ht2⟩)
  obtain ⟨T', hT'⟩ := dt_of T (fun x hx => ⟨(hl2.2.1 x hx).2.1, (hl2.2.1 x hx).2.2⟩)
  subst hT'
  obtain ⟨a2, c2, rfl⟩ := hd2.form
  have h2 : J (T'.take 0) w2 := hJ [] W w2 none h0 (gb_below hb2 none) (fun r e => by cases e)
  have HD := Hid.mk' (And.intro hd2 (And.intro hl2 (And.intro hu2 (And.intro hb2 ht2))))
  rw [List.length_map]
  have hlm : T'.length ≤ m := by rw [List.length_map] at ht2; exact ht2
  have hlen : ∀ W', (Builtin.len_ #[114] 3 #[.slice a2 T'.length c2]).run Try.prog W' = .ok (.int .i64 (T'.length : Int)) W' := fun W' => run_len_slice (P := Try.prog) W' 114 3 a2 T'.length c2 (by kernel_rfl)
  have hlen2 := hlen w2
  clear hd2 hl2 hu2 hb2 ht2 C hBs h0 hlen
  gi_wp2
  rw [hlen2]
  simp only [Result.andThen]
  gi_wp2
  gi_loopw [8] (fun i wr => ∃ k : Nat, i = .int .i64 k ∧ k ≤ T'.length ∧ J (T'.take k) wr ∧ Hid (KC n₀ w2 wr)) (fun i _ => T'.length - (intOf i).toNat)
  case atStart => exact ⟨0, rfl, Nat.zero_le _, h2, Hid.mk' (KC.refl _ _)⟩
  case round =>
    clear h2
    obtain ⟨k, rfl, hk, hJs, HK⟩ := hrel
    by_cases hlt : k < T'.length
    · obtain ⟨g, rfl, x0, x1⟩ := (HD.out.1.kc HK.out hn₀).cell k (by rw [List.length_map]; exact hlt)
      rw [List.getElem_map] at x0 x1
      have hJ2 : J (T'.take k) (wr.alloc (.cells #[.int .i64 T'[k].1.1, .int .i64 T'[k].1.2] 123)) := hJ _ wr _ none hJs (World.grownBy_alloc wr _ _) (fun r e => by cases e)
      obtain ⟨fn, tmps, assign, body, hy, hR⟩ := hY (T'.take k) T'[k] _ hJ2 (by rw [List.length_take]; omega)
      have HTK := Hid.mk' (show T'.take k ++ [T'[k]] = T'.take (k + 1) from (List.take_succ_eq_append_getElem hlt).symm)
      have HKA := Hid.mk' (HK.out.trans (KC.of_below (B := n₀) ((Below.refl wr.heap.size wr).alloc (Nat.le_refl _) (.cells #[.int .i64 T'[k].1.1, .int .i64 T'[k].1.2] 123))))
      have hi1 : (k : Int) < (T'.length : Int) := by omega
      simp only [encDt] at hy
      generalize T'[k] = p at *
      have HPRE := Hid.mk' (show ∀ x ∈ T'.take k ++ [p], Maps.has D (.int .i64 x.1.1) = true ∧ gI D x.1.1 = x.1.2 from fun x hx => by
        rw [HTK.out] at hx
        have hx2 : x.1 ∈ T'.map (·.1) := List.mem_map.2 ⟨x, List.mem_of_mem_take hx, rfl⟩
        exact ⟨(HD.out.2.1.1 _).2 ⟨x.1.2, hx2⟩, (HD.out.2.1.2.1 _ hx2).1⟩)
      obtain ⟨⟨pw, pn⟩, pi⟩ := p
      dsimp only at *
      clear hY
      gi_wp2
      refine hR.mono ?_
      rintro e W3 (⟨rfl, hJ3, hk3⟩ | ⟨rfl, hJx3⟩)
      · have HF := Hid.mk' (HKA.out.trans hk3)
        rw [HTK.out] at hJ3
        gi_wp2
        go_roundw
        case rel => exact ⟨k + 1, by go_num, by omega, hJ3, HF⟩
        case measure => simp [intOf]; omega
      · gi_wp2
        refine bodyPost_ret (results_none rfl _ _ _) rfl ?_
        exact ⟨⟨_, rfl⟩, .inr ⟨_, HPRE.out, hJx3⟩⟩
    · obtain rfl : k = T'.length := by omega
      gi_wp2
      go_end0
      exact ⟨⟨_, rfl⟩, .inl ⟨T', ⟨HD.out.2.1, HD.out.2.2.1, hlm⟩, by rw [List.take_length] at hJs; exact hJs⟩⟩
/-- **What Dots hands out goes through the vector, rising: for every loop body that keeps the cells laid since the loop began.** -/
theorem dots_stops (n : Nat) (hn : 1 ≤ n) (Bs n₀ M m : Nat) (D : DataW Unit) (hm : m ≤ 100000) (w : World) (hn₀ : n₀ ≤ w.heap.size) (hBs : w.cell? ⟨Bs, 0, none⟩ = some (.map (some M))) (hV : VM w M m D) :
    SeqStopsK Fence.wide n Try.prog 177 #[.pointer (some ⟨Bs, 0, none⟩)] encDt (KC n₀) (fun xs : List Dt => Lists D (xs.map (·.1)) ∧ Up (xs.map (·.1)) ∧ xs.length ≤ m) (fun pre : List Dt => ∀ x ∈ pre, Maps.has D (.int .i64 x.1.1) = true ∧ gI D x.1.1 = x.1.2) m w :=
  fun l J Jx W hW hJ _ hY h0 => dots1_in n hn l Bs n₀ M m D hm J Jx W (Nat.le_trans hn₀ hW.size) hJ hY (cell_nxd hW hBs) (World.ownsMap.kept hV (gb_below hW none) (by simp)) h0
end Go.Proofs.Ytaeflfgkdjfnfaa
