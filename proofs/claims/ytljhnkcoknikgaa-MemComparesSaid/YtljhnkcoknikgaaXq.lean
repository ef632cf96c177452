/- Layer 13 (mem): what goes through a tree. -/
import Derived.Test.YtljhnkcoknikgaaXp
import Derived.Test.YtljhnkcoknikgaaXn
import Derived.Test.YtljhnkcoknikgaaKg
import Derived.RangeFuncKeeps
import Derived.RangeFuncBound
import Derived.RangeFuncLeaves
import Derived.WalkKit
import Derived.OwnWalkIn
import Derived.TacticsInMore
namespace Go.Proofs.Ytljhnkcoknikgaa
open Go.RowKit
attribute [local go_sem] Oper.semAt_some

/-- Where no depth is asked the figures are all one. -/
theorem roundIn_any {m m' : Nat} {P : Program} {l : Nat} {f : FuncId} {tmps : Array Value} {assign body : Code} {w : World} {R : Ending → World → Prop}
    (h : RoundIn Fence.wide m P l f tmps assign body w R) : RoundIn Fence.wide m' P l f tmps assign body w R := ⟨h.1, fun c cs _ => h.2 c cs (room_wide _)⟩
theorem yieldAt_any {m : Nat} (m' : Nat) {P : Program} {l : Nat} {args : Array Value} {W : World} {R : Ending → World → Prop} (h : YieldAt Fence.wide m P l args W R) : YieldAt Fence.wide m' P l args W R := by
  obtain ⟨fn, tmps, assign, body, hy, hR⟩ := h
  exact ⟨fn, tmps, assign, body, hy, roundIn_any hR⟩

theorem each_nil (k : ByteArray) (l n : Nat) (W : World) : CallsIn Fence.wide n Try.prog 154 #[.pointer none, .string k, .func (.yield l) #[] #[]] W fun e W' => e = .returned (.bool true) ∧ W' = W := by
  refine callsIn_of_wp Try.func154 rfl trivial ?_ rfl
  simp only [Try.ntmps154, List.size_toArray, List.length_cons, List.length_nil, Nat.reduceAdd, Nat.reduceSub, Array.replicate_succ, Array.replicate_zero, List.push_toArray, List.append_toArray, List.nil_append, List.cons_append]
  gi_wp2
  go_ret
  exact ⟨rfl, rfl⟩

/-- What the example's tree hands on: the first mutation that is put, or the second. -/
def encAB (x : Bool) : Array Value := if x then #[.agg #[.int .i64 1, .int .i64 1, .string ⟨#[98]⟩, .string ⟨#[]⟩, .string ⟨#[]⟩, .int .i64 0, .int .i64 1, .int .i64 0, .int .i64 0, .slice none 0 0]] else #[.agg #[.int .i64 1, .int .i64 1, .string ⟨#[97]⟩, .string ⟨#[]⟩, .string ⟨#[]⟩, .int .i64 0, .int .i64 2, .int .i64 0, .int .i64 0, .slice none 0 0]]
theorem bx_below {A B : World} {n0 g : Nat} {t : TypeId} {cs : Array Value} (h : Bx A g t cs) (hb : Below n0 A B) (hg : g < n0) : Bx B g t cs := (hb.block g hg).trans h

set_option maxRecDepth 100000 in
set_option maxHeartbeats 4000000 in
theorem each_A (n l n0 g : Nat) (hg : g < n0) (J Jx : List Bool → World → Prop) (W : World) (hn0 : n0 ≤ W.heap.size) (hA : AbidesFrom W.heap.size J) (h : Bx W g 166 #[.int .i64 1, .int .i64 1, .string ⟨#[97]⟩, .string ⟨#[]⟩, .string ⟨#[]⟩, .int .i64 0, .int .i64 2, .int .i64 0, .int .i64 0, .slice none 0 0, .pointer none, .pointer none, .int .i64 1]) (h0 : J [] W)
    (hY : ∀ W1, J [] W1 → YieldAt Fence.wide (n - 1) Try.prog l #[.agg #[.int .i64 1, .int .i64 1, .string ⟨#[97]⟩, .string ⟨#[]⟩, .string ⟨#[]⟩, .int .i64 0, .int .i64 2, .int .i64 0, .int .i64 0, .slice none 0 0]] W1 fun e W' => (e = .returned (.bool true) ∧ J [false] W' ∧ Below n0 W1 W') ∨ (e = .returned (.bool false) ∧ Jx [false] W')) :
    CallsIn Fence.wide n Try.prog 154 #[.pointer (some ⟨g, 0, none⟩), .string ⟨#[]⟩, .func (.yield l) #[] #[]] W fun e W' =>
      (e = .returned (.bool true) ∧ J [false] W' ∧ Below n0 W W') ∨ (e = .returned (.bool false) ∧ Jx [false] W') := by
  have HY := Lib.hid (fun W2 (hb : Below W.heap.size W W2) => (show Below n0 W W2 ∧ YieldAt Fence.wide (n - 1) Try.prog l #[.agg #[.int .i64 1, .int .i64 1, .string ⟨#[97]⟩, .string ⟨#[]⟩, .string ⟨#[]⟩, .int .i64 0, .int .i64 2, .int .i64 0, .int .i64 0, .slice none 0 0]] W2 (fun e W' => (e = .returned (.bool true) ∧ J [false] W' ∧ Below n0 W W' ∧ W'.cell? ⟨g, 11, none⟩ = some (.pointer none)) ∨ (e = .returned (.bool false) ∧ Jx [false] W')) from ⟨hb.mono hn0, YieldAt.mono (hY W2 (hA [] W W2 none h0 (gb_below hb none) (by intro r hr; cases hr))) (fun e W' hp => hp.elim (fun ⟨a, b, c⟩ => .inl ⟨a, b, (hb.mono hn0).trans c, (((hb.mono hn0).trans c).cell (p := ⟨g, 11, none⟩) hg).trans (h.read (i := 11) rfl)⟩) .inr)⟩))
  clear hY
  have n0' := h.read (i := 0) rfl
  have n1 := h.read (i := 1) rfl
  have n2 := h.read (i := 2) rfl
  have n10 := h.read (i := 10) rfl
  have CE := Lib.hid (fun m W => each_nil ⟨#[]⟩ l m W)
  refine callsIn_of_wp Try.func154 rfl trivial ?_ rfl
  simp only [Try.ntmps154, List.size_toArray, List.length_cons, List.length_nil, Nat.reduceAdd, Nat.reduceSub, Array.replicate_succ, Array.replicate_zero, List.push_toArray, List.append_toArray, List.nil_append, List.cons_append]
  have CC := Lib.hid (fun W1 => (copy0_any 1 1 0 2 0 0 ⟨#[97]⟩ ⟨#[]⟩ ⟨#[]⟩ W1))
  have hr : ∀ i c, #[.int .i64 1, .int .i64 1, .string ⟨#[97]⟩, .string ⟨#[]⟩, .string ⟨#[]⟩, .int .i64 0, .int .i64 2, .int .i64 0, .int .i64 0, .slice none 0 0, .pointer none, .pointer none, .int .i64 1][i]? = some c → W.cell? ⟨g, i, none⟩ = some c := fun i c hc => h.read hc
  have n3 := h.read (i := 3) rfl
  have n4 := h.read (i := 4) rfl
  have n5 := h.read (i := 5) rfl
  have n6 := h.read (i := 6) rfl
  have n7 := h.read (i := 7) rfl
  have n8 := h.read (i := 8) rfl
  have n9 := h.read (i := 9) rfl
  have n11 := h.read (i := 11) rfl
  have n12 := h.read (i := 12) rfl
  gi_wp2_with (first
    | (refine ⟨trivial, (fun h => (by cases h)), ?_⟩; refine (CE.out _ _).mono ?_; rintro e W1 ⟨rfl, rfl⟩)
    | (refine ⟨trivial, (fun h => (by cases h)), ?_⟩; refine (callsIn_wide.2 (CC.out _)).mono ?_; clear CC CE; rintro e W2 ⟨rfl, hb2⟩; have hr2 := HY.out W2 hb2; clear HY; obtain ⟨hb2n, fn, tmps, assign, body, hy, hR⟩ := hr2)
    | ((try refine ⟨(fun h => (by cases h)), ?_⟩); refine hR.mono ?_; clear hR; rintro e W3 (⟨rfl, hJ3, hb3, n11'⟩ | ⟨rfl, hx3⟩); have CE := Lib.hid (fun m W => each_nil ⟨#[]⟩ l m W))
    | fail)
  all_goals first
    | (go_ret; first | exact .inl ⟨rfl, hJ3, hb3⟩ | exact .inr ⟨rfl, hx3⟩)
    | (exfalso; rename_i hz; revert hz; decide)
    | trace_state

set_option maxRecDepth 100000 in
set_option maxHeartbeats 4000000 in
theorem each_B (n l n0 g gA : Nat) (hg : g < n0) (hgA : gA < n0) (J Jx : List Bool → World → Prop) (W : World) (hn0 : n0 ≤ W.heap.size) (hA : AbidesFrom W.heap.size J) (h : Bx W g 166 #[.int .i64 1, .int .i64 1, .string ⟨#[98]⟩, .string ⟨#[]⟩, .string ⟨#[]⟩, .int .i64 0, .int .i64 1, .int .i64 0, .int .i64 0, .slice none 0 0, .pointer (some ⟨gA, 0, none⟩), .pointer none, .int .i64 2]) (hAa : Bx W gA 166 #[.int .i64 1, .int .i64 1, .string ⟨#[97]⟩, .string ⟨#[]⟩, .string ⟨#[]⟩, .int .i64 0, .int .i64 2, .int .i64 0, .int .i64 0, .slice none 0 0, .pointer none, .pointer none, .int .i64 1]) (h0 : J [] W)
    (hY : ∀ m pre (x : Bool) W1, J pre W1 → pre.length < 2 → YieldAt Fence.wide m Try.prog l (encAB x) W1 fun e W' => (e = .returned (.bool true) ∧ J (pre ++ [x]) W' ∧ Below n0 W1 W') ∨ (e = .returned (.bool false) ∧ Jx (pre ++ [x]) W')) :
    CallsIn Fence.wide n Try.prog 154 #[.pointer (some ⟨g, 0, none⟩), .string ⟨#[]⟩, .func (.yield l) #[] #[]] W fun e W' =>
      (e = .returned (.bool true) ∧ J [false, true] W' ∧ Below n0 W W') ∨ (e = .returned (.bool false) ∧ ∃ q, q <+: [false, true] ∧ Jx q W') := by
  have HY : ∀ W1 W2, J [false] W1 → Below n0 W W1 → Below W1.heap.size W1 W2 → YieldAt Fence.wide (n - 1) Try.prog l #[.agg #[.int .i64 1, .int .i64 1, .string ⟨#[98]⟩, .string ⟨#[]⟩, .string ⟨#[]⟩, .int .i64 0, .int .i64 1, .int .i64 0, .int .i64 0, .slice none 0 0]] W2 (fun e W' => (e = .returned (.bool true) ∧ J [false, true] W' ∧ Below n0 W W' ∧ W'.cell? ⟨g, 11, none⟩ = some (.pointer none)) ∨ (e = .returned (.bool false) ∧ Jx [false, true] W')) := by
    intro W1 W2 hJ1 hb1 hb2
    have hs1 := hb1.size
    have hJ2 := hA [false] W1 W2 none hJ1 (gb_below hb2 none) (by intro r hr; cases hr)
    have hb12 : Below n0 W W2 := hb1.trans (hb2.mono (Nat.le_trans hn0 hs1))
    exact YieldAt.mono (hY (n - 1) [false] true W2 hJ2 (by simp)) (fun e W' hp => hp.elim (fun ⟨a, b, c⟩ => .inl ⟨a, b, hb12.trans c, ((hb12.trans c).cell (p := ⟨g, 11, none⟩) hg).trans (h.read (i := 11) rfl)⟩) .inr)
  have HE := (each_A (n - 1) l n0 gA hgA J Jx W hn0 hA hAa h0 (fun W1 hJ => hY _ [] false W1 hJ (by simp))).mono (R' := fun e W1 => (e = .returned (.bool true) ∧ (J [false] W1 ∧ Below n0 W W1 ∧ Bx W1 g 166 #[.int .i64 1, .int .i64 1, .string ⟨#[98]⟩, .string ⟨#[]⟩, .string ⟨#[]⟩, .int .i64 0, .int .i64 1, .int .i64 0, .int .i64 0, .slice none 0 0, .pointer (some ⟨gA, 0, none⟩), .pointer none, .int .i64 2])) ∨ (e = .returned (.bool false) ∧ Jx [false] W1)) (fun e W1 hp => hp.elim (fun ⟨a, b, c⟩ => .inl ⟨a, b, c, bx_below h c hg⟩) .inr)
  have HE := Lib.hid HE
  have HY := Lib.hid HY
  clear hY
  have n0' := h.read (i := 0) rfl
  have n1 := h.read (i := 1) rfl
  have n2 := h.read (i := 2) rfl
  have n10 := h.read (i := 10) rfl
  have CC := Lib.hid (fun W1 => (copy0_any 1 1 0 1 0 0 ⟨#[98]⟩ ⟨#[]⟩ ⟨#[]⟩ W1))
  refine callsIn_of_wp Try.func154 rfl trivial ?_ rfl
  simp only [Try.ntmps154, List.size_toArray, List.length_cons, List.length_nil, Nat.reduceAdd, Nat.reduceSub, Array.replicate_succ, Array.replicate_zero, List.push_toArray, List.append_toArray, List.nil_append, List.cons_append]
  gi_wp2_with (first
    | (refine ⟨trivial, (fun h => (by cases h)), ?_⟩; refine HE.out.mono ?_; clear HE; rintro e W1 (⟨rfl, hJ1, hb1, h'⟩ | ⟨rfl, hx1⟩); have m0 := h'.read (i := 0) rfl; have m1 := h'.read (i := 1) rfl; have m2 := h'.read (i := 2) rfl; have m3 := h'.read (i := 3) rfl; have m4 := h'.read (i := 4) rfl; have m5 := h'.read (i := 5) rfl; have m6 := h'.read (i := 6) rfl; have m7 := h'.read (i := 7) rfl; have m8 := h'.read (i := 8) rfl; have m9 := h'.read (i := 9) rfl)
    | (refine ⟨trivial, (fun h => (by cases h)), ?_⟩; refine (callsIn_wide.2 (CC.out _)).mono ?_; clear CC; rintro e W2 ⟨rfl, hb2⟩; obtain ⟨fn, tmps, assign, body, hy, hR⟩ := HY.out _ W2 hJ1 hb1 hb2; clear HY)
    | ((try refine ⟨(fun h => (by cases h)), ?_⟩); refine hR.mono ?_; clear hR; rintro e W3 (⟨rfl, hJ3, hb3, n11'⟩ | ⟨rfl, hx3⟩); have CE := Lib.hid (fun m W => each_nil ⟨#[]⟩ l m W))
    | (refine ⟨trivial, (fun h => (by cases h)), ?_⟩; refine (CE.out _ _).mono ?_; clear CE; rintro e W4 ⟨rfl, rfl⟩)
    | fail)
  all_goals first
    | (go_ret; first | exact .inl ⟨rfl, hJ3, hb3⟩ | exact .inr ⟨rfl, _, List.prefix_refl _, hx3⟩)
    | (refine ⟨trivial, ?_⟩; gi_wp2; (try (refine ⟨fun _ h => (by cases h), ?_⟩; gi_wp2)); go_ret; exact .inr ⟨rfl, [false], ⟨[true], rfl⟩, hx1⟩)
    | (exfalso; rename_i hz; revert hz; decide)
    | trace_state
end Go.Proofs.Ytljhnkcoknikgaa
