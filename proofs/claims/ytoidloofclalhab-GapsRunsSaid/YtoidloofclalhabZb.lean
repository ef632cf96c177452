/- Layer 47 (gaps): rows of ints in memory: what came in, what a call makes; slices.Equal at ints. -/
import Derived.Test.YtoidloofclalhabUh
import Derived.Test.YtoidloofclalhabZa
import Derived.Test.YtoidloofclalhabVo
import Derived.ProofKit
import Derived.OpenShut
import Derived.ChangeOld
import Derived.ChangeSlices
import Derived.Lib.SmallJoins
import Derived.Lib.Hide
namespace Go.Proofs.Ytoidloofclalhab
open Go.RowKit Go.ChangeShapes Go.WideShapes

def IZ (x : Int) : Prop := -9223372036854775808 ≤ x ∧ x ≤ 9223372036854775807
theorem wf_iz {n : Int} (h : (Lit.int .i64 n).wf = true) : IZ n := by
  have h2 : (decide (IntKind.i64.min ≤ n) && decide (n ≤ IntKind.i64.max)) = true := h
  rw [Bool.and_eq_true, decide_eq_true_eq, decide_eq_true_eq, show IntKind.i64.max = 9223372036854775807 from by decide, show IntKind.i64.min = -9223372036854775808 from by decide] at h2
  exact h2
/-- A slice that reads as ints. -/
def IR (w : World) (v : Value) (l : List Int) : Prop :=
  ∃ a cap, v = .slice a l.length cap ∧ l.length ≤ maxLen ∧ (∀ x ∈ l, IZ x) ∧ (l ≠ [] → ∃ b off, a = some ⟨b, off, none⟩ ∧ ∀ i (h : i < l.length), w.cell? ⟨b, off + i, none⟩ = some (.int .i64 l[i]))
def iv (l : List Int) : List Value := l.map fun n => Value.int .i64 n
theorem iv_len (l : List Int) : (iv l).length = l.length := by simp [iv]
theorem iv_snoc (l : List Int) (n : Int) : iv (l ++ [n]) = iv l ++ [.int .i64 n] := by simp [iv]
theorem iv_at (l : List Int) (i : Nat) (h : i < l.length) : (iv l)[i]? = some (.int .i64 l[i]) := by simp [iv, h]
theorem i_info : (Try.prog.info? 3).map (fun i => (i.zero, i.size, i.bytes)) = some (some (.int .i64 0), 1, 8) := by kernel_rfl
/-- A row of ints that the call owns. -/
def IO (w : World) (B : Nat) (v : Value) (l : List Int) : Prop := w.ownsRow B 3 1 v l.length (iv l)
theorem IR.next {w w' : World} {v : Value} {l : List Int} (h : IR w v l) (hb : Below w.heap.size w w') : IR w' v l := by
  obtain ⟨a, cap, hv, hm, hz, hr⟩ := h
  refine ⟨a, cap, hv, hm, hz, fun h0 => ?_⟩
  obtain ⟨b, off, ha, hc⟩ := hr h0
  refine ⟨b, off, ha, fun i hi => ?_⟩
  have := hc i hi
  rw [hb.cell (World.block_lt_of_cell? _ _ this)]
  exact this
theorem IR.drawn {w : World} {v : Value} {l : List Int} (h : IR w v l) (n : Nat) : IR (w.drewN n) v l := h
theorem IO.ir {w : World} {B : Nat} {v : Value} {l : List Int} (h : IO w B v l) (hz : ∀ x ∈ l, IZ x) (hm : l.length ≤ maxLen) : IR w v l := by
  rcases Nat.eq_zero_or_pos l.length with h0 | h0
  · have hl : l = [] := List.eq_nil_of_length_eq_zero h0
    subst hl
    rcases h.2 with ⟨rfl, _⟩ | ⟨g, cap, cur, rfl, _⟩
    · exact ⟨none, 0, rfl, hm, hz, fun h => absurd rfl h⟩
    · exact ⟨_, cap, rfl, hm, hz, fun h => absurd rfl h⟩
  · have h2 := h
    obtain ⟨g, cap, rfl, _, _⟩ := World.ownsRow.form h h0
    refine ⟨_, cap, rfl, hm, hz, fun _ => ⟨g, 0, rfl, fun i hi => ?_⟩⟩
    rw [Nat.zero_add]
    have := World.ownsRow.cellAt h2 i (by omega)
    rw [this]
    exact iv_at l i hi
theorem IR.form {w : World} {v : Value} {l : List Int} (h : IR w v l) : ∃ a cap, v = .slice a l.length cap := by
  obtain ⟨a, cap, hv, _⟩ := h
  exact ⟨a, cap, hv⟩
set_option maxRecDepth 100000 in
theorem open_ints' {H : Type} {enc : TypeId × Value → H} {w : World} {r : Reach} {base : Nat} {spare : Nat → Bool} {held : Bool} {v : Value} {d : DataW H} {p : List MemPlace} (hv : Value.okWide Try.prog w r base 43 v)
    (h : DataW.Trod enc Try.prog w 0 spare held 43 v d p) : ∃ l, IR w v l := by
  obtain ⟨a0, len, cap, rfl⟩ := okWide_slice Try.underlying43 hv
  obtain ⟨fuel, hf⟩ := h
  have hC : Try.prog.cellsOf 3 = 1 := by kernel_rfl
  rcases DataW.trod_slice Try.underlying43 hf with ⟨hcs, _⟩ | ⟨a, len', cap', elems, rest, n, _, hcs, _, _, hl, hm, hlen, hel, _, _⟩
  · simp [Value.cells] at hcs
    obtain ⟨rfl, rfl, rfl⟩ := hcs
    exact ⟨[], none, 0, rfl, by simp, by simp, fun h => absurd rfl h⟩
  · simp [Value.cells] at hcs
    obtain ⟨rfl, rfl, rfl⟩ := hcs
    have each : ∀ i, i < len → ∃ x : Int, IZ x ∧ w.cell? (a.add (i * 1)) = some (.int .i64 x) := by
      intro i hi
      have h1 := hel i hi
      rw [List.getElem?_eq_getElem (by omega), Option.bind_eq_some_iff, hC] at h1
      obtain ⟨cs, hcs, hy⟩ := h1
      obtain ⟨hb, hlc, hce⟩ := World.cells?_some hcs
      match cs, hlc with
      | [c0], _ =>
        obtain ⟨x0, e0, _, w0⟩ := DataW.trod_int Try.underlying3 hy
        simp at e0
        subst e0
        have k0 := hce 0 (by omega)
        exact ⟨x0, wf_iz w0, by simpa [Addr.add] using k0⟩
    obtain ⟨b, off, spot⟩ := a
    let f : Nat → Int := fun i => if h : i < len then Classical.choose (each i h) else 0
    have hfe : ∀ i (h : i < len), IZ (f i) ∧ w.cell? ((⟨b, off, spot⟩ : Addr).add (i * 1)) = some (.int .i64 (f i)) := fun i h => by
      have := Classical.choose_spec (each i h)
      simp only [f, h, dif_pos]
      exact this
    have hll : ((List.range len).map f).length = len := by simp
    refine ⟨(List.range len).map f, some ⟨b, off, spot⟩, cap, by rw [hll], by rw [hll]; exact Nat.le_trans hl hm, fun x hx => ?_, fun h0 => ?_⟩
    · obtain ⟨i, hi, rfl⟩ := List.mem_map.1 hx
      rw [List.mem_range] at hi
      exact (hfe i hi).1
    · have h0' : 0 < len := by
        rcases Nat.eq_zero_or_pos len with h1 | h1
        · exfalso; apply h0; apply List.eq_nil_of_length_eq_zero; rw [hll, h1]
        · exact h1
      have hspot : spot = none := by simpa [Addr.add] using World.cell?_spot (hfe 0 h0').2
      subst hspot
      have add : ∀ q j, (⟨b, q, none⟩ : Addr).add j = ⟨b, q + j, none⟩ := fun q j => by unfold Addr.add; split <;> simp_all
      refine ⟨b, off, rfl, fun i hi => ?_⟩
      rw [hll] at hi
      have := (hfe i hi).2
      rw [add, Nat.mul_one] at this
      simp only [List.getElem_map, List.getElem_range]
      exact this
set_option maxHeartbeats 1000000 in
theorem equalI_yes (v1 v2 : Value) (l : List Int) (hn : l.length ≤ 1000000) (w : World) (h1 : IR w v1 l) (h2 : IR w v2 l) :
    Calls Try.prog 30 #[v1, v2] w fun e w' => e = .returned (.bool true) ∧ Below w.heap.size w w' := by
  obtain ⟨a1, p1, rfl, q1, _, r1⟩ := h1
  obtain ⟨a2, p2, rfl, q2, _, r2⟩ := h2
  have hb : ((l.length : Int) != (l.length : Int)) = false := by simp
  clear q1 q2
  go_enter Try.func30, Try.ntmps30
  go_wp2_with fail
  go_loopw [13] (fun i wr => ∃ k m : Nat, i = .int .i64 k ∧ k ≤ l.length ∧ wr = w.drewN m) (fun i _ => l.length - (intOf i).toNat)
  case atStart => exact ⟨0, 0, rfl, by omega, rfl⟩
  case round =>
    obtain ⟨k, m, rfl, hk, rfl⟩ := hrel
    by_cases hlt : k < l.length
    · have hne : l ≠ [] := fun e => by rw [e] at hlt; simp at hlt
      obtain ⟨b1, o1, rfl, c1⟩ := r1 hne
      obtain ⟨b2, o2, rfl, c2⟩ := r2 hne
      have e1 := c1 k hlt
      have e2 := c2 k hlt
      generalize l[k] = x at e1 e2
      have hx : (x != x) = false := by simp
      clear r1 r2 c1 c2 hne
      generalize l.length = n at *
      have hi : (k : Int) < (n : Int) := by omega
      go_wp2_with fail
      go_quiet (fail)
      go_wp2_with fail
      go_roundw
      case rel => exact ⟨k + 1, m + nq, by go_num, by omega, rfl⟩
      case measure => simp [intOf]; omega
    · go_wp2_with fail
      go_ret
      exact ⟨rfl, below_drewN (Below.refl _ _) _⟩
end Go.Proofs.Ytoidloofclalhab
