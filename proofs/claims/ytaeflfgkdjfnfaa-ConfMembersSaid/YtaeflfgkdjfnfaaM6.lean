/- Rows of ints that a call owns; slices.Clone, Equal, Index, Contains at ints. -/
import Derived.Test.YtaeflfgkdjfnfaaE2
import Derived.Test.YtaeflfgkdjfnfaaRow
import Derived.Laws.AppendOwn
import Derived.Laws.OwnMore
import Derived.OwnWalk
import Derived.Lib.SliceRun
import Derived.BigQuiet
namespace Go.Proofs.Ytaeflfgkdjfnfaa
open Go.RowKit

def iv (l : List Int) : List Value := l.map fun n => Value.int .i64 n
theorem iv_len (l : List Int) : (iv l).length = l.length := by simp [iv]
theorem iv_at (l : List Int) (i : Nat) (h : i < l.length) : (iv l)[i]? = some (.int .i64 l[i]) := by simp [iv, h]
theorem iv_snoc (l : List Int) (n : Int) : iv (l ++ [n]) = iv l ++ [.int .i64 n] := by simp [iv]
theorem iv_one (l : List Int) : ∀ u ∈ iv l, u.oneCell' = true := by
  intro u hu
  simp [iv] at hu
  obtain ⟨x, _, rfl⟩ := hu
  rfl
theorem i_info : (Try.prog.info? 3).map (fun i => (i.zero, i.size, i.bytes)) = some (some (.int .i64 0), 1, 8) := by kernel_rfl
theorem addi (b off j : Nat) : (⟨b, off, none⟩ : Addr).add j = ⟨b, off + j, none⟩ := by unfold Addr.add; split <;> simp_all
/-- A row of ints that the call owns. -/
def IO (w : World) (B : Nat) (v : Value) (l : List Int) : Prop := w.ownsRow B 3 1 v l.length (iv l)
theorem IO.next {w w' : World} {B : Nat} {v : Value} {l : List Int} (h : IO w B v l) (hb : Below w.heap.size w w') : IO w' B v l := own_next h hb
theorem IO.in_ {w : World} {B : Nat} {v : Value} {l : List Int} (h : IO w B v l) : IN w v l := by
  rcases h.2 with ⟨hv, h0⟩ | ⟨g, cap, cur, hv, hB, hg, hc, hm, hs, ht⟩
  · have hl : l = [] := List.eq_nil_of_length_eq_zero h0
    subst hl
    exact ⟨none, 0, hv, fun h => absurd rfl h⟩
  · refine ⟨_, cap, hv, fun _ => ⟨g, 0, rfl, fun i hi => ?_⟩⟩
    subst hv
    have := World.ownsRow.cellAt h i (by omega)
    rw [Nat.zero_add, this]
    exact iv_at l i hi
theorem iclone_some (b off n cap : Nat) (l : List Int) (hl : l.length = n) (hm : n ≤ 100000) (w : World) (hc : ∀ i (h : i < l.length), w.cell? ⟨b, off + i, none⟩ = some (.int .i64 l[i])) :
    Calls Try.prog 94 #[.slice (some ⟨b, off, none⟩) n cap] w fun e w' => ∃ v, e = .returned v ∧ IO w' w.heap.size v l ∧ Below w.heap.size w w' := by
  obtain ⟨i0, hi, hz0, hz1, hz2⟩ := info_parts i_info
  have HI := Lib.hid (And.intro hi (And.intro hz0 (And.intro hz1 hz2)))
  clear hi hz0 hz1 hz2
  have HC := Lib.hid hc
  have HL := Lib.hid hl
  clear hc hl
  have hnil : ∀ w, (binOp .eql 71 (.slice (some ⟨b, off, none⟩) n cap) (.slice none 0 0)).run Try.prog w = .ok (.bool false) w := fun w : World => Lib.run_eql_slice_nil (P := Try.prog) w 71 3 (some ⟨b, off, none⟩) n cap 0 0 Try.underlying71
  have own0 : (w.alloc (.cells #[] 3)).ownsRow w.heap.size 3 1 (.slice (some ⟨w.heap.size, 0, none⟩) 0 0) 0 [] := World.ownsRow_made w #[] 0 (Nat.le_refl _) (by unfold maxLen; omega) rfl
  go_enter Try.func94, Try.ntmps94
  go_wp2_with (at_builtin; refine wpList_append_own _ rfl (.tmp 5) (.tmp 6) 71 rfl w.heap.size 3 i0 _ 1 8 Try.underlying71 HI.out.1 HI.out.2.1 HI.out.2.2.1 HI.out.2.2.2 rfl (by decide) _ 0 [] rfl own0 ⟨b, off, none⟩ n cap (iv l) rfl ?c1 ?c2 (iv_one l) ?c4 ?c5 ?c6 ?_)
  case c1 => rw [iv_len, HL.out]; omega
  case c2 =>
    intro j u hu
    have hj : j < l.length := by have := (List.getElem?_eq_some_iff.1 hu).1; rwa [iv_len] at this
    rw [iv_at l j hj] at hu
    cases hu
    rw [addi]
    have h1 := HC.out j hj
    rw [((Below.refl _ w).alloc (Nat.le_refl _) _).cell (World.block_lt_of_cell? w _ h1)]
    exact h1
  case c4 => unfold maxLen; omega
  case c5 => omega
  case c6 => simp
  intro v1 w1 hown1 hgr1 _
  have hb1 : Below w.heap.size w w1 := ((Below.refl _ w).alloc (Nat.le_refl _) _).grown hgr1 (by simp) (fun k hk => by cases hk; exact Nat.le_refl _)
  have hO : IO w1 w.heap.size v1 l := by
    unfold IO
    rw [HL.out]
    simpa using hown1
  clear hown1 hgr1 own0 hnil
  go_wp2_with fail
  go_ret
  exact ⟨_, rfl, hO, hb1⟩
theorem iclone_nil (n cap : Nat) (w : World) :
    Calls Try.prog 94 #[.slice none n cap] w fun e w' => ∃ v, e = .returned v ∧ IO w' w.heap.size v [] ∧ Below w.heap.size w w' := by
  have hnil : ∀ w, (binOp .eql 71 (.slice none n cap) (.slice none 0 0)).run Try.prog w = .ok (.bool true) w := fun w : World => Lib.run_eql_slice_nil (P := Try.prog) w 71 3 none n cap 0 0 Try.underlying71
  go_enter Try.func94, Try.ntmps94
  go_wp2_with fail
  go_ret
  exact ⟨_, rfl, ⟨rfl, .inl ⟨rfl, rfl⟩⟩, Below.refl _ _⟩
theorem iclone_zero (a : Addr) (cap : Nat) (w : World) :
    Calls Try.prog 94 #[.slice (some a) 0 cap] w fun e w' => ∃ v, e = .returned v ∧ IO w' w.heap.size v [] ∧ Below w.heap.size w w' := by
  obtain ⟨i0, hi, hz0, hz1, hz2⟩ := info_parts i_info
  have HI := Lib.hid (And.intro hi (And.intro hz0 (And.intro hz1 hz2)))
  clear hi hz0 hz1 hz2
  have hnil : ∀ w, (binOp .eql 71 (.slice (some a) 0 cap) (.slice none 0 0)).run Try.prog w = .ok (.bool false) w := fun w : World => Lib.run_eql_slice_nil (P := Try.prog) w 71 3 (some a) 0 cap 0 0 Try.underlying71
  have own0 : (w.alloc (.cells #[] 3)).ownsRow w.heap.size 3 1 (.slice (some ⟨w.heap.size, 0, none⟩) 0 0) 0 [] := World.ownsRow_made w #[] 0 (Nat.le_refl _) (by unfold maxLen; omega) rfl
  go_enter Try.func94, Try.ntmps94
  go_wp2_with (at_builtin; refine wpList_append_own _ rfl (.tmp 5) (.tmp 6) 71 rfl w.heap.size 3 i0 _ 1 8 Try.underlying71 HI.out.1 HI.out.2.1 HI.out.2.2.1 HI.out.2.2.2 rfl (by decide) _ 0 [] rfl own0 a 0 cap [] rfl rfl (by intro j u hu; simp at hu) (by intro u hu; cases hu) ?c4 ?c5 ?c6 ?_)
  case c4 => unfold maxLen; omega
  case c5 => omega
  case c6 => simp
  intro v1 w1 hown1 hgr1 _
  have hb1 : Below w.heap.size w w1 := ((Below.refl _ w).alloc (Nat.le_refl _) _).grown hgr1 (by simp) (fun k hk => by cases hk; exact Nat.le_refl _)
  have hO : IO w1 w.heap.size v1 [] := by
    unfold IO
    simpa [iv] using hown1
  clear hown1 hgr1 own0 hnil
  go_wp2_with fail
  go_ret
  exact ⟨_, rfl, hO, hb1⟩
theorem iclone_any (v : Value) (l : List Int) (hm : l.length ≤ 100000) (w : World) (h : IN w v l) :
    Calls Try.prog 94 #[v] w fun e w' => ∃ v, e = .returned v ∧ IO w' w.heap.size v l ∧ Below w.heap.size w w' := by
  obtain ⟨a, cap, rfl, hc⟩ := h
  by_cases h0 : l = []
  · subst h0
    cases a with
    | none => exact iclone_nil _ cap w
    | some a => exact iclone_zero a cap w
  · obtain ⟨b, off, rfl, hcell⟩ := hc h0
    exact iclone_some b off l.length cap l rfl hm w hcell
set_option maxHeartbeats 2000000 in
theorem iequal_yes (v1 v2 : Value) (l : List Int) (hn : l.length ≤ 1000000) (w : World) (h1 : IN w v1 l) (h2 : IN w v2 l) :
    Calls Try.prog 30 #[v1, v2] w fun e w' => e = .returned (.bool true) ∧ Below w.heap.size w w' := by
  obtain ⟨a1, p1, rfl, r1⟩ := h1
  obtain ⟨a2, p2, rfl, r2⟩ := h2
  have HC := Lib.hid (And.intro r1 r2)
  clear r1 r2
  have hb : ((l.length : Int) != (l.length : Int)) = false := by simp
  go_enter Try.func30, Try.ntmps30
  go_wp2_with fail
  go_loopw [13] (fun i wr => ∃ k m : Nat, i = .int .i64 k ∧ k ≤ l.length ∧ wr = w.drewN m) (fun i _ => l.length - (intOf i).toNat)
  case atStart => exact ⟨0, 0, rfl, by omega, rfl⟩
  case round =>
    obtain ⟨k, m, rfl, hk, rfl⟩ := hrel
    by_cases hlt : k < l.length
    · have hi1 : (k : Int) < (l.length : Int) := by omega
      obtain ⟨b1, o1, rfl, c1⟩ := HC.out.1 (fun e => by rw [e] at hlt; simp at hlt)
      obtain ⟨b2, o2, rfl, c2⟩ := HC.out.2 (fun e => by rw [e] at hlt; simp at hlt)
      have x1 := c1 k hlt
      have x2 := c2 k hlt
      clear c1 c2
      generalize l[k] = y at *
      have hy : (y != y) = false := by simp
      go_wp2_with fail
      go_quiet (fail)
      go_wp2_with fail
      go_roundw
      case rel => exact ⟨k + 1, m + nq, by go_num, by omega, by first | rfl | (rw [World.drewN_drewN])⟩
      case measure => simp [intOf]; omega
    · have hi1 : ¬ (k : Int) < (l.length : Int) := by omega
      go_wp2_with fail
      go_ret
      exact ⟨rfl, below_drewN (Below.refl _ _) _⟩
set_option maxHeartbeats 2000000 in
theorem icontains_any (v : Value) (l : List Int) (x : Int) (hn : l.length ≤ 1000000) (w : World) (h : IN w v l) :
    Calls Try.prog 98 #[v, .int .i64 x] w fun e w' => e = .returned (.bool (l.any (fun y => x == y))) ∧ Below w.heap.size w w' := by
  have CI : Calls Try.prog 145 #[v, .int .i64 x] w fun e w' => e = .returned (.int .i64 (ixF (fun y => x == y) l)) ∧ w' = w := by
    have H := Lib.hid h
    obtain ⟨a, cap, rfl, _⟩ := h
    go_enter Try.func145, Try.ntmps145
    go_wp2_with fail
    go_loopw [8] (fun i wr => ∃ k : Nat, i = .int .i64 k ∧ k ≤ l.length ∧ wr = w ∧ Hid (∀ i (_ : i < k) (hi : i < l.length), (x == l[i]) = false)) (fun i _ => l.length - (intOf i).toNat)
    case atStart => exact ⟨0, rfl, Nat.zero_le _, rfl, Lib.hid (fun i hi => absurd hi (by omega))⟩
    case round =>
      obtain ⟨k, rfl, hk, rfl, HS⟩ := hrel
      by_cases hlt : k < l.length
      · have hi1 : (k : Int) < (l.length : Int) := by omega
        obtain ⟨a', cap', hv, hc⟩ := H.out
        obtain ⟨b, off, ha, hcell⟩ := hc (fun e => by rw [e] at hlt; simp at hlt)
        subst ha
        cases hv
        have x0 := hcell k hlt
        have HY := Lib.hid (fun (e : (x == l[k]) = true) => ixF_hit (p := fun y => x == y) hlt e (fun i hi => HS.out i hi (by omega)))
        have HN := Lib.hid (fun (e : (x == l[k]) = false) i (h1 : i < k + 1) (h2 : i < l.length) => (show (x == l[i]) = false from by
          by_cases h3 : i < k
          · exact HS.out i h3 h2
          · have : i = k := by omega
            subst this
            exact e))
        clear hcell hc
        generalize l[k] = y at *
        cases hp : (x == y) with
        | true =>
          have HR := Lib.hid (HY.out hp)
          clear HY HN
          go_wp2_with fail
          go_ret
          exact ⟨cret_i HR.out.symm, rfl⟩
        | false =>
          have HR := Lib.hid (HN.out hp)
          clear HY HN
          go_wp2_with fail
          go_roundw
          case rel => exact ⟨k + 1, by go_num, by omega, by first | rfl | trivial, HR⟩
          case measure => simp [intOf]; omega
      · have hi1 : ¬ (k : Int) < (l.length : Int) := by omega
        have HR := Lib.hid (ixF_none (p := fun y => x == y) (l := l) (fun i hi => HS.out i (by omega) hi))
        go_wp2_with fail
        go_ret
        exact ⟨cret_i HR.out.symm, rfl⟩
  have C := Lib.hid CI
  have HG := Lib.hid (ixF_ge (fun y => x == y) l)
  clear CI h
  go_enter Try.func98, Try.ntmps98
  go_wp2_with fail
  refine (C.out).mono ?_; rintro e w1 ⟨rfl, rfl⟩
  generalize hz : ixF (fun y => x == y) l = z at *
  clear hz
  go_wp2_with fail
  go_ret
  exact ⟨cret_b HG.out, Below.refl _ _⟩
end Go.Proofs.Ytaeflfgkdjfnfaa
