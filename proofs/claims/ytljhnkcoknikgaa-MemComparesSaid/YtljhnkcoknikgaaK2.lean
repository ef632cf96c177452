/- Layer 3 (wire): bytes in memory: a slice that reads as bytes, a row of bytes of the call's own. -/
import Derived.Test.YtljhnkcoknikgaaK1
import Derived.Test.YtljhnkcoknikgaaProg
import Derived.WalkSpells
import Derived.WalkLawsBesides
import Derived.Lib.AppendStr
import Derived.Lib.AppendZeros
import Derived.Laws.AppendOwnNone
import Derived.Laws.AppendOwn
import Derived.OwnWalk
import Derived.Lib.SliceRun
namespace Go.Proofs.Ytljhnkcoknikgaa
open Go.RowKit

theorem addp (b off j : Nat) : (⟨b, off, none⟩ : Addr).add j = ⟨b, off + j, none⟩ := by
  unfold Addr.add
  by_cases h : j = 0 <;> simp [h]

def bv (l : List UInt8) : List Value := l.map fun b => Value.int .u8 (b.toNat : Int)
theorem bv_len (l : List UInt8) : (bv l).length = l.length := by simp [bv]
theorem bv_app (l r : List UInt8) : bv (l ++ r) = bv l ++ bv r := by simp [bv]
theorem bv_one (l : List UInt8) : ∀ u ∈ bv l, u.oneCell' = true := by
  intro u hu
  obtain ⟨b, _, rfl⟩ := List.mem_map.1 hu
  rfl
theorem bv_at (l : List UInt8) (i : Nat) (h : i < l.length) : (bv l)[i]? = some (.int .u8 (l[i].toNat : Int)) := by simp [bv, h]
theorem bv_str (s : ByteArray) : Lib.strCells s = bv s.data.toList := rfl
theorem b_info : (Try.prog.info? 5).map (fun i => (i.zero, i.size, i.bytes)) = some (some (.int .u8 0), 1, 1) := by kernel_rfl
/-- A slice that reads as bytes. -/
def BS (w : World) (v : Value) (l : List UInt8) : Prop :=
  ∃ a cap, v = .slice a l.length cap ∧ l.length ≤ cap ∧ (a = none → cap = 0) ∧ (l ≠ [] → ∃ b off, a = some ⟨b, off, none⟩ ∧ ∀ i (h : i < l.length), w.cell? ⟨b, off + i, none⟩ = some (.int .u8 (l[i].toNat : Int)))
/-- A row of bytes that the call owns. -/
def BO (w : World) (B : Nat) (v : Value) (l : List UInt8) : Prop := w.ownsRow B 5 1 v l.length (bv l)
section
variable {w w' : World} {B : Nat} {v : Value} {l : List UInt8}
theorem BO.bs (h : BO w B v l) : BS w v l := by
  rcases Nat.eq_zero_or_pos l.length with h0 | h0
  · have hl : l = [] := List.eq_nil_of_length_eq_zero h0
    subst hl
    rcases h.2 with ⟨rfl, _⟩ | ⟨g, cap, cur, rfl, _⟩
    · exact ⟨none, 0, rfl, Nat.le_refl _, fun _ => rfl, fun hn => absurd rfl hn⟩
    · exact ⟨_, cap, rfl, Nat.zero_le _, (fun h => by cases h), fun hn => absurd rfl hn⟩
  · have h2 := h
    obtain ⟨g, cap, rfl, _, _⟩ := World.ownsRow.form h h0
    refine ⟨_, cap, rfl, ?_, (fun h => by cases h), fun _ => ⟨g, 0, rfl, fun i hi => ?_⟩⟩
    · rcases h2.2 with ⟨h', _⟩ | ⟨_, _, _, h', _, _, hle, _⟩
      · simp at h'
      · simp at h'; omega
    · rw [Nat.zero_add, World.ownsRow.cellAt h2 i (by omega)]; exact bv_at l i hi
theorem BS.next (h : BS w v l) (hb : Below w.heap.size w w') : BS w' v l := by
  obtain ⟨a, cap, hv, hl, hn, hr⟩ := h
  refine ⟨a, cap, hv, hl, hn, fun h0 => ?_⟩
  obtain ⟨b, off, ha, hc⟩ := hr h0
  refine ⟨b, off, ha, fun i hi => ?_⟩
  have h1 := hc i hi
  rw [hb.cell (World.block_lt_of_cell? w _ h1)]
  exact h1
theorem BO.next (h : BO w B v l) (hb : Below w.heap.size w w') : BO w' B v l := own_next h hb
theorem BO.alloc (h : BO w B v l) (o : Obj) : BO (w.alloc o) B v l := World.ownsRow.alloc h o
theorem BO.base {C : Nat} (h : BO w B v l) (hC : C ≤ B) : BO w C v l := by
  refine ⟨h.1, ?_⟩
  rcases h.2 with h2 | ⟨g, cap, cur, a, b, c⟩
  · exact .inl h2
  · exact .inr ⟨g, cap, cur, a, Nat.le_trans hC b, c⟩
theorem BO.nil (w : World) (B : Nat) : BO w B (.slice none 0 0) [] := World.ownsRow_nil _ _ _ _
theorem BS.nil (w : World) : BS w (.slice none 0 0) [] := ⟨none, 0, rfl, Nat.le_refl _, fun _ => rfl, fun h => absurd rfl h⟩
end
/-- What a call answers that makes a row of bytes: a row of its own; nothing else has turned. -/
def Made (w : World) (l : List UInt8) (e : Ending) (w' : World) : Prop := ∃ v, e = .returned v ∧ BO w' w.heap.size v l ∧ Below w.heap.size w w'

/-- slices.Clone[[]byte,byte]. -/
theorem sclone_some (b off n cap : Nat) (l : List UInt8) (hl : l.length = n) (hm : n ≤ 100000) (w : World) (hc : ∀ i (h : i < l.length), w.cell? ⟨b, off + i, none⟩ = some (.int .u8 (l[i].toNat : Int))) :
    Calls Try.prog 39 #[.slice (some ⟨b, off, none⟩) n cap] w (Made w l) := by
  obtain ⟨i0, hi, hz0, hz1, hz2⟩ := info_parts b_info
  have HI := Hid.mk' (And.intro hi (And.intro hz0 (And.intro hz1 hz2)))
  clear hi hz0 hz1 hz2
  have HC := Hid.mk' hc
  have HL := Hid.mk' hl
  clear hc hl
  have hnil : ∀ w, (binOp .eql 59 (.slice (some ⟨b, off, none⟩) n cap) (.slice none 0 0)).run Try.prog w = .ok (.bool false) w := fun w : World => Lib.run_eql_slice_nil (P := Try.prog) w 59 5 (some ⟨b, off, none⟩) n cap 0 0 Try.underlying59
  have own0 : (w.alloc (.cells #[] 5)).ownsRow w.heap.size 5 1 (.slice (some ⟨w.heap.size, 0, none⟩) 0 0) 0 [] := World.ownsRow_made w #[] 0 (Nat.le_refl _) (by unfold maxLen; omega) rfl
  go_enter Try.func39, Try.ntmps39
  go_wp2_with (at_builtin; refine wpList_append_own _ rfl (.tmp 5) (.tmp 6) 59 rfl w.heap.size 5 i0 _ 1 1 Try.underlying59 HI.out.1 HI.out.2.1 HI.out.2.2.1 HI.out.2.2.2 rfl (by decide) _ 0 [] rfl own0 ⟨b, off, none⟩ n cap (bv l) rfl ?c1 ?c2 (bv_one l) ?c4 ?c5 ?c6 ?_)
  case c1 => rw [bv_len, HL.out]; omega
  case c2 =>
    intro j u hu
    have hj : j < l.length := by have := (List.getElem?_eq_some_iff.1 hu).1; rwa [bv_len] at this
    rw [bv_at l j hj] at hu
    cases hu
    rw [addp]
    have h1 := HC.out j hj
    rw [((Below.refl _ w).alloc (Nat.le_refl _) _).cell (World.block_lt_of_cell? w _ h1)]
    exact h1
  case c4 => unfold maxLen; omega
  case c5 => omega
  case c6 => simp
  intro v1 w1 hown1 hgr1 _
  have hb1 : Below w.heap.size w w1 := ((Below.refl _ w).alloc (Nat.le_refl _) _).grown hgr1 (by simp) (fun k hk => by cases hk; exact Nat.le_refl _)
  have hO : BO w1 w.heap.size v1 l := by
    unfold BO
    rw [HL.out]
    simpa using hown1
  clear hown1 hgr1 own0 hnil
  go_wp2_with fail
  go_ret
  exact ⟨_, rfl, hO, hb1⟩
theorem sclone_nil (w : World) :
    Calls Try.prog 39 #[.slice none 0 0] w (Made w []) := by
  have hnil : ∀ w, (binOp .eql 59 (.slice none 0 0) (.slice none 0 0)).run Try.prog w = .ok (.bool true) w := fun w : World => Lib.run_eql_slice_nil (P := Try.prog) w 59 5 none 0 0 0 0 Try.underlying59
  go_enter Try.func39, Try.ntmps39
  go_wp2_with fail
  go_ret
  exact ⟨_, rfl, BO.nil _ _, Below.refl _ _⟩
theorem sclone_zero (a : Addr) (cap : Nat) (w : World) :
    Calls Try.prog 39 #[.slice (some a) 0 cap] w (Made w []) := by
  obtain ⟨i0, hi, hz0, hz1, hz2⟩ := info_parts b_info
  have HI := Hid.mk' (And.intro hi (And.intro hz0 (And.intro hz1 hz2)))
  clear hi hz0 hz1 hz2
  have hnil : ∀ w, (binOp .eql 59 (.slice (some a) 0 cap) (.slice none 0 0)).run Try.prog w = .ok (.bool false) w := fun w : World => Lib.run_eql_slice_nil (P := Try.prog) w 59 5 (some a) 0 cap 0 0 Try.underlying59
  have own0 : (w.alloc (.cells #[] 5)).ownsRow w.heap.size 5 1 (.slice (some ⟨w.heap.size, 0, none⟩) 0 0) 0 [] := World.ownsRow_made w #[] 0 (Nat.le_refl _) (by unfold maxLen; omega) rfl
  go_enter Try.func39, Try.ntmps39
  go_wp2_with (at_builtin; refine wpList_append_own _ rfl (.tmp 5) (.tmp 6) 59 rfl w.heap.size 5 i0 _ 1 1 Try.underlying59 HI.out.1 HI.out.2.1 HI.out.2.2.1 HI.out.2.2.2 rfl (by decide) _ 0 [] rfl own0 a 0 cap [] rfl rfl (by intro j u hu; simp at hu) (by intro u hu; cases hu) ?c4 ?c5 ?c6 ?_)
  case c4 => unfold maxLen; omega
  case c5 => omega
  case c6 => simp
  intro v1 w1 hown1 hgr1 _
  have hb1 : Below w.heap.size w w1 := ((Below.refl _ w).alloc (Nat.le_refl _) _).grown hgr1 (by simp) (fun k hk => by cases hk; exact Nat.le_refl _)
  have hO : BO w1 w.heap.size v1 [] := by
    unfold BO
    simpa [bv] using hown1
  clear hown1 hgr1 own0 hnil
  go_wp2_with fail
  go_ret
  exact ⟨_, rfl, hO, hb1⟩
theorem sclone_any (v : Value) (l : List UInt8) (hm : l.length ≤ 100000) (w : World) (h : BS w v l) :
    Calls Try.prog 39 #[v] w (Made w l) := by
  obtain ⟨a, cap, rfl, hle, hn, hc⟩ := h
  by_cases h0 : l = []
  · subst h0
    cases a with
    | none => rw [hn rfl]; exact sclone_nil w
    | some a => exact sclone_zero a cap w
  · obtain ⟨b, off, rfl, hcell⟩ := hc h0
    exact sclone_some b off l.length cap l rfl hm w hcell
/-- bytes.Clone. -/
theorem bclone_some (b off n cap : Nat) (l : List UInt8) (hl : l.length = n) (hm : n ≤ 100000) (w : World) (hc : ∀ i (h : i < l.length), w.cell? ⟨b, off + i, none⟩ = some (.int .u8 (l[i].toNat : Int))) :
    Calls Try.prog 118 #[.slice (some ⟨b, off, none⟩) n cap] w (Made w l) := by
  obtain ⟨i0, hi, hz0, hz1, hz2⟩ := info_parts b_info
  have HI := Hid.mk' (And.intro hi (And.intro hz0 (And.intro hz1 hz2)))
  clear hi hz0 hz1 hz2
  have HC := Hid.mk' hc
  have HL := Hid.mk' hl
  clear hc hl
  have hnil : ∀ w, (binOp .eql 59 (.slice (some ⟨b, off, none⟩) n cap) (.slice none 0 0)).run Try.prog w = .ok (.bool false) w := fun w : World => Lib.run_eql_slice_nil (P := Try.prog) w 59 5 (some ⟨b, off, none⟩) n cap 0 0 Try.underlying59
  have own0 : (w.alloc (.cells #[] 5)).ownsRow w.heap.size 5 1 (.slice (some ⟨w.heap.size, 0, none⟩) 0 0) 0 [] := World.ownsRow_made w #[] 0 (Nat.le_refl _) (by unfold maxLen; omega) rfl
  go_enter Try.func118, Try.ntmps118
  go_wp2_with (at_builtin; refine wpList_append_own _ rfl (.tmp 5) (.tmp 6) 59 rfl w.heap.size 5 i0 _ 1 1 Try.underlying59 HI.out.1 HI.out.2.1 HI.out.2.2.1 HI.out.2.2.2 rfl (by decide) _ 0 [] rfl own0 ⟨b, off, none⟩ n cap (bv l) rfl ?c1 ?c2 (bv_one l) ?c4 ?c5 ?c6 ?_)
  case c1 => rw [bv_len, HL.out]; omega
  case c2 =>
    intro j u hu
    have hj : j < l.length := by have := (List.getElem?_eq_some_iff.1 hu).1; rwa [bv_len] at this
    rw [bv_at l j hj] at hu
    cases hu
    rw [addp]
    have h1 := HC.out j hj
    rw [((Below.refl _ w).alloc (Nat.le_refl _) _).cell (World.block_lt_of_cell? w _ h1)]
    exact h1
  case c4 => unfold maxLen; omega
  case c5 => omega
  case c6 => simp
  intro v1 w1 hown1 hgr1 _
  have hb1 : Below w.heap.size w w1 := ((Below.refl _ w).alloc (Nat.le_refl _) _).grown hgr1 (by simp) (fun k hk => by cases hk; exact Nat.le_refl _)
  have hO : BO w1 w.heap.size v1 l := by
    unfold BO
    rw [HL.out]
    simpa using hown1
  clear hown1 hgr1 own0 hnil
  go_wp2_with fail
  go_ret
  exact ⟨_, rfl, hO, hb1⟩
theorem bclone_nil (w : World) :
    Calls Try.prog 118 #[.slice none 0 0] w (Made w []) := by
  have hnil : ∀ w, (binOp .eql 59 (.slice none 0 0) (.slice none 0 0)).run Try.prog w = .ok (.bool true) w := fun w : World => Lib.run_eql_slice_nil (P := Try.prog) w 59 5 none 0 0 0 0 Try.underlying59
  go_enter Try.func118, Try.ntmps118
  go_wp2_with fail
  go_ret
  exact ⟨_, rfl, BO.nil _ _, Below.refl _ _⟩
theorem bclone_zero (a : Addr) (cap : Nat) (w : World) :
    Calls Try.prog 118 #[.slice (some a) 0 cap] w (Made w []) := by
  obtain ⟨i0, hi, hz0, hz1, hz2⟩ := info_parts b_info
  have HI := Hid.mk' (And.intro hi (And.intro hz0 (And.intro hz1 hz2)))
  clear hi hz0 hz1 hz2
  have hnil : ∀ w, (binOp .eql 59 (.slice (some a) 0 cap) (.slice none 0 0)).run Try.prog w = .ok (.bool false) w := fun w : World => Lib.run_eql_slice_nil (P := Try.prog) w 59 5 (some a) 0 cap 0 0 Try.underlying59
  have own0 : (w.alloc (.cells #[] 5)).ownsRow w.heap.size 5 1 (.slice (some ⟨w.heap.size, 0, none⟩) 0 0) 0 [] := World.ownsRow_made w #[] 0 (Nat.le_refl _) (by unfold maxLen; omega) rfl
  go_enter Try.func118, Try.ntmps118
  go_wp2_with (at_builtin; refine wpList_append_own _ rfl (.tmp 5) (.tmp 6) 59 rfl w.heap.size 5 i0 _ 1 1 Try.underlying59 HI.out.1 HI.out.2.1 HI.out.2.2.1 HI.out.2.2.2 rfl (by decide) _ 0 [] rfl own0 a 0 cap [] rfl rfl (by intro j u hu; simp at hu) (by intro u hu; cases hu) ?c4 ?c5 ?c6 ?_)
  case c4 => unfold maxLen; omega
  case c5 => omega
  case c6 => simp
  intro v1 w1 hown1 hgr1 _
  have hb1 : Below w.heap.size w w1 := ((Below.refl _ w).alloc (Nat.le_refl _) _).grown hgr1 (by simp) (fun k hk => by cases hk; exact Nat.le_refl _)
  have hO : BO w1 w.heap.size v1 [] := by
    unfold BO
    simpa [bv] using hown1
  clear hown1 hgr1 own0 hnil
  go_wp2_with fail
  go_ret
  exact ⟨_, rfl, hO, hb1⟩
theorem bclone_any (v : Value) (l : List UInt8) (hm : l.length ≤ 100000) (w : World) (h : BS w v l) :
    Calls Try.prog 118 #[v] w (Made w l) := by
  obtain ⟨a, cap, rfl, hle, hn, hc⟩ := h
  by_cases h0 : l = []
  · subst h0
    cases a with
    | none => rw [hn rfl]; exact bclone_nil w
    | some a => exact bclone_zero a cap w
  · obtain ⟨b, off, rfl, hcell⟩ := hc h0
    exact bclone_some b off l.length cap l rfl hm w hcell
end Go.Proofs.Ytljhnkcoknikgaa
