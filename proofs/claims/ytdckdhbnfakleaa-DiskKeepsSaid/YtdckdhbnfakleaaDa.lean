/- Layer 11 (disk): a disk with at most one file in memory; operate, Crash, Arm, Room, find, operateOn, Used, New. -/
import Derived.Test.YtdckdhbnfakleaaBy
import Derived.Test.YtdckdhbnfakleaaKs
import Derived.Test.YtdckdhbnfakleaaChecked
import Derived.Maps.RangeWalk
import Derived.StillTailTactics
import Derived.RegionTactic
import Derived.Outline
namespace Go.Proofs.Ytdckdhbnfakleaa
open Go.RowKit
open Go.Maps (Keyed)

/-- How a pointer to a file reads: by its block. -/
def Rp (v : Value) : Option (DataW Unit × List MemPlace) := match v with
  | .pointer (some ⟨b, 0, none⟩) => some (.lit (.int .i64 (b : Int)), [])
  | .pointer none => some (.nil, [])
  | _ => none
theorem Rp_some (b : Nat) : Rp (.pointer (some ⟨b, 0, none⟩)) = some (.lit (.int .i64 (b : Int)), []) := rfl
theorem Rp_inv {v : Value} {b : Nat} {ps : List MemPlace} (h : Rp v = some (.lit (.int .i64 (b : Int)), ps)) : v = .pointer (some ⟨b, 0, none⟩) := by
  unfold Rp at h
  split at h
  · simp at h
    have h1 := Int.ofNat.inj h.1
    rw [h1]
  · simp at h
  · simp at h
theorem Rp_nil {v : Value} {ps : List MemPlace} (h : Rp v = some (.nil, ps)) : v = .pointer none := by
  unfold Rp at h
  split at h
  · simp at h
  · rfl
  · simp at h
def mkP (o : Option Nat) : Value := match o with | none => .pointer none | some b => .pointer (some ⟨b, 0, none⟩)
theorem Rp_mk (v : Value) (y : DataW Unit × List MemPlace) (h : Rp v = some y) : ∃ c, v = mkP c := by
  unfold Rp at h
  split at h
  · exact ⟨some _, rfl⟩
  · exact ⟨none, rfl⟩
  · simp at h
theorem strLaw : Keyed Try.prog 9 := Maps.string_keyed Try.underlying9
theorem zeroP (w : World) : (zeroValue 90).run Try.prog w = .ok (.pointer none) w := by kernel_rfl
/-- No file; one file. -/
def D0 : DataW Unit := .map []
def D1 (s : ByteArray) (F : Nat) : DataW Unit := .map [(.string s.data.toList, .lit (.int .i64 (F : Int)))]
theorem D1_at (s : ByteArray) (F : Nat) (z : DataW Unit) : (D1 s F).atKey (.string s.data.toList) z = .lit (.int .i64 (F : Int)) := by
  simp [D1, DataW.atKey, Lit.sameKey]
theorem D1_has (s : ByteArray) (F : Nat) : Maps.has (D1 s F) (.string s.data.toList) = true := by
  simp [D1, Maps.has, Lit.sameKey]
theorem D0_put (s : ByteArray) (F : Nat) : D0.put (.string s.data.toList) (.lit (.int .i64 (F : Int))) = D1 s F := by
  simp [D0, D1, DataW.put, DataW.insert]
section
variable {w : World} {M n F : Nat} {s : ByteArray}
theorem look1 (h : w.ownsMap Try.prog 9 Rp M n (D1 s F)) (hs : s.size ≤ maxLen) :
    (Instr.lookup 87 (.map (some M)) (.string s) false).run Try.prog w = .ok (.pointer (some ⟨F, 0, none⟩)) w := by
  obtain ⟨v, ps, hrun, hv⟩ := h.lookup strLaw Try.underlying87 (zeroP w) (zd := .nil) (zp := []) rfl (WideMaps.keyOf_string_mk Try.underlying9 hs)
  rw [D1_at] at hv
  rw [Rp_inv hv] at hrun
  exact hrun
theorem lookok1 (h : w.ownsMap Try.prog 9 Rp M n (D1 s F)) (hs : s.size ≤ maxLen) :
    (Instr.lookup 87 (.map (some M)) (.string s) true).run Try.prog w = .ok (.tuple #[.pointer (some ⟨F, 0, none⟩), .bool true]) w := by
  obtain ⟨v, ps, hrun, hv⟩ := h.look_ok strLaw Try.underlying87 (zeroP w) (zd := .nil) (zp := []) rfl (WideMaps.keyOf_string_mk Try.underlying9 hs)
  rw [D1_at] at hv
  rw [Rp_inv hv, D1_has] at hrun
  exact hrun
theorem lookok0 (h : w.ownsMap Try.prog 9 Rp M n D0) (hs : s.size ≤ maxLen) :
    (Instr.lookup 87 (.map (some M)) (.string s) true).run Try.prog w = .ok (.tuple #[.pointer none, .bool false]) w := by
  obtain ⟨v, ps, hrun, hv⟩ := h.look_ok strLaw Try.underlying87 (zeroP w) (zd := .nil) (zp := []) rfl (WideMaps.keyOf_string_mk Try.underlying9 hs)
  have e1 : D0.atKey (.string s.data.toList) (.nil : DataW Unit) = .nil := rfl
  have e2 : Maps.has D0 (.string s.data.toList) = false := rfl
  rw [e1] at hv
  rw [Rp_nil hv, e2] at hrun
  exact hrun
end
/-- The disk's own cells. -/
def Dk (w : World) (D : Nat) (fs : Value) (room : Int) (off : Bool) (ops ahead : Int) : Prop := Bx w D 89 #[fs, .int .i64 room, .bool off, .int .i64 ops, .int .i64 ahead]
/-- What an operation comes to: its code, whether the power is off behind it, and what is armed. -/
def opS (ahead : Int) : Int × Bool × Int := if ahead = -1 then (0, false, -1) else if ahead = 0 then (110, true, -1) else (0, false, ahead - 1)
theorem crash_any (D : Nat) (fs : Value) (room : Int) (off : Bool) (ops ahead : Int) (w : World) (h : Dk w D fs room off ops ahead) :
    Calls Try.prog 45 #[.pointer (some ⟨D, 0, none⟩)] w fun e w' => e = .returned (.tuple #[]) ∧ Dk w' D fs room true ops (-1) ∧ w.grownBy w' (some D) := by
  have hb2 := (h.put 2 (.bool true)).put 4 (.int .i64 (-1))
  have HB := Hid.mk' hb2
  clear hb2
  unfold Dk at h
  obtain ⟨c0, c1, c2, c3, c4⟩ := h.reads5
  obtain ⟨f0, f1, f2, f3, f4⟩ := h.opens5
  clear h
  go_enter Try.func45, Try.ntmps45
  go_wp2_with fail
  go_end0
  exact ⟨rfl, HB.out, gb_trans (gb_set _ _ _ _) (gb_set _ _ _ _)⟩
theorem arm_any (D : Nat) (fs : Value) (room : Int) (off : Bool) (ops ahead n : Int) (w : World) (h : Dk w D fs room off ops ahead) :
    Calls Try.prog 44 #[.pointer (some ⟨D, 0, none⟩), .int .i64 n] w fun e w' => e = .returned (.tuple #[]) ∧ Dk w' D fs room off ops (max n 0) ∧ w.grownBy w' (some D) := by
  have hb2 := h.put 4 (.int .i64 (max n 0))
  have HB := Hid.mk' hb2
  clear hb2
  unfold Dk at h
  obtain ⟨c0, c1, c2, c3, c4⟩ := h.reads5
  obtain ⟨f0, f1, f2, f3, f4⟩ := h.opens5
  clear h
  go_enter Try.func44, Try.ntmps44
  go_wp2_with fail
  go_end0
  exact ⟨rfl, HB.out, gb_set _ _ _ _⟩
theorem room_any (D : Nat) (fs : Value) (room : Int) (off : Bool) (ops ahead n : Int) (w : World) (h : Dk w D fs room off ops ahead) :
    Calls Try.prog 66 #[.pointer (some ⟨D, 0, none⟩), .int .i64 n] w fun e w' => e = .returned (.tuple #[]) ∧ Dk w' D fs (max n 0) off ops ahead ∧ w.grownBy w' (some D) := by
  have hb2 := h.put 1 (.int .i64 (max n 0))
  have HB := Hid.mk' hb2
  clear hb2
  unfold Dk at h
  obtain ⟨c0, c1, c2, c3, c4⟩ := h.reads5
  obtain ⟨f0, f1, f2, f3, f4⟩ := h.opens5
  clear h
  go_enter Try.func66, Try.ntmps66
  go_wp2_with fail
  go_end0
  exact ⟨rfl, HB.out, gb_set _ _ _ _⟩
theorem operate_any (D : Nat) (fs : Value) (room ops ahead : Int) (h1 : -1 ≤ ahead) (h2 : ahead ≤ 9223372036854775807) (ho : 0 ≤ ops) (ho2 : ops ≤ 1000) (w : World) (h : Dk w D fs room false ops ahead) :
    Calls Try.prog 69 #[.pointer (some ⟨D, 0, none⟩)] w fun e w' => e = .returned (.int .i64 (opS ahead).1) ∧ Dk w' D fs room (opS ahead).2.1 (ops + 1) (opS ahead).2.2 ∧ w.grownBy w' (some D) := by
  have hb2 : Dk _ D fs room false (ops + 1) ahead := h.put 3 (.int .i64 (ops + 1))
  have hg2 := gb_set w D 3 (.int .i64 (ops + 1))
  have HB := Hid.mk' (And.intro hb2 hg2)
  have CC := Hid.mk' (crash_any D fs room false (ops + 1) ahead _ hb2)
  clear hb2 hg2
  unfold Dk at h
  obtain ⟨c0, c1, c2, c3, c4⟩ := h.reads5
  obtain ⟨f0, f1, f2, f3, f4⟩ := h.opens5
  have hi := h.inside
  clear h
  by_cases ha : ahead = -1
  · subst ha
    go_enter Try.func69, Try.ntmps69
    go_wp2_with fail
    go_ret
    exact ⟨rfl, HB.out.1, HB.out.2⟩
  · by_cases h0 : ahead = 0
    · subst h0
      go_enter Try.func69, Try.ntmps69
      go_wp2_with fail
      refine CC.out.mono ?_; rintro e w2 ⟨rfl, hd, hg⟩
      have HD := Hid.mk' (And.intro hd hg)
      clear hd hg
      go_wp2_with fail
      go_ret
      exact ⟨rfl, HD.out.1, gb_trans HB.out.2 HD.out.2⟩
    · have t1 : (ahead == -1) = false := by simp [ha]
      have t0 : (ahead == 0) = false := by simp [h0]
      have hpos : 1 ≤ ahead := by omega
      have HS := Hid.mk' (show opS ahead = (0, false, ahead - 1) by unfold opS; rw [if_neg ha, if_neg h0])
      have HE := Hid.mk' (HB.out.1.put 4 (.int .i64 (ahead - 1)))
      clear ha h0
      go_enter Try.func69, Try.ntmps69
      go_wp2_with fail
      go_ret
      rw [HS.out]
      exact ⟨rfl, HE.out, gb_trans HB.out.2 (gb_set _ _ _ _)⟩
end Go.Proofs.Ytdckdhbnfakleaa
