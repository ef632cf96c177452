/- Layer 38 (glob): does just one text match, by the code. -/
import Derived.Test.YtfnjmboflegaaaaDoorGx
namespace Go.Proofs.YtfnjmboflegaaaaDoor
open Go.RowKit

def plainS (ps : List Prt) : Bool := ps.all fun p => (aloneS p).isSome
def PlainPost (w : World) (ps : List Prt) (e : Ending) (w' : World) : Prop := e = .returned (.tuple #[.string (if plainS ps = true then runesBytes (aheadS ps) else ⟨#[]⟩), .bool (plainS ps)]) ∧ Below w.heap.size w w'
set_option maxHeartbeats 4000000 in
theorem plain_any (s : ByteArray) (pv : Value) (q : List (Prt × Value)) (hq : q.length ≤ 100) (hsp : ∀ x ∈ q, x.1.sp.length ≤ 200) (w : World) (h : PtO w pv q) :
    Calls Tryd.prog 13 #[.agg #[.string s, pv]] w (PlainPost w (psq q)) := by
  obtain ⟨pa, pc, rfl⟩ := own_form h.1
  have START := Hid.mk' (show plainS (psq q) = plainS (psq (q.drop 0)) ∧ Below w.heap.size w (w.alloc (.cells #[.string s, .slice pa q.length pc] 24)) ∧ Bx (w.alloc (.cells #[.string s, .slice pa q.length pc] 24)) w.heap.size 24 #[.string s, .slice pa q.length pc] from ⟨by simp, (Below.refl _ _).alloc (Nat.le_refl _) _, Bx.fresh w _ _⟩)
  have HH := Hid.mk' h
  have HSP := Hid.mk' hsp
  clear h hsp
  go_enter Tryd.func13, Tryd.ntmps13
  go_wp2_with fail
  go_loopw [11] (fun iv wr => ∃ k : Nat, iv = .int .i64 k ∧ k ≤ q.length ∧ Hid (plainS (psq q) = plainS (psq (q.drop k)) ∧ Below w.heap.size w wr ∧ Bx wr w.heap.size 24 #[.string s, .slice pa q.length pc])) (fun iv _ => q.length - (intOf iv).toNat)
  case atStart => exact ⟨0, rfl, Nat.zero_le _, START⟩
  case round =>
    clear START
    obtain ⟨k, rfl, hk, HM⟩ := hrel
    have hbb := HM.out.2.1.size
    by_cases hlt : k < q.length
    · have hpt := HH.out.next HM.out.2.1
      obtain ⟨g, cap, hv, hle, c0, c1, c2⟩ := hpt.at k hlt
      cases hv
      obtain ⟨xa, xc, hx⟩ := own_form (hpt.2 _ (List.getElem_mem hlt))
      have hdr : q.drop k = q[k] :: q.drop (k + 1) := List.drop_eq_getElem_cons hlt
      have hC := fun (o : Obj) => alone_any q[k].1 q[k].2 (HSP.out _ (List.getElem_mem hlt)) (wr.alloc o) ((hpt.2 _ (List.getElem_mem hlt)).next ((Below.refl wr.heap.size wr).alloc (Nat.le_refl _) o))
      have hi : (k : Int) < (q.length : Int) := by omega
      rw [hx] at c2 hC
      have heq := HM.out.1
      rw [hdr] at heq
      generalize q[k] = x at *
      obtain ⟨⟨row, nt, sp⟩, xv⟩ := x
      dsimp only at *
      have C := Hid.mk' (hC (.cells #[.bool row, .bool nt, .slice xa sp.length xc] 57))
      have HB := Hid.mk' (And.intro (HM.out.2.1.alloc hbb (.cells #[.bool row, .bool nt, .slice xa sp.length xc] 57)) (HM.out.2.2.past (.cells #[.bool row, .bool nt, .slice xa sp.length xc] 57)))
      clear hC hpt hx hdr
      cases ho : aloneS ⟨row, nt, sp⟩ with
      | none =>
        have HA := Hid.mk' (show plainS (psq q) = false by rw [heq]; simp [psq, plainS, ho])
        rw [ho] at C
        clear ho heq
        go_wp2_with fail
        refine C.out.mono ?_; rintro e w2 ⟨rfl, hb2⟩
        have HB2 := Hid.mk' (bnext HB.out.1 hb2)
        clear hb2 C
        go_wp2_with fail
        exact bodyPost_ret (v := .tuple #[.string ⟨#[]⟩, .bool false]) (by simp [results, Tryd.results13, go_sem]) rfl ⟨by rw [HA.out]; rfl, HB2.out⟩
      | some r =>
        have HA := Hid.mk' (show plainS (psq q) = plainS (psq (q.drop (k + 1))) by rw [heq]; simp [psq, plainS, ho])
        rw [ho] at C
        clear ho heq
        go_wp2_with fail
        refine C.out.mono ?_; rintro e w2 ⟨rfl, hb2⟩
        have HB2 := Hid.mk' (And.intro HA.out (And.intro (bnext HB.out.1 hb2) (HB.out.2.next hb2)))
        clear hb2 C
        go_wp2_with fail
        go_roundw
        case rel => exact ⟨k + 1, by go_num, by omega, HB2⟩
        case measure => simp [intOf]; omega
    · have HA := Hid.mk' (show plainS (psq q) = true by rw [HM.out.1, List.drop_of_length_le (by omega)]; rfl)
      have hi : ¬ (k : Int) < (q.length : Int) := by omega
      have C := Hid.mk' (ahead_any s (.slice pa q.length pc) q hq HSP.out wr (HH.out.next HM.out.2.1))
      have HB := Hid.mk' HM.out.2.1
      obtain ⟨o0, o1⟩ := And.intro (HM.out.2.2.read (i := 0) rfl) (HM.out.2.2.read (i := 1) rfl)
      clear HM
      go_wp2_with fail
      refine C.out.mono ?_; rintro e w2 ⟨rfl, hb2⟩
      have HB2 := Hid.mk' (bnext HB.out hb2)
      clear hb2 C o0 o1
      go_wp2_with fail
      exact bodyPost_ret (v := .tuple #[.string (runesBytes (aheadS (psq q))), .bool true]) (by simp [results, Tryd.results13, go_sem]) rfl ⟨by rw [HA.out]; rfl, HB2.out⟩
end Go.Proofs.YtfnjmboflegaaaaDoor
