/- Layer 3 (wire): Put, the code's. -/
import Derived.Test.YtljhnkcoknikgaaK3
import Derived.Laws.BitsAllLaws
import Derived.Laws.BitsLemmas
namespace Go.Proofs.Ytljhnkcoknikgaa
open Go.RowKit

/-- The digits' array, from a place on. -/
def Dig (w : World) (D : Nat) (f m : Nat) (L : List UInt8) : Prop := ∃ (cs : Array Value) (suf : List UInt8), Bx w D 175 cs ∧ cs.size = 9 ∧ cs.toList.drop f = bv suf ∧ hi m ++ suf = L
theorem dig_put {w : World} {D f m : Nat} {L : List UInt8} (h : Dig w D (f + 1) m L) (hf : f < 9) (h0 : m ≠ 0) (hm : m < 128 ^ 9) : Dig (w.setCell ⟨D, f, none⟩ (.int .u8 ((m : Int) % 128 + 128))) D f (m / 128) L := by
  obtain ⟨cs, suf, hb, hs, hd, hl⟩ := h
  refine ⟨_, up m :: suf, hb.put f _, by simpa using hs, ?_, ?_⟩
  · have hlen : f < (cs.toList.set f (.int .u8 ((m : Int) % 128 + 128))).length := by simp; omega
    have hu := up_nat m
    rw [Array.toList_setIfInBounds, List.drop_eq_getElem_cons hlen, List.getElem_set_self, List.drop_set_of_lt (by omega), hd]
    show _ = Value.int .u8 ((up m).toNat : Int) :: bv suf
    rw [hu]
    congr 2
    omega
  · rw [hi_step m h0 hm] at hl
    rw [← hl]; simp
theorem dig_cut (w : World) (D f : Nat) (hf : f ≤ 8) : (Instr.sliceAt 175 (.pointer (some ⟨D, 0, none⟩)) (some (.int .i64 (f : Int))) none none).run Try.prog w = .ok (.slice (some ⟨D, f, none⟩) (9 - f) (9 - f)) w := by
  have hal : Try.prog.arrayLen 175 = 9 := by kernel_rfl
  have hel : Try.prog.elem 175 = 5 := by kernel_rfl
  have hu : Try.prog.underlying 175 = some (.array (Try.prog.arrayLen 175) (Try.prog.elem 175)) := by kernel_rfl
  have hs := Try.sizeOf5
  rw [run_sliceAt_array_l w _ _ hu .i64 (f : Int) (by omega) (by rw [hal]; omega), hal, hel, hs]
  have : ¬ 9 = f := by omega
  simp [slicedAt, this, Result.andThen]
  cases f <;> simp [Addr.add]
theorem put_any (v : Value) (l : List UInt8) (n : Int) (hn : n ≤ 9223372036854775807) (hl : l.length ≤ 10000) (w : World) (h : BS w v l) :
    Calls Try.prog 132 #[v, .int .i64 n] w (Made w (l ++ put n.toNat)) := by
  obtain ⟨va, vc, rfl⟩ := h.form
  obtain ⟨N, hN⟩ : ∃ N : Nat, max n 0 = (N : Int) := ⟨n.toNat, by omega⟩
  have hN2 : n.toNat = N := by omega
  rw [hN2]
  have hNb : (N : Int) ≤ 9223372036854775807 := by omega
  have HN := Hid.mk' hN
  clear hN2
  have hN0 : max n 0 = (N : Int) := hN
  clear hN
  go_enter Try.func132, Try.ntmps132
  go_wp2_with fail
  clear hN0
  have h9 : (128 : Nat) ^ 9 = 9223372036854775808 := by decide
  have h8 : (128 : Nat) ^ 8 = 72057594037927936 := by decide
  have hD0 : Dig (w.alloc (.cells #[.int .u8 0, .int .u8 0, .int .u8 0, .int .u8 0, .int .u8 0, .int .u8 0, .int .u8 0, .int .u8 0, .int .u8 ((N : Int) % 128)] 175)) w.heap.size 8 (N / 128) (put N) :=
    ⟨_, [lo N], Bx.fresh w _ _, rfl, by show [Value.int .u8 ((N : Int) % 128)] = [Value.int .u8 ((lo N).toNat : Int)]; rw [lo_nat]; congr 2, rfl⟩
  have hb0 : Below w.heap.size w (w.alloc (.cells #[.int .u8 0, .int .u8 0, .int .u8 0, .int .u8 0, .int .u8 0, .int .u8 0, .int .u8 0, .int .u8 0, .int .u8 ((N : Int) % 128)] 175)) := (Below.refl _ _).alloc (Nat.le_refl _) _
  generalize (w.alloc (.cells #[.int .u8 0, .int .u8 0, .int .u8 0, .int .u8 0, .int .u8 0, .int .u8 0, .int .u8 0, .int .u8 0, .int .u8 ((N : Int) % 128)] 175)) = W0 at *
  have H9 := Hid.mk' h9
  have H8 := Hid.mk' h8
  clear h9 h8
  go_loopw [1, 6] (fun nv fv wr => ∃ m f : Nat, nv = .int .i64 m ∧ fv = .int .i64 f ∧ f ≤ 8 ∧ m < 128 ^ f ∧ m < 9223372036854775808 ∧ Dig wr w.heap.size f m (put N) ∧ Below w.heap.size w wr) (fun nv _ _ => (intOf nv).toNat)
  case atStart => exact ⟨N / 128, 8, by first | rfl | (congr 1; omega), rfl, by omega, by rw [H8.out]; omega, by omega, hD0, hb0⟩
  case round =>
    clear hD0 hb0
    obtain ⟨m, f, rfl, rfl, hf, hm, hm9, hD, hbel⟩ := hrel
    by_cases h0 : m = 0
    · subst h0
      obtain ⟨cs, suf, hb, hs, hd, hl2⟩ := hD
      rw [hi_zero, List.nil_append] at hl2
      have hsl : suf.length = 9 - f := by
        have := congrArg List.length hd
        rw [bv_len, List.length_drop, Array.length_toList, hs] at this
        omega
      have hbs : BS wr (.slice (some ⟨w.heap.size, f, none⟩) (9 - f) (9 - f)) suf := ⟨some ⟨w.heap.size, f, none⟩, 9 - f, by rw [hsl], by omega, (fun h => by cases h), fun _ => ⟨w.heap.size, f, rfl, fun i hi => by
        rw [hb.read (i := f + i) (v := .int .u8 (suf[i].toNat : Int)) ?_]
        have h1 : (bv suf)[i]? = some (.int .u8 (suf[i].toNat : Int)) := bv_at suf i hi
        rw [← hd, List.getElem?_drop] at h1
        simpa using h1⟩⟩
      rw [hl2] at hbs
      have hvs := h.next hbel
      have hcut := fun w' : World => dig_cut w' w.heap.size f hf
      clear hb hs hd hl2 hsl h hm hm9
      have H := Hid.mk' (And.intro hbs (And.intro hvs hbel))
      clear hbs hvs hbel
      have hpl := put_len N
      go_wp2_with fail
      have e1 : Below w.heap.size w (wr.alloc (.cells #[.slice va l.length vc, .slice (some ⟨w.heap.size, f, none⟩) (9 - f) (9 - f)] 59)) := H.out.2.2.alloc H.out.2.2.size _
      have e2 : Below wr.heap.size wr (wr.alloc (.cells #[.slice va l.length vc, .slice (some ⟨w.heap.size, f, none⟩) (9 - f) (9 - f)] 59)) := (Below.refl _ _).alloc (Nat.le_refl _) _
      refine (concat_any wr.heap.size _ _ l (put N) (by omega) _ (Bx.fresh wr _ _) (H.out.2.1.next e2) (H.out.1.next e2)).mono ?_; rintro e w1 ⟨v1, rfl, hO, hb1⟩
      have hO2 : BO w1 w.heap.size v1 (l ++ put N) := hO.base e1.size
      have hb2 := bnext e1 hb1
      clear hO hb1 e1 e2 H
      go_wp2_with fail
      go_ret
      exact ⟨_, rfl, hO2, hb2⟩
    · obtain ⟨g, rfl⟩ : ∃ g, f = g + 1 := ⟨f - 1, by
        have : f ≠ 0 := fun e => by subst e; simp at hm; omega
        omega⟩
      have hD2 := dig_put hD (by omega) h0 (by rw [H9.out]; exact hm9)
      have hb2 := hbel.setCell (p := ⟨w.heap.size, g, none⟩) (Nat.le_refl _) (.int .u8 ((m : Int) % 128 + 128))
      have hmg : m / 128 < 128 ^ g := by rw [Nat.pow_succ] at hm; omega
      obtain ⟨cs, suf, hb, hs, _, _⟩ := hD
      have c0 : wr.cell? ⟨w.heap.size, g, none⟩ = some cs[g] := hb.read (by simp)
      have f0 := hb.open_ g
      have R := Hid.mk' (And.intro hmg (And.intro hD2 hb2))
      clear hD2 hb2 hmg hb hm hbel
      have hpos : (0 : Int) < (m : Int) := by omega
      go_wp2_with fail
      go_roundw
      case rel => exact ⟨m / 128, g, by first | rfl | (congr 1; omega), by first | rfl | (congr 1; omega), by omega, R.out.1, by omega, R.out.2.1, R.out.2.2⟩
      case measure => simp [intOf]; omega
end Go.Proofs.Ytljhnkcoknikgaa
