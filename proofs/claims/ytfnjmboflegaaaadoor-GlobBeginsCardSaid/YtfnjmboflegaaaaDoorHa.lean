/- Layer 38 (glob): is a text made of runes, by definition. -/
import Derived.Test.YtfnjmboflegaaaaDoorGz
namespace Go.Proofs.YtfnjmboflegaaaaDoor
open Go.RowKit

theorem conv_rs {w : World} {v : Value} {l : List Int} (h : RS w v l) : (convert 36 9 v).run Tryd.prog w = .ok (.string (runesBytes l)) w := by
  obtain ⟨a, c, rfl, hle, hn, hc⟩ := h
  rw [run_convert_runes_string w 36 9 21 a l.length c Tryd.underlying36 Tryd.underlying21 Tryd.underlying9]
  cases a with
  | none =>
    have h0 := hn rfl
    have : l = [] := List.eq_nil_of_length_eq_zero (by omega)
    subst this
    rfl
  | some ad =>
    have hcl : ∀ j u, (r32 l)[j]? = some u → w.cell? (ad.add j) = some u := by
      intro j u hu
      have hj : j < l.length := by
        have := (List.getElem?_eq_some_iff.1 hu).1
        simpa [r32] using this
      obtain ⟨b, off, hb, hcell⟩ := hc (fun e => by rw [e] at hj; simp at hj)
      cases hb
      rw [gaddp, hcell j hj]
      rw [← hu]; simp [r32, hj]
    have := run_loadCells_list (P := Tryd.prog) w ad (r32 l) hcl
    rw [show (r32 l).length = l.length from by simp [r32]] at this
    exact run_runesToString w _ _ _ l this
set_option maxHeartbeats 1000000 in
theorem valid_any (s : ByteArray) (hs : s.size ≤ 1000) (w : World) : Calls Tryd.prog 15 #[.string s] w fun e w' => e = .returned (.bool ((runesBytes (runesG s)).toList == s.toList)) ∧ Below w.heap.size w w' := by
  obtain ⟨v, W1, hcv, hr, hb⟩ := rconv s hs w
  have hcv2 := conv_rs hr
  have HB := Hid.mk' hb
  clear hb hr
  generalize runesBytes (runesG s) = z at *
  go_enter Tryd.func15, Tryd.ntmps15
  go_wp2_with fail
  go_ret
  exact ⟨rfl, HB.out⟩
end Go.Proofs.YtfnjmboflegaaaaDoor
