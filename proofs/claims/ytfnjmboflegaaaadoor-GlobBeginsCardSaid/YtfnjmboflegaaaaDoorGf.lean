/- Layer 38 (glob): New. -/
import Derived.Test.YtfnjmboflegaaaaDoorGe
import Derived.Test.YtfnjmboflegaaaaDoorSh
import Derived.Lib.ValidLaws
namespace Go.Proofs.YtfnjmboflegaaaaDoor
open Go.RowKit

/-- The decoder's two tables lie as Go's library lays them. -/
def Tb (w : World) : Prop := Lib.Utf8Tabs (Tryd.lays196_ren.g 3) (Tryd.lays196_ren.g 4) w
theorem Tb.next {w w' : World} (h : Tb w) (hb : Below w.heap.size w w') : Tb w' := by
  have c : ∀ {p v}, w.cell? p = some v → w'.cell? p = some v := fun h1 => by rw [hb.cell (World.block_lt_of_cell? w _ h1)]; exact h1
  exact ⟨fun k hk => c (h.1 k hk), fun i hi => ⟨c (h.2 i hi).1, c (h.2 i hi).2⟩⟩
def vB (s : ByteArray) : Bool := Lib.validD s.data.toList
theorem validstring_any (s : ByteArray) (hs : s.size ≤ 1000) (w : World) (hT : Tb w) : Calls Tryd.prog 16 #[.string s] w fun e w' => e = .returned (.bool (vB s)) ∧ Below w.heap.size w w' :=
  Any.utf8_ValidString Tryd.lays196 s w (by omega) hT
/-- A text as runes. -/
theorem rconv (s : ByteArray) (hs : s.size ≤ 1000) (w : World) : ∃ v W', (convert 9 36 (.string s)).run Tryd.prog w = .ok v W' ∧ RS W' v (runesG s) ∧ Below w.heap.size w W' := by
  have hrun := size_runesFrom s s.size 0 #[]
  have hsz : (Conv.runesFrom s s.size 0 #[]).size = (runesG s).length := by rw [runesFrom_all]; simp
  have hcv := run_runes_of_string (P := Tryd.prog) w 9 36 21 s Tryd.underlying9 Tryd.underlying36 Tryd.underlying21 (by simp at hrun; omega)
  refine ⟨_, _, hcv, ?_, (Below.refl _ w).drew.alloc (Nat.le_refl _) _⟩
  have hge : (runesG s).length ≤ grownCap w (Conv.runesFrom s s.size 0 #[]).size 0 21 := by
    rw [← hsz]; exact grownCap_ge _ _ _ _
  refine ⟨_, _, by rw [hsz], hge, by simp, fun _ => ⟨w.heap.size, 0, rfl, fun i hi => ?_⟩⟩
  have hb : Bx (w.drew.alloc (.cells (Conv.runesFrom s s.size 0 #[] ++ Array.replicate (grownCap w (Conv.runesFrom s s.size 0 #[]).size 0 21 - (Conv.runesFrom s s.size 0 #[]).size) (.int .i32 0)) 21)) w.heap.size 21 _ := Bx.fresh w.drew _ _
  refine hb.read ?_
  rw [Array.getElem?_append_left (by rw [hsz]; omega), runesFrom_all]
  simp [hi]
/-- A pattern by its text. -/
def patS (s : ByteArray) : Option (List Prt) := if s.size ≤ 100 then (if vB s = true then prs (runesG s) else none) else none
/-- What New answers. -/
def NewPost (w : World) (s : ByteArray) (e : Ending) (w' : World) : Prop :=
  Below w.heap.size w w' ∧ ((patS s = none ∧ e = .returned (.tuple #[.agg #[.string ⟨#[]⟩, .slice none 0 0], .int .i64 10])) ∨
    ∃ (pv : Value) (q : List (Prt × Value)), patS s = some (q.map Prod.fst) ∧ PtO w' pv q ∧ e = .returned (.tuple #[.agg #[.string s, pv], .int .i64 0]))
theorem PtO.kept {w w' : World} {v : Value} {q : List (Prt × Value)} {g : Nat} {t : TypeId} {cs : Array Value} (h : PtO w v q) (hg : w.grownBy w' (some g)) (hb : Bx w g t cs) (h1 : 57 ≠ t) (h2 : 70 ≠ t) : PtO w' v q :=
  ⟨h.1.kept hg (.inr (bx_apart hb h.1 h1)), fun x hx => World.ownsRow.kept (h.2 x hx) hg (.inr (bx_apart hb (h.2 x hx) h2))⟩
set_option maxHeartbeats 2000000 in
theorem new_any (s : ByteArray) (hs : s.size ≤ maxLen) (w : World) (hT : Tb w) : Calls Tryd.prog 6 #[.string s] w (NewPost w s) := by
  have hs' := hs
  unfold maxLen at hs'
  have hb0 : Bx (w.alloc (.cells #[.string ⟨#[]⟩, .slice none 0 0] 24)) w.heap.size 24 #[.string ⟨#[]⟩, .slice none 0 0] := Bx.fresh w _ _
  have e0 : Below w.heap.size w (w.alloc (.cells #[.string ⟨#[]⟩, .slice none 0 0] 24)) := (Below.refl _ _).alloc (Nat.le_refl _) _
  by_cases h100 : s.size ≤ 100
  · have C := Hid.mk' (validstring_any s (by omega) _ (hT.next e0))
    have h100' : ¬ (100 : Int) < (s.size : Int) := by omega
    have HB := Hid.mk' (And.intro hb0 e0)
    cases hv : vB s with
    | false =>
      rw [hv] at C
      have HP := Hid.mk' (show patS s = none by unfold patS; rw [if_pos h100, hv]; rfl)
      clear hT hv h100 hs hb0 e0
      go_enter Tryd.func6, Tryd.ntmps6
      go_wp2_with fail
      refine C.out.mono ?_; rintro e w1 ⟨rfl, hb1⟩
      have hb2 := HB.out.1.next hb1
      have e1 := bnext HB.out.2 hb1
      have z0 : w1.cell? ⟨w.heap.size, 0, none⟩ = _ := hb2.read (i := 0) rfl
      have z1 : w1.cell? ⟨w.heap.size, 1, none⟩ = _ := hb2.read (i := 1) rfl
      have y0 := hb2.open_ 0
      have y1 := hb2.open_ 1
      have bR : Bx ((w1.setCell ⟨w.heap.size, 0, none⟩ (.string ⟨#[]⟩)).setCell ⟨w.heap.size, 1, none⟩ (.slice none 0 0)) w.heap.size 24 #[.string ⟨#[]⟩, .slice none 0 0] := (hb2.put 0 _).put 1 _
      have E := Hid.mk' (And.intro bR (below_gb e1 (gb_trans (gb_set w1 w.heap.size 0 (.string ⟨#[]⟩)) (gb_set _ w.heap.size 1 (.slice none 0 0))) (Nat.le_refl _)))
      clear hb2 bR e1 hb1 HB
      go_wp2_with fail
      have q0 := E.out.1.read (i := 0) rfl
      have q1 := E.out.1.read (i := 1) rfl
      exact bodyPost_ret (v := .tuple #[.agg #[.string ⟨#[]⟩, .slice none 0 0], .int .i64 10]) (by simp [results, Tryd.results6, go_sem, q0, q1]) rfl ⟨E.out.2, .inl ⟨HP.out, rfl⟩⟩
    | true =>
      rw [hv] at C
      have hpat : patS s = prs (runesG s) := by unfold patS; rw [if_pos h100, hv]; rfl
      have HPP := Hid.mk' hpat
      have HL := Hid.mk' (show s.size ≤ 100 from h100)
      clear hT hv h100 hs hb0 e0 hpat
      go_enter Tryd.func6, Tryd.ntmps6
      go_wp2_with fail
      refine C.out.mono ?_; rintro e w1 ⟨rfl, hb1⟩
      obtain ⟨v, W2, hcv, hr, hb2⟩ := rconv s (by have := HL.out; omega) w1
      have CP := Hid.mk' (parse_any v _ (by have := runesG_len s; have := HL.out; omega) W2 hr)
      have H2 := Hid.mk' (And.intro ((HB.out.1.next hb1).next hb2) (bnext (bnext HB.out.2 hb1) hb2))
      clear HB hb1 hb2 hr
      go_wp2_with fail
      refine CP.out.mono ?_; rintro e w3 ⟨pv, b, rfl, hb3, hres⟩
      rcases hres with ⟨hnone, rfl⟩ | ⟨q, hq, rfl, hpt⟩
      · have HP := Hid.mk' (show patS s = none from HPP.out.trans hnone)
        clear hnone
        have hb2 := H2.out.1.next hb3
        have e1 := bnext H2.out.2 hb3
        have z0 : w3.cell? ⟨w.heap.size, 0, none⟩ = _ := hb2.read (i := 0) rfl
        have z1 : w3.cell? ⟨w.heap.size, 1, none⟩ = _ := hb2.read (i := 1) rfl
        have y0 := hb2.open_ 0
        have y1 := hb2.open_ 1
        have bR : Bx ((w3.setCell ⟨w.heap.size, 0, none⟩ (.string ⟨#[]⟩)).setCell ⟨w.heap.size, 1, none⟩ (.slice none 0 0)) w.heap.size 24 #[.string ⟨#[]⟩, .slice none 0 0] := (hb2.put 0 _).put 1 _
        have E := Hid.mk' (And.intro bR (below_gb e1 (gb_trans (gb_set w3 w.heap.size 0 (.string ⟨#[]⟩)) (gb_set _ w.heap.size 1 (.slice none 0 0))) (Nat.le_refl _)))
        clear hb2 bR e1 hb3 H2
        go_wp2_with fail
        have q0 := E.out.1.read (i := 0) rfl
        have q1 := E.out.1.read (i := 1) rfl
        exact bodyPost_ret (v := .tuple #[.agg #[.string ⟨#[]⟩, .slice none 0 0], .int .i64 10]) (by simp [results, Tryd.results6, go_sem, q0, q1]) rfl ⟨E.out.2, .inl ⟨HP.out, rfl⟩⟩
      · have HP := Hid.mk' (show patS s = some (q.map Prod.fst) from HPP.out.trans hq)
        have hb2 := H2.out.1.next hb3
        have e1 := bnext H2.out.2 hb3
        obtain ⟨pa, pc, rfl⟩ := own_form hpt.1
        have z0 : w3.cell? ⟨w.heap.size, 0, none⟩ = _ := hb2.read (i := 0) rfl
        have z1 : w3.cell? ⟨w.heap.size, 1, none⟩ = _ := hb2.read (i := 1) rfl
        have y0 := hb2.open_ 0
        have y1 := hb2.open_ 1
        have bR : Bx ((w3.setCell ⟨w.heap.size, 0, none⟩ (.string s)).setCell ⟨w.heap.size, 1, none⟩ (.slice pa q.length pc)) w.heap.size 24 #[.string s, .slice pa q.length pc] := (hb2.put 0 _).put 1 _
        have hg : w3.grownBy ((w3.setCell ⟨w.heap.size, 0, none⟩ (.string s)).setCell ⟨w.heap.size, 1, none⟩ (.slice pa q.length pc)) (some w.heap.size) := gb_trans (gb_set w3 w.heap.size 0 (.string s)) (gb_set _ w.heap.size 1 (.slice pa q.length pc))
        have E := Hid.mk' (And.intro bR (And.intro (below_gb e1 hg (Nat.le_refl _)) (hpt.kept hg hb2 (by decide) (by decide))))
        clear hb2 bR e1 hg hpt hb3 H2 hq
        go_wp2_with fail
        have q0 := E.out.1.read (i := 0) rfl
        have q1 := E.out.1.read (i := 1) rfl
        exact bodyPost_ret (v := .tuple #[.agg #[.string s, .slice pa q.length pc], .int .i64 0]) (by simp [results, Tryd.results6, go_sem, q0, q1]) rfl ⟨E.out.2.1, .inr ⟨_, q, HP.out, E.out.2.2, rfl⟩⟩
  · have HP := Hid.mk' (show patS s = none by unfold patS; rw [if_neg h100])
    have h100' : (100 : Int) < (s.size : Int) := by omega
    have HB := Hid.mk' (And.intro hb0 e0)
    clear hT h100 hs
    go_enter Tryd.func6, Tryd.ntmps6
    go_wp2_with fail
    have q0 := HB.out.1.read (i := 0) rfl
    have q1 := HB.out.1.read (i := 1) rfl
    exact bodyPost_ret (v := .tuple #[.agg #[.string ⟨#[]⟩, .slice none 0 0], .int .i64 10]) (by simp [results, Tryd.results6, go_sem, q0, q1]) rfl ⟨HB.out.2, .inl ⟨HP.out, rfl⟩⟩
end Go.Proofs.YtfnjmboflegaaaaDoor
