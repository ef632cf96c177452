/- Layer 39 (fold): a text's chunks, by the code. -/
import Derived.Test.YtdckdhbnfakleaaDoorFa
import Derived.Test.YtdckdhbnfakleaaDoorGa
namespace Go.Proofs.YtdckdhbnfakleaaDoor
open Go.RowKit

/-- A text whose bytes that begin no rune are U+FFFD. -/
def rsB (s : ByteArray) : ByteArray := runesBytes (runesG s)
theorem rsB_len (s : ByteArray) : (rsB s).size ≤ 4 * s.size := by
  have h1 := runesBytes_size_le (runesG s)
  have h2 := runesG_len s
  unfold rsB; omega
theorem rsconv (s : ByteArray) (hs : s.size ≤ 1000) (w : World) : ∃ v W', (convert 9 39 (.string s)).run Tryd.prog w = .ok v W' ∧ (convert 39 9 v).run Tryd.prog W' = .ok (.string (rsB s)) W' ∧ Below w.heap.size w W' := by
  have hrun := size_runesFrom s s.size 0 #[]
  have hsz : (Conv.runesFrom s s.size 0 #[]).size = (runesG s).length := by rw [runesFrom_all]; simp
  have hcv := run_runes_of_string (P := Tryd.prog) w 9 39 21 s Tryd.underlying9 Tryd.underlying39 Tryd.underlying21 (by simp at hrun; omega)
  refine ⟨_, _, hcv, ?_, (Below.refl _ w).drew.alloc (Nat.le_refl _) _⟩
  rw [run_convert_runes_string _ 39 9 21 _ _ _ Tryd.underlying39 Tryd.underlying21 Tryd.underlying9]
  refine run_runesToString _ _ _ _ (runesG s) ?_
  have hb : Bx (w.drew.alloc (.cells (Conv.runesFrom s s.size 0 #[] ++ Array.replicate (grownCap w (Conv.runesFrom s s.size 0 #[]).size 0 21 - (Conv.runesFrom s s.size 0 #[]).size) (.int .i32 0)) 21)) w.heap.size 21 _ := Bx.fresh w.drew _ _
  have := run_loadCells_list (P := Tryd.prog) (w.drew.alloc (.cells (Conv.runesFrom s s.size 0 #[] ++ Array.replicate (grownCap w (Conv.runesFrom s s.size 0 #[]).size 0 21 - (Conv.runesFrom s s.size 0 #[]).size) (.int .i32 0)) 21)) ⟨w.heap.size, 0, none⟩ ((runesG s).map (Value.int .i32)) (fun j v hj => by
    have hlt : j < (runesG s).length := by
      have := (List.getElem?_eq_some_iff.1 hj).1
      simpa using this
    have hadd : (⟨w.heap.size, 0, none⟩ : Addr).add j = ⟨w.heap.size, j, none⟩ := by unfold Addr.add; split <;> simp_all
    rw [hadd]
    refine hb.read ?_
    rw [Array.getElem?_append_left (by rw [hsz]; omega), runesFrom_all]
    simpa using hj)
  rw [List.length_map, ← hsz] at this
  exact this

def digN (r : Nat) : Bool := decide (48 ≤ r ∧ r ≤ 57)
/-- The chunks of a text from a place on, a chunk having begun. -/
def chF (s : ByteArray) : Nat → Nat → Nat → Bool → List (ByteArray × Bool)
  | 0, _, fr, nb => if fr < s.size then [(s.extract fr s.size, nb)] else []
  | f + 1, pos, fr, nb =>
    if pos < s.size then
      if 0 < pos ∧ digN (Utf8.decode s pos).1 ≠ nb then (s.extract fr pos, nb) :: chF s f (pos + (Utf8.decode s pos).2) pos (digN (Utf8.decode s pos).1)
      else chF s f (pos + (Utf8.decode s pos).2) fr (digN (Utf8.decode s pos).1)
    else if fr < s.size then [(s.extract fr s.size, nb)] else []
def chunkS (s : ByteArray) : List (ByteArray × Bool) := chF (rsB s) (rsB s).size 0 0 false
theorem chF_end (s : ByteArray) (f pos fr : Nat) (nb : Bool) (h : ¬ pos < s.size) : chF s f pos fr nb = if fr < s.size then [(s.extract fr s.size, nb)] else [] := by
  cases f with
  | zero => rfl
  | succ f => rw [chF, if_neg h]
def flatC (L : List (ByteArray × Bool)) : List Value := L.flatMap fun x => [.string x.1, .bool x.2]
theorem flatC_snoc (L : List (ByteArray × Bool)) (x : ByteArray × Bool) : flatC (L ++ [x]) = flatC L ++ [.string x.1, .bool x.2] := by simp [flatC]
def CkO (w : World) (B : Nat) (v : Value) (L : List (ByteArray × Bool)) : Prop := w.ownsRow B 27 2 v L.length (flatC L)
theorem ck_info : (Tryd.prog.info? 27).map (fun i => (i.zero, i.size, i.bytes)) = some (some (.agg #[.string ⟨#[]⟩, .bool false]), 2, 24) := by kernel_rfl
theorem own_itz {w : World} {B k n pos sz : Nat} {e : TypeId} {v : Value} {xs : List Value} {s : ByteArray} (h : w.ownsRow B e sz v n xs) (hk : It w k s pos) : v.ownBlock ≠ some k := by
  rcases h.2 with ⟨rfl, _⟩ | ⟨g, cap, cur, rfl, _, hg, _⟩
  · simp [Value.ownBlock]
  · intro he
    have : g = k := by simpa [Value.ownBlock] using he
    subst this
    unfold It at hk; rw [hk] at hg; cases hg
theorem own_stepz {w : World} {B k n pos sz : Nat} {e : TypeId} {v : Value} {xs : List Value} {s : ByteArray} (h : w.ownsRow B e sz v n xs) (hk : It w k s pos) (p : Nat) : (w.iterAt k s p).ownsRow B e sz v n xs := by
  refine ⟨h.1, ?_⟩
  rcases h.2 with h2 | ⟨g, cap, cur, a, b, c, d⟩
  · exact .inl h2
  · refine .inr ⟨g, cap, cur, a, b, ?_, d⟩
    rw [Lib.iterAt_other _ _ _ _ _ (fun e => by subst e; unfold It at hk; rw [hk] at c; cases c)]
    exact c
/-- A chunk more. -/
theorem CkO.more {w' : World} {B : Nat} {v' : Value} {L : List (ByteArray × Bool)} {x : ByteArray × Bool} (ho : w'.ownsRow B 27 2 v' (L.length + 1) (flatC L ++ [.string x.1, .bool x.2])) : CkO w' B v' (L ++ [x]) := by
  unfold CkO; rw [List.length_append, flatC_snoc]; exact ho
set_option maxRecDepth 100000 in
set_option maxHeartbeats 8000000 in
theorem chunks_any (s : ByteArray) (hs : s.size ≤ 1000) (w : World) : Calls Tryd.prog 6 #[.string s] w fun e w' => ∃ v, e = .returned v ∧ CkO w' w.heap.size v (chunkS s) ∧ Below w.heap.size w w' := by
  obtain ⟨i0, hi0, hz0, hz1, hz2⟩ := info_parts ck_info
  have HI := Hid.mk' (And.intro hi0 (And.intro hz0 (And.intro hz1 hz2)))
  clear hi0 hz0 hz1 hz2
  have hlen := rsB_len s
  obtain ⟨v0, W0, hcv1, hcv2, hb0⟩ := rsconv s hs w
  have HC := Hid.mk' (show chunkS s = chF (rsB s) (rsB s).size 0 0 false from rfl)
  generalize chunkS s = CS at *
  generalize rsB s = t at *
  have ht : t.size ≤ 4000 := by omega
  clear hlen
  go_enter Tryd.func6, Tryd.ntmps6
  go_wp2_with fail
  have hK : w.heap.size ≤ W0.heap.size := hb0.size
  have hit1 := It.fresh W0 t 0
  have hown2 : CkO (W0.iter t 0) w.heap.size (.slice none 0 0) [] := World.ownsRow_nil _ _ _ _
  have hbel2 : Below w.heap.size w (W0.iter t 0) := hb0.alloc hb0.size _
  clear hcv1 hcv2 hb0
  generalize W0.heap.size = K at *
  generalize W0.iter t 0 = W2 at *
  go_loopw [3, 4, 5] (fun v a b wr => ∃ (pos f fr : Nat) (nb : Bool) (L : List (ByteArray × Bool)), a = .int .i64 fr ∧ b = .bool nb ∧ It wr K t pos ∧ CkO wr w.heap.size v L ∧ Below w.heap.size w wr ∧ fr ≤ pos ∧ L.length ≤ pos ∧ pos ≤ t.size ∧ t.size ≤ pos + f ∧ Hid (L ++ chF t f pos fr nb = chF t t.size 0 0 false)) (fun _ _ _ wr => t.size - wr.iterPos K)
  case atStart => exact ⟨0, t.size, 0, false, [], rfl, rfl, hit1, hown2, hbel2, by omega, by simp, by omega, by omega, rfl⟩
  case round =>
    obtain ⟨pos, f, fr, nb, L, rfl, rfl, hit, hown, hbel, hfr, hL, hpos, hf, hrun⟩ := hrel
    by_cases hp : pos < t.size
    · obtain ⟨wd, R, hdec, hw1, hw2⟩ := rune_w t pos hp
      obtain ⟨g, rfl⟩ : ∃ g, f = g + 1 := ⟨f - 1, by omega⟩
      have hd := hdec.out
      have hrun2 := hrun.out
      rw [chF, if_pos hp, hd] at hrun2
      have hval : R < 55296 ∨ 57344 ≤ R ∧ R ≤ 1114111 := by have := rune_ok t pos; rw [hd] at this; exact this
      have hnx : ∀ ty, (Instr.next (.pointer (some ⟨K, 0, none⟩)) true ty).run Tryd.prog wr = .ok (.tuple #[.bool true, .int .i64 pos, .int .i32 R]) (wr.iterAt K t (pos + wd)) := fun ty => by
        have := Lib.run_next_any_at (P := Tryd.prog) wr K t pos ty hit hp
        rw [hd] at this; exact this
      have hit1 := hit.step (pos + wd)
      have hown1 : CkO (wr.iterAt K t (pos + wd)) w.heap.size u3 L := own_stepz hown hit (pos + wd)
      have hbel1 := Lib.below_iterAt hbel (k := K) hK t (pos + wd)
      have HPL := Hid.mk' hit.place
      simp only at hrun2
      have HQ := Hid.mk' hrun2
      have hR2 : R ≤ 1114111 := by omega
      clear hrun2 hrun hd hit hown hbel hval
      obtain ⟨Z, hZ⟩ : ∃ Z : Int, (R : Int) = Z := ⟨_, rfl⟩
      rw [hZ] at hnx
      generalize hWR : wr.iterAt K t (pos + wd) = W3 at *
      have hWR' := Hid.mk' hWR
      clear hWR
      have hK3 := hbel1.size
      rcases (show Z < 48 ∨ (48 ≤ Z ∧ Z ≤ 57) ∨ (48 ≤ Z ∧ 57 < Z) from by omega) with hz | hz | hz
      · have HDG := Hid.mk' (show digN R = false by unfold digN; simp; omega)
        have hZZ := Hid.mk' hZ
        clear hZ
        by_cases hp0 : pos = 0
        · have hpz : ¬ (0 : Int) < (pos : Int) := by omega
          have HQ2 : Hid (L ++ chF t g (pos + wd) fr false = chF t t.size 0 0 false) := by have h := HQ.out; rw [if_neg (by omega), HDG.out] at h; exact h
          clear HQ
          go_wp2_with fail
          go_roundw
          case rel => exact ⟨pos + wd, g, fr, false, L, rfl, rfl, hit1, hown1, hbel1, by omega, by omega, by omega, by omega, HQ2⟩
          case measure => rw [hit1.place, HPL.out]; omega
        · have hpz : (0 : Int) < (pos : Int) := by omega
          cases nb with
          | false =>
            have HQ2 : Hid (L ++ chF t g (pos + wd) fr false = chF t t.size 0 0 false) := by have h := HQ.out; rw [if_neg (by rw [HDG.out]; simp), HDG.out] at h; exact h
            clear HQ
            go_wp2_with fail
            go_roundw
            case rel => exact ⟨pos + wd, g, fr, false, L, rfl, rfl, hit1, hown1, hbel1, by omega, by omega, by omega, by omega, HQ2⟩
            case measure => rw [hit1.place, HPL.out]; omega
          | true =>
            have HQ2 : Hid ((L ++ [(t.extract fr pos, true)]) ++ chF t g (pos + wd) pos false = chF t t.size 0 0 false) := by have h := HQ.out; rw [if_pos ⟨by omega, by rw [HDG.out]; simp⟩, HDG.out] at h; rw [List.append_assoc]; exact h
            clear HQ
            go_wp2_with (at_builtin; refine wpList_append_own _ rfl (.tmp 31) (.tmp 38) 22 rfl w.heap.size 27 i0 _ 2 24 Tryd.underlying22 HI.out.1 HI.out.2.1 HI.out.2.2.1 HI.out.2.2.2 rfl (by decide) u3 L.length (flatC L) rfl (World.ownsRow.alloc hown1 _) ⟨W3.heap.size, 0, none⟩ 1 1 [.string (t.extract fr pos), .bool true] rfl rfl ?c1_0 ?c2_0 ?c3_0 ?c4_0 ?c5_0 ?_)
            try case c1_0 => exact World.news_of_block (cs := #[.string (t.extract fr pos), .bool true]) (t := 27) (fr := (0, 0)) (heap_alloc_new W3 _)
            case c2_0 => simp [Value.oneCell']
            case c3_0 => simp only [maxLen]; omega
            case c4_0 => omega
            case c5_0 => first | omega | (simp; omega)
            intro v4 W4 hown4 hgr4 _
            have hit4 : It W4 K t (pos + wd) := It.grown (hit1.past (.cells #[.string (t.extract fr pos), .bool true] 27)) hgr4 (own_itz (World.ownsRow.alloc hown1 (.cells #[.string (t.extract fr pos), .bool true] 27)) (hit1.past _))
            have hbel4 : Below w.heap.size w W4 := (hbel1.alloc hbel1.size _).grown hgr4 (by simp; omega) (fun k hk => (hown1.lt k hk).1)
            have hown5 : CkO W4 w.heap.size v4 (L ++ [(t.extract fr pos, true)]) := CkO.more hown4
            clear hown4 hgr4 hown1 hit1 hbel1
            go_wp2_with fail
            go_roundw
            case rel => exact ⟨pos + wd, g, pos, false, _, rfl, rfl, hit4, hown5, hbel4, by omega, by rw [List.length_append]; simp only [List.length_cons, List.length_nil]; omega, by omega, by omega, HQ2⟩
            case measure => rw [hit4.place, HPL.out]; omega
      · have HDG := Hid.mk' (show digN R = true by unfold digN; simp; omega)
        obtain ⟨hz1, hz2⟩ := hz
        have hz3 : (decide (Z ≤ 57)) = true := by simp; omega
        have hZZ := Hid.mk' hZ
        clear hZ
        by_cases hp0 : pos = 0
        · have hpz : ¬ (0 : Int) < (pos : Int) := by omega
          have HQ2 : Hid (L ++ chF t g (pos + wd) fr true = chF t t.size 0 0 false) := by have h := HQ.out; rw [if_neg (by omega), HDG.out] at h; exact h
          clear HQ
          go_wp2_with fail
          go_roundw
          case rel => exact ⟨pos + wd, g, fr, true, L, rfl, rfl, hit1, hown1, hbel1, by omega, by omega, by omega, by omega, HQ2⟩
          case measure => rw [hit1.place, HPL.out]; omega
        · have hpz : (0 : Int) < (pos : Int) := by omega
          cases nb with
          | false =>
            have HQ2 : Hid ((L ++ [(t.extract fr pos, false)]) ++ chF t g (pos + wd) pos true = chF t t.size 0 0 false) := by have h := HQ.out; rw [if_pos ⟨by omega, by rw [HDG.out]; simp⟩, HDG.out] at h; rw [List.append_assoc]; exact h
            clear HQ
            go_wp2_with (at_builtin; refine wpList_append_own _ rfl (.tmp 31) (.tmp 38) 22 rfl w.heap.size 27 i0 _ 2 24 Tryd.underlying22 HI.out.1 HI.out.2.1 HI.out.2.2.1 HI.out.2.2.2 rfl (by decide) u3 L.length (flatC L) rfl (World.ownsRow.alloc hown1 _) ⟨W3.heap.size, 0, none⟩ 1 1 [.string (t.extract fr pos), .bool false] rfl rfl ?c1_1 ?c2_1 ?c3_1 ?c4_1 ?c5_1 ?_)
            try case c1_1 => exact World.news_of_block (cs := #[.string (t.extract fr pos), .bool false]) (t := 27) (fr := (0, 0)) (heap_alloc_new W3 _)
            case c2_1 => simp [Value.oneCell']
            case c3_1 => simp only [maxLen]; omega
            case c4_1 => omega
            case c5_1 => first | omega | (simp; omega)
            intro v4 W4 hown4 hgr4 _
            have hit4 : It W4 K t (pos + wd) := It.grown (hit1.past (.cells #[.string (t.extract fr pos), .bool false] 27)) hgr4 (own_itz (World.ownsRow.alloc hown1 (.cells #[.string (t.extract fr pos), .bool false] 27)) (hit1.past _))
            have hbel4 : Below w.heap.size w W4 := (hbel1.alloc hbel1.size _).grown hgr4 (by simp; omega) (fun k hk => (hown1.lt k hk).1)
            have hown5 : CkO W4 w.heap.size v4 (L ++ [(t.extract fr pos, false)]) := CkO.more hown4
            clear hown4 hgr4 hown1 hit1 hbel1
            go_wp2_with fail
            go_roundw
            case rel => exact ⟨pos + wd, g, pos, true, _, rfl, rfl, hit4, hown5, hbel4, by omega, by rw [List.length_append]; simp only [List.length_cons, List.length_nil]; omega, by omega, by omega, HQ2⟩
            case measure => rw [hit4.place, HPL.out]; omega
          | true =>
            have HQ2 : Hid (L ++ chF t g (pos + wd) fr true = chF t t.size 0 0 false) := by have h := HQ.out; rw [if_neg (by rw [HDG.out]; simp), HDG.out] at h; exact h
            clear HQ
            go_wp2_with fail
            go_roundw
            case rel => exact ⟨pos + wd, g, fr, true, L, rfl, rfl, hit1, hown1, hbel1, by omega, by omega, by omega, by omega, HQ2⟩
            case measure => rw [hit1.place, HPL.out]; omega
      · have HDG := Hid.mk' (show digN R = false by unfold digN; simp; omega)
        obtain ⟨hz1, hz2⟩ := hz
        have hz3 : (decide (Z ≤ 57)) = false := by simp; omega
        have hZZ := Hid.mk' hZ
        clear hZ
        by_cases hp0 : pos = 0
        · have hpz : ¬ (0 : Int) < (pos : Int) := by omega
          have HQ2 : Hid (L ++ chF t g (pos + wd) fr false = chF t t.size 0 0 false) := by have h := HQ.out; rw [if_neg (by omega), HDG.out] at h; exact h
          clear HQ
          go_wp2_with fail
          go_roundw
          case rel => exact ⟨pos + wd, g, fr, false, L, rfl, rfl, hit1, hown1, hbel1, by omega, by omega, by omega, by omega, HQ2⟩
          case measure => rw [hit1.place, HPL.out]; omega
        · have hpz : (0 : Int) < (pos : Int) := by omega
          cases nb with
          | false =>
            have HQ2 : Hid (L ++ chF t g (pos + wd) fr false = chF t t.size 0 0 false) := by have h := HQ.out; rw [if_neg (by rw [HDG.out]; simp), HDG.out] at h; exact h
            clear HQ
            go_wp2_with fail
            go_roundw
            case rel => exact ⟨pos + wd, g, fr, false, L, rfl, rfl, hit1, hown1, hbel1, by omega, by omega, by omega, by omega, HQ2⟩
            case measure => rw [hit1.place, HPL.out]; omega
          | true =>
            have HQ2 : Hid ((L ++ [(t.extract fr pos, true)]) ++ chF t g (pos + wd) pos false = chF t t.size 0 0 false) := by have h := HQ.out; rw [if_pos ⟨by omega, by rw [HDG.out]; simp⟩, HDG.out] at h; rw [List.append_assoc]; exact h
            clear HQ
            go_wp2_with (at_builtin; refine wpList_append_own _ rfl (.tmp 31) (.tmp 38) 22 rfl w.heap.size 27 i0 _ 2 24 Tryd.underlying22 HI.out.1 HI.out.2.1 HI.out.2.2.1 HI.out.2.2.2 rfl (by decide) u3 L.length (flatC L) rfl (World.ownsRow.alloc hown1 _) ⟨W3.heap.size, 0, none⟩ 1 1 [.string (t.extract fr pos), .bool true] rfl rfl ?c1_2 ?c2_2 ?c3_2 ?c4_2 ?c5_2 ?_)
            try case c1_2 => exact World.news_of_block (cs := #[.string (t.extract fr pos), .bool true]) (t := 27) (fr := (0, 0)) (heap_alloc_new W3 _)
            case c2_2 => simp [Value.oneCell']
            case c3_2 => simp only [maxLen]; omega
            case c4_2 => omega
            case c5_2 => first | omega | (simp; omega)
            intro v4 W4 hown4 hgr4 _
            have hit4 : It W4 K t (pos + wd) := It.grown (hit1.past (.cells #[.string (t.extract fr pos), .bool true] 27)) hgr4 (own_itz (World.ownsRow.alloc hown1 (.cells #[.string (t.extract fr pos), .bool true] 27)) (hit1.past _))
            have hbel4 : Below w.heap.size w W4 := (hbel1.alloc hbel1.size _).grown hgr4 (by simp; omega) (fun k hk => (hown1.lt k hk).1)
            have hown5 : CkO W4 w.heap.size v4 (L ++ [(t.extract fr pos, true)]) := CkO.more hown4
            clear hown4 hgr4 hown1 hit1 hbel1
            go_wp2_with fail
            go_roundw
            case rel => exact ⟨pos + wd, g, pos, false, _, rfl, rfl, hit4, hown5, hbel4, by omega, by rw [List.length_append]; simp only [List.length_cons, List.length_nil]; omega, by omega, by omega, HQ2⟩
            case measure => rw [hit4.place, HPL.out]; omega
    · have hnx : ∀ ty, (Instr.next (.pointer (some ⟨K, 0, none⟩)) true ty).run Tryd.prog wr = _ := fun ty => Lib.run_next_end_at wr K t pos ty hit hp
      have hr := hrun.out
      rw [chF_end t f pos fr nb hp] at hr
      have HQ := Hid.mk' (HC.out.trans hr.symm)
      have hK3 := hbel.size
      have hpe : pos = t.size := by omega
      clear hr hrun
      by_cases hfe : (fr : Int) < (t.size : Int)
      · have HQ2 : Hid (CS = L ++ [(t.extract fr t.size, nb)]) := by have h := HQ.out; rw [if_pos (by omega)] at h; exact h
        clear HQ
        go_wp2_with (at_builtin; refine wpList_append_own _ rfl (.tmp 46) (.tmp 52) 22 rfl w.heap.size 27 i0 _ 2 24 Tryd.underlying22 HI.out.1 HI.out.2.1 HI.out.2.2.1 HI.out.2.2.2 rfl (by decide) u3 L.length (flatC L) rfl (World.ownsRow.alloc hown _) ⟨wr.heap.size, 0, none⟩ 1 1 [.string (t.extract fr t.size), .bool nb] rfl rfl ?c1_3 ?c2_3 ?c3_3 ?c4_3 ?c5_3 ?_)
        try case c1_3 => exact World.news_of_block (cs := #[.string (t.extract fr t.size), .bool nb]) (t := 27) (fr := (0, 0)) (heap_alloc_new wr _)
        case c2_3 => simp [Value.oneCell']
        case c3_3 => simp only [maxLen]; omega
        case c4_3 => omega
        case c5_3 => first | omega | (simp; omega)
        intro v4 W4 hown4 hgr4 _
        have hbel4 : Below w.heap.size w W4 := (hbel.alloc hbel.size _).grown hgr4 (by simp; omega) (fun k hk => (hown.lt k hk).1)
        have hown5 : CkO W4 w.heap.size v4 (L ++ [(t.extract fr t.size, nb)]) := CkO.more hown4
        clear hown4 hgr4 hown hit hbel
        go_wp2_with fail
        go_ret
        exact ⟨_, rfl, by rw [HQ2.out]; exact hown5, hbel4⟩
      · have HQ2 : Hid (CS = L) := by have h := HQ.out; rw [if_neg (by omega), List.append_nil] at h; exact h
        clear HQ
        go_wp2_with fail
        go_ret
        exact ⟨_, rfl, by rw [HQ2.out]; exact hown, hbel⟩
end Go.Proofs.YtdckdhbnfakleaaDoor
