/- Layer 11 (disk): a disk of one file: New, find, operateOn, Sync, Read. -/
import Derived.Test.YtdckdhbnfakleaaDa
namespace Go.Proofs.Ytdckdhbnfakleaa
open Go.RowKit
open Go.Maps (Keyed)

/-- A disk of one file. -/
structure DS (w : World) (B D M F : Nat) (s : ByteArray) (room : Int) (off : Bool) (ops ahead : Int) (v : Value) (sy : Int) : Prop where
  dk : Dk w D (.map (some M)) room off ops ahead
  mp : w.ownsMap Try.prog 9 Rp M 1 (D1 s F)
  fl : Bx w F 94 #[v, .int .i64 sy]
  bd : B ≤ D
  bm : B ≤ M
  bf : B ≤ F
theorem bx_ne {w : World} {a b : Nat} {t t' : TypeId} {cs cs' : Array Value} (h : Bx w a t cs) (h' : Bx w b t' cs') (ht : t ≠ t') : a ≠ b := by
  intro e
  subst e
  unfold Bx at h h'
  rw [h] at h'
  simp at h'
  exact ht h'.2
theorem bx_nemap {w : World} {a M n : Nat} {t : TypeId} {cs : Array Value} {Dt : DataW Unit} (h : Bx w a t cs) (h' : w.ownsMap Try.prog 9 Rp M n Dt) : M ≠ a := by
  intro e
  subst e
  obtain ⟨es, clock, hb, _⟩ := h'
  unfold Bx at h
  rw [h] at hb
  simp at hb
theorem bx_row {w : World} {a : Nat} {t t' : TypeId} {cs : Array Value} {B sz n : Nat} {v : Value} {xs : List Value} (h : Bx w a t cs) (h' : w.ownsRow B t' sz v n xs) (ht : t' ≠ t) : v.ownBlock = none ∨ v.ownBlock ≠ some a := by
  rcases h'.2 with ⟨rfl, _⟩ | ⟨g, cap, cur, rfl, _, hg, _⟩
  · exact .inl rfl
  · right
    intro e
    simp [Value.ownBlock] at e
    subst e
    unfold Bx at h
    rw [h] at hg
    simp at hg
    exact ht hg.2.symm
section
variable {w w' : World} {B D M F : Nat} {s : ByteArray} {room room' : Int} {off off' : Bool} {ops ops' ahead ahead' : Int} {v v' : Value} {sy sy' : Int} {l : List UInt8}
theorem DS.dkset (h : DS w B D M F s room off ops ahead v sy) (hd : Dk w' D (.map (some M)) room' off' ops' ahead') (hg : w.grownBy w' (some D)) : DS w' B D M F s room' off' ops' ahead' v sy :=
  ⟨hd, h.mp.kept hg (fun e => bx_nemap h.dk h.mp (by simpa using e)), h.fl.grown hg (fun e => bx_ne h.dk h.fl (by decide) (by simpa using e)), h.bd, h.bm, h.bf⟩
theorem DS.rowset (h : DS w B D M F s room off ops ahead v sy) (ho : BO w B v' l) (hg : w.grownBy w' (some D)) : BO w' B v' l := World.ownsRow.kept ho hg (bx_row h.dk ho (by decide))
theorem DS.flset (h : DS w B D M F s room off ops ahead v sy) (i : Nat) (u : Value) (he : (#[v, .int .i64 sy] : Array Value).setIfInBounds i u = #[v', .int .i64 sy']) : DS (w.setCell ⟨F, i, none⟩ u) B D M F s room off ops ahead v' sy' := by
  refine ⟨h.dk.beside (p := ⟨F, i, none⟩) (fun e => bx_ne h.dk h.fl (by decide) e.symm) _, h.mp.setCell (bx_nemap h.fl h.mp) _, ?_, h.bd, h.bm, h.bf⟩
  rw [← he]; exact h.fl.put i u
theorem DS.next (h : DS w B D M F s room off ops ahead v sy) (hb : Below w.heap.size w w') : DS w' B D M F s room off ops ahead v sy :=
  ⟨h.dk.next hb, h.mp.kept (row := none) (gb_below hb none) (by simp), h.fl.next hb, h.bd, h.bm, h.bf⟩
end
theorem bgB {w w1 w2 : World} {B c : Nat} (hB : B ≤ w.heap.size) (h : Below B w w1) (hg : w1.grownBy w2 (some c)) (hc : B ≤ c) : Below B w w2 := h.grown hg (Nat.le_trans hB h.size) (fun k hk => by cases hk; exact hc)
theorem opS_cases (ahead : Int) : ((opS ahead).1 = 0 ∧ (opS ahead).2.1 = false) ∨ ((opS ahead).1 = 110 ∧ (opS ahead).2.1 = true) := by
  unfold opS
  split
  · left; exact ⟨rfl, rfl⟩
  · split
    · right; exact ⟨rfl, rfl⟩
    · left; exact ⟨rfl, rfl⟩
theorem new_any (room : Int) (w : World) : Calls Try.prog 41 #[.int .i64 room] w fun e w' => e = .returned (.pointer (some ⟨w.heap.size + 1, 0, none⟩)) ∧ Dk w' (w.heap.size + 1) (.map (some w.heap.size)) (max room 0) false 0 (-1) ∧ w'.ownsMap Try.prog 9 Rp w.heap.size 0 D0 ∧ Below w.heap.size w w' := by
  have hmm := @run_makeMap Try.prog
  have hm := World.ownsMap_made w Try.prog 9 Rp
  have e1 : Below w.heap.size w (w.alloc (.map #[] 0)) := (Below.refl _ _).alloc (Nat.le_refl _) _
  have e2 := e1.alloc e1.size (.cells #[.map (some w.heap.size), .int .i64 0, .bool false, .int .i64 0, .int .i64 (-1)] 89)
  have hb : Dk ((w.alloc (.map #[] 0)).alloc (.cells #[.map (some w.heap.size), .int .i64 0, .bool false, .int .i64 0, .int .i64 (-1)] 89)) (w.heap.size + 1) (.map (some w.heap.size)) 0 false 0 (-1) := Bx.fresh' (w.alloc _) (by simp) _ _
  have C := Hid.mk' (room_any (w.heap.size + 1) _ 0 false 0 (-1) room _ hb)
  have H := Hid.mk' (And.intro (hm.alloc (.cells #[.map (some w.heap.size), .int .i64 0, .bool false, .int .i64 0, .int .i64 (-1)] 89)) e2)
  clear hm e1 e2 hb
  go_enter Try.func41, Try.ntmps41
  go_wp2_with fail
  refine C.out.mono ?_; rintro e w2 ⟨rfl, hd, hg⟩
  have HD := Hid.mk' (And.intro hd hg)
  clear hd hg
  go_wp2_with fail
  go_ret
  exact ⟨rfl, HD.out.1, H.out.1.kept HD.out.2 (by simp), below_gb H.out.2 HD.out.2 (Nat.le_succ _)⟩
section
variable {B D M F : Nat} {s : ByteArray} {room : Int} {ops ahead : Int} {v : Value} {sy : Int} {l : List UInt8}
theorem find_off (w : World) (h : DS w B D M F s room true ops ahead v sy) :
    Calls Try.prog 71 #[.pointer (some ⟨D, 0, none⟩), .string s] w fun e w' => e = .returned (.tuple #[.pointer none, .int .i64 110]) ∧ w = w' := by
  have hd := h.dk
  unfold Dk at hd
  obtain ⟨c0, c1, c2, c3, c4⟩ := hd.reads5
  clear hd h
  go_enter Try.func71, Try.ntmps71
  go_wp2_with fail
  go_ret2
  exact ⟨rfl, rfl⟩
theorem find_on (hs : s.size ≤ maxLen) (w : World) (h : DS w B D M F s room false ops ahead v sy) :
    Calls Try.prog 71 #[.pointer (some ⟨D, 0, none⟩), .string s] w fun e w' => e = .returned (.tuple #[.pointer (some ⟨F, 0, none⟩), .int .i64 0]) ∧ w = w' := by
  have hd := h.dk
  unfold Dk at hd
  obtain ⟨c0, c1, c2, c3, c4⟩ := hd.reads5
  have hl := look1 h.mp hs
  clear hd h
  go_enter Try.func71, Try.ntmps71
  go_wp2_with fail
  go_ret2
  exact ⟨rfl, rfl⟩
theorem opon_off (w : World) (h : DS w B D M F s room true ops ahead v sy) :
    Calls Try.prog 70 #[.pointer (some ⟨D, 0, none⟩), .string s] w fun e w' => e = .returned (.tuple #[.pointer none, .int .i64 110]) ∧ w = w' := by
  have C := Hid.mk' (find_off w h)
  clear h
  go_enter Try.func70, Try.ntmps70
  go_wp2_with fail
  refine C.out.mono ?_; rintro e w2 ⟨rfl, rfl⟩
  go_wp2_with fail
  go_ret2
  exact ⟨rfl, rfl⟩
theorem opon_on (hs : s.size ≤ maxLen) (h1 : -1 ≤ ahead) (h2 : ahead ≤ 9223372036854775807) (ho : 0 ≤ ops) (ho2 : ops ≤ 1000) (w : World) (h : DS w B D M F s room false ops ahead v sy) :
    Calls Try.prog 70 #[.pointer (some ⟨D, 0, none⟩), .string s] w fun e w' => e = .returned (.tuple #[.pointer (some ⟨F, 0, none⟩), .int .i64 (opS ahead).1]) ∧ Dk w' D (.map (some M)) room (opS ahead).2.1 (ops + 1) (opS ahead).2.2 ∧ w.grownBy w' (some D) := by
  have C := Hid.mk' (find_on hs w h)
  have C2 := Hid.mk' (operate_any D _ room ops ahead h1 h2 ho ho2 w h.dk)
  clear h
  generalize opS ahead = x at *
  obtain ⟨x1, x2, x3⟩ := x
  dsimp only at *
  go_enter Try.func70, Try.ntmps70
  go_wp2_with fail
  refine C.out.mono ?_; rintro e w2 ⟨rfl, rfl⟩
  go_wp2_with fail
  refine C2.out.mono ?_; rintro e w3 ⟨rfl, hd, hg⟩
  have HD := Hid.mk' (And.intro hd hg)
  clear hd hg
  go_wp2_with fail
  go_ret2
  exact ⟨rfl, HD.out.1, HD.out.2⟩
/-- What Sync leaves. -/
def SyncPost (B D M F : Nat) (s : ByteArray) (room : Int) (ops ahead : Int) (v : Value) (sy : Int) (l : List UInt8) (w : World) (e : Ending) (w' : World) : Prop :=
  e = .returned (.int .i64 (opS ahead).1) ∧ DS w' B D M F s room (opS ahead).2.1 (ops + 1) (opS ahead).2.2 v (if (opS ahead).1 = 0 then (l.length : Int) else sy) ∧ BO w' B v l ∧ Below B w w'
theorem sync_off (w : World) (h : DS w B D M F s room true ops ahead v sy) :
    Calls Try.prog 43 #[.pointer (some ⟨D, 0, none⟩), .string s] w fun e w' => e = .returned (.int .i64 110) ∧ w = w' := by
  have C := Hid.mk' (opon_off w h)
  clear h
  go_enter Try.func43, Try.ntmps43
  go_wp2_with fail
  refine C.out.mono ?_; rintro e w2 ⟨rfl, rfl⟩
  go_wp2_with fail
  go_ret
  exact ⟨rfl, rfl⟩
theorem sync_on (hs : s.size ≤ maxLen) (h1 : -1 ≤ ahead) (h2 : ahead ≤ 9223372036854775807) (ho : 0 ≤ ops) (ho2 : ops ≤ 1000) (w : World) (h : DS w B D M F s room false ops ahead v sy) (hv : BO w B v l) (hB : B ≤ w.heap.size) :
    Calls Try.prog 43 #[.pointer (some ⟨D, 0, none⟩), .string s] w (SyncPost B D M F s room ops ahead v sy l w) := by
  have C := Hid.mk' (opon_on hs h1 h2 ho ho2 w h)
  have HH := Hid.mk' (And.intro h hv)
  have HBb := Hid.mk' hB
  have hc := opS_cases ahead
  unfold SyncPost
  clear h hv hB
  generalize opS ahead = x at *
  obtain ⟨x1, x2, x3⟩ := x
  dsimp only at *
  obtain ⟨a, cap, rfl⟩ := HH.out.2.bs.form
  rcases hc with ⟨rfl, rfl⟩ | ⟨rfl, rfl⟩
  · go_enter Try.func43, Try.ntmps43
    go_wp2_with fail
    refine C.out.mono ?_; rintro e w3 ⟨rfl, hd, hg⟩
    have hds := HH.out.1.dkset hd hg
    have hrow := HH.out.1.rowset HH.out.2 hg
    obtain ⟨c0, c1⟩ := And.intro (hds.fl.read (i := 0) rfl) (hds.fl.read (i := 1) rfl)
    have f1 := hds.fl.open_ 1
    have HD := Hid.mk' (And.intro hds (And.intro hrow (bgB HBb.out (Below.refl B w) hg HH.out.1.bd)))
    clear hd hg hds hrow
    go_wp2_with fail
    go_ret
    refine ⟨rfl, HD.out.1.flset 1 _ rfl, ?_, ?_⟩
    · exact World.ownsRow.kept HD.out.2.1 (gb_set _ _ _ _) (bx_row HD.out.1.fl HD.out.2.1 (by decide))
    · exact bgB HBb.out HD.out.2.2 (gb_set w3 F 1 _) HD.out.1.bf
  · go_enter Try.func43, Try.ntmps43
    go_wp2_with fail
    refine C.out.mono ?_; rintro e w3 ⟨rfl, hd, hg⟩
    have hds := HH.out.1.dkset hd hg
    have hrow := HH.out.1.rowset HH.out.2 hg
    have HD := Hid.mk' (And.intro hds (And.intro hrow (bgB HBb.out (Below.refl B w) hg HH.out.1.bd)))
    clear hd hg hds hrow
    go_wp2_with fail
    go_ret
    exact ⟨rfl, HD.out.1, HD.out.2.1, HD.out.2.2⟩
theorem read_on (hs : s.size ≤ maxLen) (hl : l.length ≤ 100000) (w : World) (h : DS w B D M F s room false ops ahead v sy) (hv : BS w v l) :
    Calls Try.prog 48 #[.pointer (some ⟨D, 0, none⟩), .string s] w fun e w' => ∃ v', e = .returned (.tuple #[v', .int .i64 0]) ∧ BS w' v' l ∧ Below w.heap.size w w' := by
  have C := Hid.mk' (find_on hs w h)
  have C2 := Hid.mk' (bclone_any v l hl w hv)
  obtain ⟨c0, c1⟩ := And.intro (h.fl.read (i := 0) rfl) (h.fl.read (i := 1) rfl)
  obtain ⟨a, cap, rfl⟩ := hv.form
  clear h hv
  go_enter Try.func48, Try.ntmps48
  go_wp2_with fail
  refine C.out.mono ?_; rintro e w2 ⟨rfl, rfl⟩
  go_wp2_with fail
  refine C2.out.mono ?_; rintro e w3 ⟨v', rfl, ho, hb⟩
  obtain ⟨a', cap', hv'⟩ := ho.bs.form
  subst hv'
  have HD := Hid.mk' (And.intro ho hb)
  clear ho hb
  go_wp2_with fail
  go_ret2
  exact ⟨_, rfl, HD.out.1.bs, HD.out.2⟩
end
end Go.Proofs.Ytdckdhbnfakleaa
