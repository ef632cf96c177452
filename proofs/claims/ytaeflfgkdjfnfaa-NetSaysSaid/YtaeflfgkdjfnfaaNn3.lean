/- Layer 22 (net): Send, by the code, of messages that say that one is there. -/
import Derived.Test.YtaeflfgkdjfnfaaNn2
import Derived.Test.YtaeflfgkdjfnfaaRow
import Derived.Deep.AppendLies
import Derived.Deep.RegionLaw
namespace Go.Proofs.Ytaeflfgkdjfnfaa
open Go.RowKit

def mvl (f : Int) : List Value := [.int .i64 f, .int .i64 0, .int .i64 0, .bool false, .bool false, .bool false, .bool false, .bool false, .int .i64 0, .int .i64 0, .int .i64 0, .int .i64 0, .int .i64 0, .int .i64 0, .int .i64 0, .int .i64 0, .iface 145 (.agg #[])]
def flM (L : List Int) : List Value := L.flatMap mvl
theorem flM_snoc (L : List Int) (f : Int) : flM (L ++ [f]) = flM L ++ mvl f := by simp [flM]
theorem mvl_one (f : Int) : ∀ u ∈ mvl f, u.oneCell' = true := by
  intro u hu
  simp only [mvl, List.mem_cons, List.not_mem_nil, or_false] at hu
  rcases hu with rfl | rfl | rfl | rfl | rfl | rfl | rfl | rfl | rfl | rfl | rfl | rfl | rfl | rfl | rfl | rfl | rfl <;> rfl
theorem flM_len (L : List Int) : (flM L).length = L.length * 17 := by
  induction L with
  | nil => rfl
  | cons f L ih => simp only [flM, List.flatMap_cons, List.length_append, List.length_cons] at *; rw [ih]; simp [mvl]; omega
theorem msg_info : (Try.prog.info? 43).map (fun i => (i.zero, i.size, i.bytes)) = some (some (.agg #[.int .i64 0, .int .i64 0, .int .i64 0, .bool false, .bool false, .bool false, .bool false, .bool false, .int .i64 0, .int .i64 0, .int .i64 0, .int .i64 0, .int .i64 0, .int .i64 0, .int .i64 0, .int .i64 0, .nilIface]), 17, 112) := by kernel_rfl
/-- A net in memory: the messages that are under way, from whom. -/
def NW (w0 W : World) (N : Nat) (v : Value) (L : List Int) : Prop := Bx W N 142 #[v, .int .i64 0] ∧ W.ownsRow (N + 1) 43 17 v L.length (flM L) ∧ Below w0.heap.size w0 W
theorem NW.next {w0 W W' : World} {N : Nat} {v : Value} {L : List Int} (h : NW w0 W N v L) (hb : Below W.heap.size W W') : NW w0 W' N v L := ⟨h.1.next hb, own_next h.2.1 hb, h.2.2.trans (hb.mono h.2.2.size)⟩
theorem own_set {W : World} {N i : Nat} {v u : Value} {n : Nat} {xs : List Value} (h : W.ownsRow (N + 1) 43 17 v n xs) : (W.setCell ⟨N, i, none⟩ u).ownsRow (N + 1) 43 17 v n xs := by
  refine ⟨h.1, ?_⟩
  rcases h.2 with h2 | ⟨g, cap, cur, hv, hB, hg, hr⟩
  · exact .inl h2
  · refine .inr ⟨g, cap, cur, hv, hB, ?_, hr⟩
    rw [← hg]
    simp only [World.setCell, Array.getElem?_modify]
    rw [if_neg (by omega)]
/-- What keeps a block: no one's of the net's own. -/
def Kp (w w' : World) (N : Nat) (v : Value) : Prop := ∀ B T cs, Bx w B T cs → B ≠ N → v.ownBlock ≠ some B → Bx w' B T cs
theorem NW.app {w0 w2 W6 : World} {N : Nat} {v v' : Value} {L : List Int} {f : Int} {o : Obj} (h : NW w0 w2 N v L) (hN : w0.heap.size ≤ N) (hg : (w2.alloc o).grownBy W6 v.ownBlock) (ho : W6.ownsRow (N + 1) 43 17 v' (L.length + 1) (flM L ++ mvl f)) : W6.cell? ⟨N, 0, none⟩ = some v ∧ W6.frozen? ⟨N, 0, none⟩ = false ∧ NW w0 (W6.setCell ⟨N, 0, none⟩ v') N v' (L ++ [f]) ∧ Kp w2 (W6.setCell ⟨N, 0, none⟩ v') N v := by
  have hne : some N ≠ v.ownBlock := fun e => by have := (World.ownsRow.lt h.2.1 N e.symm).1; omega
  have hb : Bx W6 N 142 #[v, .int .i64 0] := (hg.block N (by have := h.1.inside; simp; omega) hne).trans (h.1.past o)
  have hbel : Below w0.heap.size w0 W6 := (h.2.2.alloc h.2.2.size o).grown hg (by have := h.2.2.size; simp; omega) (fun k hk => by have := (World.ownsRow.lt h.2.1 k hk).1; omega)
  refine ⟨hb.read (i := 0) rfl, hb.open_ 0, ⟨hb.put 0 v', ?_, hbel.setCell hN _⟩, fun B T cs hx hn hv => Bx.beside (w := W6) (g := B) (t := T) (cs := cs) ((hg.block B (by have := hx.inside; simp; omega) (fun e => hv e.symm)).trans (hx.past o)) (fun e => hn e.symm) v'⟩
  rw [flM_snoc, List.length_append]
  exact own_set ho
set_option maxRecDepth 100000 in
set_option maxHeartbeats 16000000 in
theorem send_beat (w0 : World) (N : Nat) (v : Value) (L : List Int) (f : Int) (hL : L.length ≤ 10) (hN : w0.heap.size ≤ N) (w : World) (h : NW w0 w N v L) : Calls Try.prog 85 #[.pointer (some ⟨N, 0, none⟩), .agg #[.int .i64 f, .int .i64 0, .int .i64 0, .bool false, .bool false, .bool false, .bool false, .bool false, .int .i64 0, .int .i64 0, .int .i64 0, .int .i64 0, .int .i64 0, .int .i64 0, .int .i64 0, .int .i64 0, .iface 145 (.agg #[])]] w fun e w' => e = .returned (.bool true) ∧ ∃ v', NW w0 w' N v' (L ++ [f]) ∧ Kp w w' N v := by
  obtain ⟨i0, hi0, hz0, hz1, hz2⟩ := info_parts msg_info
  have HI := Lib.hid (And.intro hi0 (And.intro hz0 (And.intro hz1 hz2)))
  clear hi0 hz0 hz1 hz2
  obtain ⟨W1, hW1⟩ : ∃ W1, w.alloc (.cells #[.int .i64 f, .int .i64 0, .int .i64 0, .bool false, .bool false, .bool false, .bool false, .bool false, .int .i64 0, .int .i64 0, .int .i64 0, .int .i64 0, .int .i64 0, .int .i64 0, .int .i64 0, .int .i64 0, .iface 145 (.agg #[])] 43) = W1 := ⟨_, rfl⟩
  have hb1 : Below w.heap.size w W1 := by rw [← hW1]; exact (Below.refl _ _).alloc (Nat.le_refl _) _
  have hx1 : Bx W1 w.heap.size 43 #[.int .i64 f, .int .i64 0, .int .i64 0, .bool false, .bool false, .bool false, .bool false, .bool false, .int .i64 0, .int .i64 0, .int .i64 0, .int .i64 0, .int .i64 0, .int .i64 0, .int .i64 0, .int .i64 0, .iface 145 (.agg #[])] := by rw [← hW1]; exact Bx.fresh w _ _
  have HW := Lib.hid (show NW w0 W1 N v L ∧ Bx W1 w.heap.size 43 #[.int .i64 f, .int .i64 0, .int .i64 0, .bool false, .bool false, .bool false, .bool false, .bool false, .int .i64 0, .int .i64 0, .int .i64 0, .int .i64 0, .int .i64 0, .int .i64 0, .int .i64 0, .int .i64 0, .iface 145 (.agg #[])] from ⟨h.next hb1, hx1⟩)
  have HLT := Lib.hid (show N < w.heap.size ∧ (∀ k, v.ownBlock = some k → k < w.heap.size) from ⟨h.1.inside, fun k hk => (World.ownsRow.lt h.2.1 k hk).2⟩)
  have HD : Hid (NW w0 W1.drew N v L ∧ Bx W1.drew w.heap.size 43 #[.int .i64 f, .int .i64 0, .int .i64 0, .bool false, .bool false, .bool false, .bool false, .bool false, .int .i64 0, .int .i64 0, .int .i64 0, .int .i64 0, .int .i64 0, .int .i64 0, .int .i64 0, .int .i64 0, .iface 145 (.agg #[])]) := Lib.hid ⟨HW.out.1.next (Below.refl _ _).drew, HW.out.2⟩
  have HK : Hid (∀ B T cs, Bx w B T cs → Bx W1.drew B T cs) := Lib.hid fun B T cs hx => hx.next hb1.drew
  have HS0 : Hid ((fun W : World => W.cell? ⟨w.heap.size, 0, none⟩ = some (.int .i64 f) ∧ W.cell? ⟨w.heap.size, 1, none⟩ = some (.int .i64 0) ∧ W.cell? ⟨w.heap.size, 2, none⟩ = some (.int .i64 0) ∧ W.cell? ⟨w.heap.size, 3, none⟩ = some (.bool false) ∧ W.cell? ⟨w.heap.size, 4, none⟩ = some (.bool false) ∧ W.cell? ⟨w.heap.size, 5, none⟩ = some (.bool false) ∧ W.cell? ⟨w.heap.size, 6, none⟩ = some (.bool false) ∧ W.cell? ⟨w.heap.size, 7, none⟩ = some (.bool false) ∧ W.cell? ⟨w.heap.size, 8, none⟩ = some (.int .i64 0) ∧ W.cell? ⟨w.heap.size, 9, none⟩ = some (.int .i64 0) ∧ W.cell? ⟨w.heap.size, 10, none⟩ = some (.int .i64 0) ∧ W.cell? ⟨w.heap.size, 11, none⟩ = some (.int .i64 0) ∧ W.cell? ⟨w.heap.size, 12, none⟩ = some (.int .i64 0) ∧ W.cell? ⟨w.heap.size, 13, none⟩ = some (.int .i64 0) ∧ W.cell? ⟨w.heap.size, 14, none⟩ = some (.int .i64 0) ∧ W.cell? ⟨w.heap.size, 15, none⟩ = some (.int .i64 0) ∧ W.cell? ⟨w.heap.size, 16, none⟩ = some (.iface 145 (.agg #[]))) W1.drew) := Lib.hid HD.out.2.reads17
  have y0 := HW.out.1.1.read (i := 0) (v := v) rfl
  have z0 := HW.out.1.1.open_ 0
  obtain ⟨a, c, rfl⟩ : ∃ a c, v = .slice a L.length c := by
    rcases h.2.1.2 with ⟨hv, hl⟩ | ⟨g, cap, cur, hv, _⟩
    · exact ⟨none, 0, by rw [hl]; exact hv⟩
    · exact ⟨_, _, hv⟩
  have hlt : ¬ (1000 : Int) ≤ (L.length : Int) := by omega
  clear h hb1 hx1
  go_enter Try.func85, Try.ntmps85
  go_wp2_with fail
  clear hW1
  obtain ⟨x0, x1, x2, x3, x4, x5, x6, x7, x8, x9, x10, x11, x12, x13, x14, x15, x16⟩ := HW.out.2.reads17
  go_region_law (first
    | (go_simp; go_at_call 143; refine (ownMsg f _).mono ?_; rintro _ w2 ⟨rfl, hb2⟩; have HA2 : Hid (NW w0 w2 N (.slice a L.length c) L ∧ Bx w2 w.heap.size 43 #[.int .i64 f, .int .i64 0, .int .i64 0, .bool false, .bool false, .bool false, .bool false, .bool false, .int .i64 0, .int .i64 0, .int .i64 0, .int .i64 0, .int .i64 0, .int .i64 0, .int .i64 0, .int .i64 0, .iface 145 (.agg #[])]) := Lib.hid ⟨HD.out.1.next hb2, HD.out.2.next hb2⟩; have HA3 : Hid (∀ B T cs, Bx w B T cs → Bx w2 B T cs) := Lib.hid fun B T cs hx => (HK.out B T cs hx).next hb2; have y2 := HA2.out.1.1.read (i := 0) (v := .slice a L.length c) rfl; have z2 := HA2.out.1.1.open_ 0; have l2 := HA2.out.1.1.inside; have n2 : N ≠ w2.heap.size := Nat.ne_of_lt l2; clear hb2)
    | (refine step_append_lies _ rfl (.tmp 22) (.tmp 25) 140 rfl (N + 1) 43 i0 _ 17 112 Try.underlying140 HI.out.1 HI.out.2.1 HI.out.2.2.1 HI.out.2.2.2 rfl (by decide) (.slice a L.length c) L.length (flM L) (by simp [Act.eval, Act.put]) (World.ownsRow.alloc HA2.out.1.2.1 _) ⟨w2.heap.size, 0, none⟩ 1 1 (mvl f) (by simp [Act.eval, Act.put]) rfl (World.news_of_block (cs := #[.int .i64 f, .int .i64 0, .int .i64 0, .bool false, .bool false, .bool false, .bool false, .bool false, .int .i64 0, .int .i64 0, .int .i64 0, .int .i64 0, .int .i64 0, .int .i64 0, .int .i64 0, .int .i64 0, .iface 145 (.agg #[])]) (t := 43) (fr := (0, 0)) (heap_alloc_new w2 _)) (mvl_one f) (by decide) (by simp only [maxLen]; omega) (by omega) (by have := HA2.out.1.1.inside; simp; omega) _ rfl ?_; intro g6 c6 W6 hown6 hgr6 hat6 hlt6; obtain ⟨y6, z6, hN6, hk6⟩ := HA2.out.1.app hN hgr6 hown6; have H6 := Lib.hid hN6; have K6 := Lib.hid (show Kp w _ N (.slice a L.length c) from fun B T cs hx hn hv => hk6 B T cs (HA3.out B T cs hx) hn hv); clear hN6 hk6 HA3 hown6 hgr6 hat6 hlt6))
  all_goals
    clear HA2 y2 z2 n2 y6 z6 HS0 HD HI HW HK
    go_wp2_with fail
    go_ret
    exact ⟨rfl, _, H6.out, K6.out⟩
end Go.Proofs.Ytaeflfgkdjfnfaa
