/- Layer 44 (hist): Line of the chapter's example. -/
import Derived.Test.YtljhnkcoknikgaaW0
namespace Go.Proofs.Ytljhnkcoknikgaa
open Go.RowKit
attribute [local go_sem] Oper.semAt_some

set_option maxRecDepth 100000 in
set_option maxHeartbeats 16000000 in
theorem line_ex (cs : Array Value) (hC : HC cs (cntF exL)) (w : World) :
    Calls Try.prog 60 #[.agg cs] w fun e w' => e = .returned (.string ⟨#[48, 58, 49, 32, 49, 58, 49, 32, 51, 58, 50]⟩) ∧ Below w.heap.size w w' := by
  have CS := Lib.hid (fun W => some_any cs hC.size W)
  have CT := Lib.hid (fun a W => text_txt a W)
  have HCC := Lib.hid hC
  have hld := load_hist ((w.alloc (.cells cs 24)).alloc (.cells #[.slice none 0 0] 121)) w.heap.size cs ((Bx.fresh _ _ _).past _) hC.size
  clear hC
  refine (callsIn_wide (n := 5)).1 ?_
  refine callsIn_of_wp_marks Try.func60 rfl trivial ?_ rfl
  simp only [Try.ntmps60, List.size_toArray, List.length_cons, List.length_nil, Nat.reduceAdd, Nat.reduceSub, Array.replicate_succ, Array.replicate_zero, List.push_toArray, List.append_toArray, List.nil_append, List.cons_append]
  gi_wp2_with (first | (refine wpListIn_load_row rfl 24 _ rfl w.heap.size rfl cs hld ?_) | (refine ⟨trivial, ?_⟩; gi_at_call 59; refine (callsIn_wide.2 (CS.out _)).mono ?_; rintro e w2 ⟨rfl, rfl⟩))
  have y1 : Bx (((w.alloc (.cells cs 24)).alloc (.cells #[.slice none 0 0] 121)).alloc (.cells cs 24)) (w.heap.size + 1) 121 #[.slice none 0 0] := (Bx.fresh' (w.alloc _) (by simp) _ _).past _
  have y2 : Bx (((w.alloc (.cells cs 24)).alloc (.cells #[.slice none 0 0] 121)).alloc (.cells cs 24)) (w.heap.size + 1 + 1) 24 cs := Bx.fresh' ((w.alloc _).alloc _) (by simp) _ _
  have e2 : Below w.heap.size w (((w.alloc (.cells cs 24)).alloc (.cells #[.slice none 0 0] 121)).alloc (.cells cs 24)) := (((Below.refl _ _).alloc (Nat.le_refl _) _).alloc (by simp) _).alloc (by simp; omega) _
  have hsz : (((w.alloc (.cells cs 24)).alloc (.cells #[.slice none 0 0] 121)).alloc (.cells cs 24)).heap.size = w.heap.size + 3 := by simp
  generalize ((w.alloc (.cells cs 24)).alloc (.cells #[.slice none 0 0] 121)).alloc (.cells cs 24) = w2 at *
  clear hld
  have hn3 : w.heap.size + 2 ≤ w2.heap.size := by omega
  obtain ⟨i0, hi, hz0, hz1, hz2⟩ := info_parts s_info
  have HI := Lib.hid (And.intro hi (And.intro hz0 (And.intro hz1 hz2)))
  clear hi hz0 hz1 hz2
  refine wpIn_rangeFunc_ownH rfl (by omega) (gf := 101) (lb := #[.pointer (some ⟨w.heap.size + 1 + 1, 0, none⟩)]) rfl trivial (enters_of Try.func101 (by kernel_rfl) rfl)
    (some_stops 4 (by omega) cs (cntF exL) HCC.out (w.heap.size + 1 + 1) 24 (Nat.le_refl _) w2 y2) (fun _ _ => trivial) (fun _ _ _ _ _ _ _ _ => trivial) (Below.refl _ _) (fun _ => rfl)
    (NI w w2.heap.size)
    (fun _ (_ : List Pr) _ => False)
    (NI.own w w2.heap.size hn3)
    (fun c q X Y row hs hg hr => hs)
    ⟨_, y1, World.ownsRow_nil _ _ _ _, e2, Nat.le_refl _⟩
    (fun (x : Pr) a' W => a' = { tmps := #[.agg cs, .pointer (some ⟨w.heap.size, 0, none⟩), .string ⟨#[]⟩, .pointer (some ⟨w.heap.size + 1, 0, none⟩), .int .i64 x.1.1, .int .i64 x.1.2, .agg cs, .func (.func 101) #[] #[.pointer (some ⟨w.heap.size + 1 + 1, 0, none⟩)], .int .i64 x.1.1, .int .i64 x.1.2, undef, undef, undef, undef, undef, undef, undef, undef, undef, undef, undef], defers := [] })
    (fun x a' => fun _ X Y row hs _ _ => hs) ?assign ?body ?done ?stop
  case assign =>
    rintro l pre x W K hI hK
    unfold encPr
    gi_wp2
    exact hK _ _ (KeepsFrom.refl _ _) trivial hI rfl
  case body =>
    rintro l pre x a' W hl ⟨r, hr⟩ ⟨va, hln⟩ rfl hN
    have HW : Hid (LK w w2.heap.size W W.drew va pre.length (rowP pre)) := Lib.hid ⟨⟨hln.b.drawn 1, World.ownsRow.drew hln.o, hln.bel.drew, hln.sz⟩, KeepsOthers.drew W⟩
    have hti := txt_size x.1.1
    have htn := txt_size x.1.2
    have Ci := Lib.hid (fun W => CT.out x.1.1 W)
    have Cn := Lib.hid (fun W => CT.out x.1.2 W)
    have HFIN : Hid (∀ (g cap : Nat) (W' : World), LN w w2.heap.size W' (.slice (some ⟨g, 0, none⟩) (pre.length + 1) cap) (pre.length + 1) (rowP pre ++ [.string (txt x.1.1 ++ ⟨#[58]⟩ ++ txt x.1.2)]) → KeepsOthers W W' → KeepsFrom w2.heap.size W W' ∧ True ∧ NI w w2.heap.size (pre ++ [x]) W') := Lib.hid (fun g cap W' h1 h2 => ⟨h2.from _, trivial, _, by
      rw [rowP_snoc, List.length_append]
      exact h1⟩)
    clear hln
    generalize txt x.1.1 = ti at *
    generalize txt x.1.2 = tn at *
    generalize x.1.1 = xi at *
    generalize x.1.2 = xn at *
    gi_wp2
    refine wpIn_region_anyR (by kernel_rfl) (by kernel_rfl) ?_
    simp only [List.size_toArray, List.length_cons, List.length_nil, Nat.reduceAdd]
    refine wpAny_take (i := 1) (oi := { dst := some 11, op := Op.move (Operand.tmp 4), type := 3, pos := "hist.go:96", after := #[], guard := none }) (v := .int .i64 xi) (fuel := 9) rfl (by kernel_rfl) (by kernel_rfl) (by kernel_rfl) (fun _ _ _ h => h) (Or.inl ⟨by kernel_rfl, ?_⟩) ?_
    · (intro W; first | (go_simp; done) | (go_simp; omega) | (go_simp; with_reducible rfl) | (go_simp; rfl))
    simp only [Act.put, List.setIfInBounds_toArray, List.set_cons_zero, List.set_cons_succ]
    refine wpAny_take (i := 4) (oi := { dst := some 14, op := Op.move (Operand.tmp 5), type := 3, pos := "hist.go:96", after := #[], guard := none }) (v := .int .i64 xn) (fuel := 8) rfl (by kernel_rfl) (by kernel_rfl) (by kernel_rfl) (fun _ _ _ h => h) (Or.inl ⟨by kernel_rfl, ?_⟩) ?_
    · (intro W; first | (go_simp; done) | (go_simp; omega) | (go_simp; with_reducible rfl) | (go_simp; rfl))
    simp only [Act.put, List.setIfInBounds_toArray, List.set_cons_zero, List.set_cons_succ]
    refine wpAny_ready (rs := [0, 2]) (fuel := 7) (by kernel_rfl) (by simp) ?_
    refine (AllReady.cons (o := { dst := some 10, op := Op.load 121 (Operand.tmp 3), type := 121, pos := "hist.go:96", after := #[], guard := none }) rfl (fun K hK => ?_) (AllReady.cons (o := { dst := some 12, op := Op.call { callee := Callee.value (Operand.func 102), args := #[Operand.tmp 11], argTypes := #[3] }, type := 9, pos := "hist.go:96", after := #[{ on := 1, ground := Ground.data }], guard := none }) rfl (fun K hK => ?_) AllReady.nil))
    · skip
      have c0 : W.drew.cell? ⟨w.heap.size + 1, 0, none⟩ = some va := HW.out.b.read (i := 0) rfl
      go_simp
      refine hK _ _ ?_
      clear hK K c0
      (try simp only [Act.put, List.setIfInBounds_toArray, List.set_cons_zero, List.set_cons_succ])
      refine wpAny_ready (rs := [2]) (fuel := 6) (by kernel_rfl) (by simp) ?_
      refine (AllReady.cons (o := { dst := some 12, op := Op.call { callee := Callee.value (Operand.func 102), args := #[Operand.tmp 11], argTypes := #[3] }, type := 9, pos := "hist.go:96", after := #[{ on := 1, ground := Ground.data }], guard := none }) rfl (fun K hK => ?_) AllReady.nil)
      go_simp
      go_at_call 102
      refine (Ci.out _).mono ?_
      rintro e w6 ⟨rfl, hbw6⟩
      have Hw6 := Lib.hid (HW.out.next hbw6)
      clear hbw6
      go_simp
      refine hK _ _ ?_
      clear hK K
      (try simp only [Act.put, List.setIfInBounds_toArray, List.set_cons_zero, List.set_cons_succ])
      refine wpAny_take (i := 3) (oi := { dst := some 13, op := Op.binOp BinOp.add 9 (Operand.tmp 12) (Operand.const (Value.string { data := #[58] })) 9, type := 9, pos := "hist.go:96", after := #[{ on := 2, ground := Ground.data }], guard := none }) (v := .string (ti ++ ⟨#[58]⟩)) (fuel := 5) rfl (by kernel_rfl) (by kernel_rfl) (by kernel_rfl) (fun _ _ _ h => h) (Or.inl ⟨by kernel_rfl, ?_⟩) ?_
      · (intro W; first | (go_simp; done) | (go_simp; omega) | (go_simp; with_reducible rfl) | (go_simp; rfl))
      simp only [Act.put, List.setIfInBounds_toArray, List.set_cons_zero, List.set_cons_succ]
      refine wpAny_ready (rs := [5]) (fuel := 4) (by kernel_rfl) (by simp) ?_
      refine (AllReady.cons (o := { dst := some 15, op := Op.call { callee := Callee.value (Operand.func 102), args := #[Operand.tmp 14], argTypes := #[3] }, type := 9, pos := "hist.go:96", after := #[{ on := 4, ground := Ground.data }, { on := 2, ground := Ground.chain }], guard := none }) rfl (fun K hK => ?_) AllReady.nil)
      go_simp
      go_at_call 102
      refine (Cn.out _).mono ?_
      rintro e w7 ⟨rfl, hbw7⟩
      have Hw7 := Lib.hid (Hw6.out.next hbw7)
      clear hbw7
      go_simp
      refine hK _ _ ?_
      clear hK K
      (try simp only [Act.put, List.setIfInBounds_toArray, List.set_cons_zero, List.set_cons_succ])
      refine wpAny_take (i := 6) (oi := { dst := some 16, op := Op.binOp BinOp.add 9 (Operand.tmp 13) (Operand.tmp 15) 9, type := 9, pos := "hist.go:96", after := #[{ on := 3, ground := Ground.data }, { on := 5, ground := Ground.data }], guard := none }) (v := .string (ti ++ ⟨#[58]⟩ ++ tn)) (fuel := 3) rfl (by kernel_rfl) (by kernel_rfl) (by kernel_rfl) (fun _ _ _ h => h) (Or.inl ⟨by kernel_rfl, ?_⟩) ?_
      · (intro W; first | (go_simp; done) | (go_simp; omega) | (go_simp; with_reducible rfl) | (go_simp; rfl))
      simp only [Act.put, List.setIfInBounds_toArray, List.set_cons_zero, List.set_cons_succ]
      refine wpAny_ready (rs := [7]) (fuel := 2) (by kernel_rfl) (by simp) ?_
      refine (AllReady.cons (o := { dst := some 17, op := Op.buildSlice 121 1 #[(0, Operand.tmp 16)], type := 121, pos := "hist.go:96", after := #[{ on := 6, ground := Ground.data }], guard := none }) rfl (fun K hK => ?_) AllReady.nil)
      go_simp
      refine hK _ _ ?_
      clear hK K
      (try simp only [Act.put, List.setIfInBounds_toArray, List.set_cons_zero, List.set_cons_succ])
      refine wpAny_ready (rs := [8]) (fuel := 1) (by kernel_rfl) (by simp) ?_
      refine (AllReady.cons (o := { dst := some 18, op := Op.call { callee := Callee.builtin Builtin.append, args := #[Operand.tmp 10, Operand.tmp 17], argTypes := #[121, 121] }, type := 121, pos := "hist.go:96", after := #[{ on := 0, ground := Ground.data }, { on := 7, ground := Ground.data }, { on := 5, ground := Ground.chain }], guard := none }) rfl (fun K hK => ?_) AllReady.nil)
      refine step_append_lies _ rfl (.tmp 10) (.tmp 17) 121 rfl w2.heap.size 9 i0 _ 1 16 Try.underlying121 HI.out.1 HI.out.2.1 HI.out.2.2.1 HI.out.2.2.2 rfl (by decide) va pre.length (rowP pre) (by simp [Act.eval, Act.put]) (World.ownsRow.alloc Hw7.out.o _) ⟨w7.heap.size, 0, none⟩ 1 1 [.string (ti ++ ⟨#[58]⟩ ++ tn)] (by simp [Act.eval, Act.put]) rfl (World.news_of_block (cs := #[.string (ti ++ ⟨#[58]⟩ ++ tn)]) (t := 9) (fr := (0, 0)) (heap_alloc_new w7 _)) (by simp [Value.oneCell']) (by omega) (by simp only [maxLen]; omega) (by omega) (by have := Hw7.out.sz; simp; omega) (w7.heap.size + 1) (by simp) ?_
      intro g cap W8 hown hgr hat hlt8
      have HA := Lib.hid (Hw7.out.app hn3 _ hown hgr)
      have c8 : W8.cell? ⟨w.heap.size + 1, 0, none⟩ = some va := HA.out.1.read (i := 0) rfl
      have f8 : W8.frozen? ⟨w.heap.size + 1, 0, none⟩ = false := HA.out.1.open_ 0
      clear hown hgr hat hlt8
      (try go_simp)
      refine hK _ _ ?_
      clear hK K
      (try simp only [Act.put, List.setIfInBounds_toArray, List.set_cons_zero, List.set_cons_succ])
      refine wpAny_ready (rs := [9]) (fuel := 0) (by kernel_rfl) (by simp) ?_
      refine (AllReady.cons (o := { dst := none, op := Op.store 121 (Operand.tmp 3) (Operand.tmp 18), type := 0, pos := "hist.go:96", after := #[{ on := 8, ground := Ground.data }, { on := 8, ground := Ground.chain }, { on := 0, ground := Ground.phase }, { on := 1, ground := Ground.phase }, { on := 2, ground := Ground.phase }, { on := 3, ground := Ground.phase }, { on := 4, ground := Ground.phase }, { on := 5, ground := Ground.phase }, { on := 6, ground := Ground.phase }, { on := 7, ground := Ground.phase }, { on := 8, ground := Ground.phase }], guard := none }) rfl (fun K hK => ?_) AllReady.nil)
      go_simp
      refine hK _ _ ?_
      clear hK K
      (try simp only [Act.put, List.setIfInBounds_toArray, List.set_cons_zero, List.set_cons_succ])
      refine wpAny_done (by kernel_rfl) ?_ _
      exact HFIN.out _ _ _ HA.out.2.1 HA.out.2.2
    · skip
      go_simp
      go_at_call 102
      refine (Ci.out _).mono ?_
      rintro e w6 ⟨rfl, hbw6⟩
      have Hw6 := Lib.hid (HW.out.next hbw6)
      clear hbw6
      go_simp
      refine hK _ _ ?_
      clear hK K
      (try simp only [Act.put, List.setIfInBounds_toArray, List.set_cons_zero, List.set_cons_succ])
      refine wpAny_take (i := 3) (oi := { dst := some 13, op := Op.binOp BinOp.add 9 (Operand.tmp 12) (Operand.const (Value.string { data := #[58] })) 9, type := 9, pos := "hist.go:96", after := #[{ on := 2, ground := Ground.data }], guard := none }) (v := .string (ti ++ ⟨#[58]⟩)) (fuel := 6) rfl (by kernel_rfl) (by kernel_rfl) (by kernel_rfl) (fun _ _ _ h => h) (Or.inl ⟨by kernel_rfl, ?_⟩) ?_
      · (intro W; first | (go_simp; done) | (go_simp; omega) | (go_simp; with_reducible rfl) | (go_simp; rfl))
      simp only [Act.put, List.setIfInBounds_toArray, List.set_cons_zero, List.set_cons_succ]
      refine wpAny_ready (rs := [0, 5]) (fuel := 5) (by kernel_rfl) (by simp) ?_
      refine (AllReady.cons (o := { dst := some 10, op := Op.load 121 (Operand.tmp 3), type := 121, pos := "hist.go:96", after := #[], guard := none }) rfl (fun K hK => ?_) (AllReady.cons (o := { dst := some 15, op := Op.call { callee := Callee.value (Operand.func 102), args := #[Operand.tmp 14], argTypes := #[3] }, type := 9, pos := "hist.go:96", after := #[{ on := 4, ground := Ground.data }, { on := 2, ground := Ground.chain }], guard := none }) rfl (fun K hK => ?_) AllReady.nil))
      · skip
        have c0 : w6.cell? ⟨w.heap.size + 1, 0, none⟩ = some va := Hw6.out.b.read (i := 0) rfl
        go_simp
        refine hK _ _ ?_
        clear hK K c0
        (try simp only [Act.put, List.setIfInBounds_toArray, List.set_cons_zero, List.set_cons_succ])
        refine wpAny_ready (rs := [5]) (fuel := 4) (by kernel_rfl) (by simp) ?_
        refine (AllReady.cons (o := { dst := some 15, op := Op.call { callee := Callee.value (Operand.func 102), args := #[Operand.tmp 14], argTypes := #[3] }, type := 9, pos := "hist.go:96", after := #[{ on := 4, ground := Ground.data }, { on := 2, ground := Ground.chain }], guard := none }) rfl (fun K hK => ?_) AllReady.nil)
        go_simp
        go_at_call 102
        refine (Cn.out _).mono ?_
        rintro e w7 ⟨rfl, hbw7⟩
        have Hw7 := Lib.hid (Hw6.out.next hbw7)
        clear hbw7
        go_simp
        refine hK _ _ ?_
        clear hK K
        (try simp only [Act.put, List.setIfInBounds_toArray, List.set_cons_zero, List.set_cons_succ])
        refine wpAny_take (i := 6) (oi := { dst := some 16, op := Op.binOp BinOp.add 9 (Operand.tmp 13) (Operand.tmp 15) 9, type := 9, pos := "hist.go:96", after := #[{ on := 3, ground := Ground.data }, { on := 5, ground := Ground.data }], guard := none }) (v := .string (ti ++ ⟨#[58]⟩ ++ tn)) (fuel := 3) rfl (by kernel_rfl) (by kernel_rfl) (by kernel_rfl) (fun _ _ _ h => h) (Or.inl ⟨by kernel_rfl, ?_⟩) ?_
        · (intro W; first | (go_simp; done) | (go_simp; omega) | (go_simp; with_reducible rfl) | (go_simp; rfl))
        simp only [Act.put, List.setIfInBounds_toArray, List.set_cons_zero, List.set_cons_succ]
        refine wpAny_ready (rs := [7]) (fuel := 2) (by kernel_rfl) (by simp) ?_
        refine (AllReady.cons (o := { dst := some 17, op := Op.buildSlice 121 1 #[(0, Operand.tmp 16)], type := 121, pos := "hist.go:96", after := #[{ on := 6, ground := Ground.data }], guard := none }) rfl (fun K hK => ?_) AllReady.nil)
        go_simp
        refine hK _ _ ?_
        clear hK K
        (try simp only [Act.put, List.setIfInBounds_toArray, List.set_cons_zero, List.set_cons_succ])
        refine wpAny_ready (rs := [8]) (fuel := 1) (by kernel_rfl) (by simp) ?_
        refine (AllReady.cons (o := { dst := some 18, op := Op.call { callee := Callee.builtin Builtin.append, args := #[Operand.tmp 10, Operand.tmp 17], argTypes := #[121, 121] }, type := 121, pos := "hist.go:96", after := #[{ on := 0, ground := Ground.data }, { on := 7, ground := Ground.data }, { on := 5, ground := Ground.chain }], guard := none }) rfl (fun K hK => ?_) AllReady.nil)
        refine step_append_lies _ rfl (.tmp 10) (.tmp 17) 121 rfl w2.heap.size 9 i0 _ 1 16 Try.underlying121 HI.out.1 HI.out.2.1 HI.out.2.2.1 HI.out.2.2.2 rfl (by decide) va pre.length (rowP pre) (by simp [Act.eval, Act.put]) (World.ownsRow.alloc Hw7.out.o _) ⟨w7.heap.size, 0, none⟩ 1 1 [.string (ti ++ ⟨#[58]⟩ ++ tn)] (by simp [Act.eval, Act.put]) rfl (World.news_of_block (cs := #[.string (ti ++ ⟨#[58]⟩ ++ tn)]) (t := 9) (fr := (0, 0)) (heap_alloc_new w7 _)) (by simp [Value.oneCell']) (by omega) (by simp only [maxLen]; omega) (by omega) (by have := Hw7.out.sz; simp; omega) (w7.heap.size + 1) (by simp) ?_
        intro g cap W8 hown hgr hat hlt8
        have HA := Lib.hid (Hw7.out.app hn3 _ hown hgr)
        have c8 : W8.cell? ⟨w.heap.size + 1, 0, none⟩ = some va := HA.out.1.read (i := 0) rfl
        have f8 : W8.frozen? ⟨w.heap.size + 1, 0, none⟩ = false := HA.out.1.open_ 0
        clear hown hgr hat hlt8
        (try go_simp)
        refine hK _ _ ?_
        clear hK K
        (try simp only [Act.put, List.setIfInBounds_toArray, List.set_cons_zero, List.set_cons_succ])
        refine wpAny_ready (rs := [9]) (fuel := 0) (by kernel_rfl) (by simp) ?_
        refine (AllReady.cons (o := { dst := none, op := Op.store 121 (Operand.tmp 3) (Operand.tmp 18), type := 0, pos := "hist.go:96", after := #[{ on := 8, ground := Ground.data }, { on := 8, ground := Ground.chain }, { on := 0, ground := Ground.phase }, { on := 1, ground := Ground.phase }, { on := 2, ground := Ground.phase }, { on := 3, ground := Ground.phase }, { on := 4, ground := Ground.phase }, { on := 5, ground := Ground.phase }, { on := 6, ground := Ground.phase }, { on := 7, ground := Ground.phase }, { on := 8, ground := Ground.phase }], guard := none }) rfl (fun K hK => ?_) AllReady.nil)
        go_simp
        refine hK _ _ ?_
        clear hK K
        (try simp only [Act.put, List.setIfInBounds_toArray, List.set_cons_zero, List.set_cons_succ])
        refine wpAny_done (by kernel_rfl) ?_ _
        exact HFIN.out _ _ _ HA.out.2.1 HA.out.2.2
      · skip
        go_simp
        go_at_call 102
        refine (Cn.out _).mono ?_
        rintro e w7 ⟨rfl, hbw7⟩
        have Hw7 := Lib.hid (Hw6.out.next hbw7)
        clear hbw7
        go_simp
        refine hK _ _ ?_
        clear hK K
        (try simp only [Act.put, List.setIfInBounds_toArray, List.set_cons_zero, List.set_cons_succ])
        refine wpAny_take (i := 6) (oi := { dst := some 16, op := Op.binOp BinOp.add 9 (Operand.tmp 13) (Operand.tmp 15) 9, type := 9, pos := "hist.go:96", after := #[{ on := 3, ground := Ground.data }, { on := 5, ground := Ground.data }], guard := none }) (v := .string (ti ++ ⟨#[58]⟩ ++ tn)) (fuel := 4) rfl (by kernel_rfl) (by kernel_rfl) (by kernel_rfl) (fun _ _ _ h => h) (Or.inl ⟨by kernel_rfl, ?_⟩) ?_
        · (intro W; first | (go_simp; done) | (go_simp; omega) | (go_simp; with_reducible rfl) | (go_simp; rfl))
        simp only [Act.put, List.setIfInBounds_toArray, List.set_cons_zero, List.set_cons_succ]
        refine wpAny_ready (rs := [0, 7]) (fuel := 3) (by kernel_rfl) (by simp) ?_
        refine (AllReady.cons (o := { dst := some 10, op := Op.load 121 (Operand.tmp 3), type := 121, pos := "hist.go:96", after := #[], guard := none }) rfl (fun K hK => ?_) (AllReady.cons (o := { dst := some 17, op := Op.buildSlice 121 1 #[(0, Operand.tmp 16)], type := 121, pos := "hist.go:96", after := #[{ on := 6, ground := Ground.data }], guard := none }) rfl (fun K hK => ?_) AllReady.nil))
        · skip
          have c0 : w7.cell? ⟨w.heap.size + 1, 0, none⟩ = some va := Hw7.out.b.read (i := 0) rfl
          go_simp
          refine hK _ _ ?_
          clear hK K c0
          (try simp only [Act.put, List.setIfInBounds_toArray, List.set_cons_zero, List.set_cons_succ])
          refine wpAny_ready (rs := [7]) (fuel := 2) (by kernel_rfl) (by simp) ?_
          refine (AllReady.cons (o := { dst := some 17, op := Op.buildSlice 121 1 #[(0, Operand.tmp 16)], type := 121, pos := "hist.go:96", after := #[{ on := 6, ground := Ground.data }], guard := none }) rfl (fun K hK => ?_) AllReady.nil)
          go_simp
          refine hK _ _ ?_
          clear hK K
          (try simp only [Act.put, List.setIfInBounds_toArray, List.set_cons_zero, List.set_cons_succ])
          refine wpAny_ready (rs := [8]) (fuel := 1) (by kernel_rfl) (by simp) ?_
          refine (AllReady.cons (o := { dst := some 18, op := Op.call { callee := Callee.builtin Builtin.append, args := #[Operand.tmp 10, Operand.tmp 17], argTypes := #[121, 121] }, type := 121, pos := "hist.go:96", after := #[{ on := 0, ground := Ground.data }, { on := 7, ground := Ground.data }, { on := 5, ground := Ground.chain }], guard := none }) rfl (fun K hK => ?_) AllReady.nil)
          refine step_append_lies _ rfl (.tmp 10) (.tmp 17) 121 rfl w2.heap.size 9 i0 _ 1 16 Try.underlying121 HI.out.1 HI.out.2.1 HI.out.2.2.1 HI.out.2.2.2 rfl (by decide) va pre.length (rowP pre) (by simp [Act.eval, Act.put]) (World.ownsRow.alloc Hw7.out.o _) ⟨w7.heap.size, 0, none⟩ 1 1 [.string (ti ++ ⟨#[58]⟩ ++ tn)] (by simp [Act.eval, Act.put]) rfl (World.news_of_block (cs := #[.string (ti ++ ⟨#[58]⟩ ++ tn)]) (t := 9) (fr := (0, 0)) (heap_alloc_new w7 _)) (by simp [Value.oneCell']) (by omega) (by simp only [maxLen]; omega) (by omega) (by have := Hw7.out.sz; simp; omega) (w7.heap.size + 1) (by simp) ?_
          intro g cap W8 hown hgr hat hlt8
          have HA := Lib.hid (Hw7.out.app hn3 _ hown hgr)
          have c8 : W8.cell? ⟨w.heap.size + 1, 0, none⟩ = some va := HA.out.1.read (i := 0) rfl
          have f8 : W8.frozen? ⟨w.heap.size + 1, 0, none⟩ = false := HA.out.1.open_ 0
          clear hown hgr hat hlt8
          (try go_simp)
          refine hK _ _ ?_
          clear hK K
          (try simp only [Act.put, List.setIfInBounds_toArray, List.set_cons_zero, List.set_cons_succ])
          refine wpAny_ready (rs := [9]) (fuel := 0) (by kernel_rfl) (by simp) ?_
          refine (AllReady.cons (o := { dst := none, op := Op.store 121 (Operand.tmp 3) (Operand.tmp 18), type := 0, pos := "hist.go:96", after := #[{ on := 8, ground := Ground.data }, { on := 8, ground := Ground.chain }, { on := 0, ground := Ground.phase }, { on := 1, ground := Ground.phase }, { on := 2, ground := Ground.phase }, { on := 3, ground := Ground.phase }, { on := 4, ground := Ground.phase }, { on := 5, ground := Ground.phase }, { on := 6, ground := Ground.phase }, { on := 7, ground := Ground.phase }, { on := 8, ground := Ground.phase }], guard := none }) rfl (fun K hK => ?_) AllReady.nil)
          go_simp
          refine hK _ _ ?_
          clear hK K
          (try simp only [Act.put, List.setIfInBounds_toArray, List.set_cons_zero, List.set_cons_succ])
          refine wpAny_done (by kernel_rfl) ?_ _
          exact HFIN.out _ _ _ HA.out.2.1 HA.out.2.2
        · skip
          go_simp
          refine hK _ _ ?_
          clear hK K
          (try simp only [Act.put, List.setIfInBounds_toArray, List.set_cons_zero, List.set_cons_succ])
          refine wpAny_ready (rs := [0]) (fuel := 2) (by kernel_rfl) (by simp) ?_
          refine (AllReady.cons (o := { dst := some 10, op := Op.load 121 (Operand.tmp 3), type := 121, pos := "hist.go:96", after := #[], guard := none }) rfl (fun K hK => ?_) AllReady.nil)
          have c0 : (w7.alloc (.cells #[.string (ti ++ ⟨#[58]⟩ ++ tn)] 9)).cell? ⟨w.heap.size + 1, 0, none⟩ = some va := (Bx.past Hw7.out.b _).read (i := 0) rfl
          go_simp
          refine hK _ _ ?_
          clear hK K c0
          (try simp only [Act.put, List.setIfInBounds_toArray, List.set_cons_zero, List.set_cons_succ])
          refine wpAny_ready (rs := [8]) (fuel := 1) (by kernel_rfl) (by simp) ?_
          refine (AllReady.cons (o := { dst := some 18, op := Op.call { callee := Callee.builtin Builtin.append, args := #[Operand.tmp 10, Operand.tmp 17], argTypes := #[121, 121] }, type := 121, pos := "hist.go:96", after := #[{ on := 0, ground := Ground.data }, { on := 7, ground := Ground.data }, { on := 5, ground := Ground.chain }], guard := none }) rfl (fun K hK => ?_) AllReady.nil)
          refine step_append_lies _ rfl (.tmp 10) (.tmp 17) 121 rfl w2.heap.size 9 i0 _ 1 16 Try.underlying121 HI.out.1 HI.out.2.1 HI.out.2.2.1 HI.out.2.2.2 rfl (by decide) va pre.length (rowP pre) (by simp [Act.eval, Act.put]) (World.ownsRow.alloc Hw7.out.o _) ⟨w7.heap.size, 0, none⟩ 1 1 [.string (ti ++ ⟨#[58]⟩ ++ tn)] (by simp [Act.eval, Act.put]) rfl (World.news_of_block (cs := #[.string (ti ++ ⟨#[58]⟩ ++ tn)]) (t := 9) (fr := (0, 0)) (heap_alloc_new w7 _)) (by simp [Value.oneCell']) (by omega) (by simp only [maxLen]; omega) (by omega) (by have := Hw7.out.sz; simp; omega) (w7.heap.size + 1) (by simp) ?_
          intro g cap W8 hown hgr hat hlt8
          have HA := Lib.hid (Hw7.out.app hn3 _ hown hgr)
          have c8 : W8.cell? ⟨w.heap.size + 1, 0, none⟩ = some va := HA.out.1.read (i := 0) rfl
          have f8 : W8.frozen? ⟨w.heap.size + 1, 0, none⟩ = false := HA.out.1.open_ 0
          clear hown hgr hat hlt8
          (try go_simp)
          refine hK _ _ ?_
          clear hK K
          (try simp only [Act.put, List.setIfInBounds_toArray, List.set_cons_zero, List.set_cons_succ])
          refine wpAny_ready (rs := [9]) (fuel := 0) (by kernel_rfl) (by simp) ?_
          refine (AllReady.cons (o := { dst := none, op := Op.store 121 (Operand.tmp 3) (Operand.tmp 18), type := 0, pos := "hist.go:96", after := #[{ on := 8, ground := Ground.data }, { on := 8, ground := Ground.chain }, { on := 0, ground := Ground.phase }, { on := 1, ground := Ground.phase }, { on := 2, ground := Ground.phase }, { on := 3, ground := Ground.phase }, { on := 4, ground := Ground.phase }, { on := 5, ground := Ground.phase }, { on := 6, ground := Ground.phase }, { on := 7, ground := Ground.phase }, { on := 8, ground := Ground.phase }], guard := none }) rfl (fun K hK => ?_) AllReady.nil)
          go_simp
          refine hK _ _ ?_
          clear hK K
          (try simp only [Act.put, List.setIfInBounds_toArray, List.set_cons_zero, List.set_cons_succ])
          refine wpAny_done (by kernel_rfl) ?_ _
          exact HFIN.out _ _ _ HA.out.2.1 HA.out.2.2
  case done =>
    rintro D xs W hD hS ⟨va, hln⟩ hK
    have h1 : xs.map (·.1) = exP := by rw [← ex_prs]; exact hS
    have h2 : rowP xs = [.string ⟨#[48, 58, 49]⟩, .string ⟨#[49, 58, 49]⟩, .string ⟨#[51, 58, 50]⟩] := by
      have e : rowP xs = (xs.map (·.1)).map fun y => .string (lnS y) := by unfold rowP; rw [List.map_map]; rfl
      rw [e, h1]
      have t1 : lnS (0, 1) = ⟨#[48, 58, 49]⟩ := by decide +kernel
      have t2 : lnS (1, 1) = ⟨#[49, 58, 49]⟩ := by decide +kernel
      have t3 : lnS (3, 2) = ⟨#[51, 58, 50]⟩ := by decide +kernel
      simp only [exP, List.map_cons, List.map_nil, t1, t2, t3]
    have h3 : xs.length = 3 := by rw [← List.length_map (f := (·.1)), h1]; rfl
    rw [h2, h3] at hln
    have c1 := hln.b.read (i := 0) rfl
    obtain ⟨g, cap, rfl, hg, hcap, hcells⟩ : ∃ g cap, va = .slice (some ⟨g, 0, none⟩) 3 cap ∧ g < W.heap.size ∧ 3 ≤ cap ∧ ∀ (j : Nat) x, ([⟨#[48, 58, 49]⟩, ⟨#[49, 58, 49]⟩, ⟨#[51, 58, 50]⟩] : List ByteArray)[j]? = some x → W.cell? ⟨g, 0 + j, none⟩ = some (.string x) := own_texts hln.o
    have HB := Lib.hid hln.bel
    have CJ := Lib.hid (Try.strings_Join g 0 cap [⟨#[48, 58, 49]⟩, ⟨#[49, 58, 49]⟩, ⟨#[51, 58, 50]⟩] ⟨#[32]⟩ W hcells hg (by decide) hcap (by decide))
    have hW := hln.sz
    clear hln hcells hS h1 h2 h3
    gi_wp2_with (refine ⟨trivial, ?_⟩; gi_at_call 103; refine (callsIn_wide.2 CJ.out).mono ?_; rintro e w4 ⟨rfl, hb4⟩)
    have hK4 : w4.heap[D]? = some (.deferred (some [])) := by rw [hb4.block D (Array.getElem?_eq_some_iff.1 hK).1]; exact hK
    have hbf : Below w.heap.size w (w4.putObj D (.deferred none)) := (bnext HB.out hb4).trans (belowK_b (w := w) (Nat.le_refl _) w4 D _ _ (by omega) hK4 rfl rfl)
    refine ⟨by simp, .inl ⟨_, _, rfl, run_takeDeferred (by exact hK4), ?_⟩⟩
    exact ⟨.string _, by simp [results, Try.results60, go_sem]; rfl, rfl, hbf⟩
  case stop =>
    rintro D c q W hD hS hF hK
    exact hF.elim
end Go.Proofs.Ytljhnkcoknikgaa
