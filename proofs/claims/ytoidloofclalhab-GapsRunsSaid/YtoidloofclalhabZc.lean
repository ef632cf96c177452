/- Layer 47 (gaps): Put and Size, by the code; the law's right and bytes. -/
import Derived.Test.YtoidloofclalhabZb
namespace Go.Proofs.Ytoidloofclalhab
open Go.RowKit

/-- What holds of the row that Put makes. -/
def PR (w : World) (l : List Int) (k : Nat) (v6 : Value) (wr : World) : Prop := BO wr w.heap.size v6 (put l.length ++ byF 0 (l.take k)) ∧ Below w.heap.size w wr ∧ okF 0 (l.take k) = true
/-- What Put answers. -/
def PutE (lb : List UInt8) (l : List Int) (w : World) (e : Ending) (w' : World) : Prop := ∃ v', e = .returned (.tuple #[v', .bool (okB l)]) ∧ BO w' w.heap.size v' (lb ++ if okB l = true then gB l else []) ∧ Below w.heap.size w w'
theorem retvb' {v : Value} {b d : Bool} (h : b = d) : Ending.returned (.tuple #[v, .bool b]) = .returned (.tuple #[v, .bool d]) := by rw [h]
theorem PR.no {w : World} {lb : List UInt8} {l : List Int} {W W' : World} {v : Value} (ho : okB l = false) (hb : Below w.heap.size w W) (hO : BO W' W.heap.size v lb) (hb2 : Below W.heap.size W W') : PutE lb l w (.returned (.tuple #[v, .bool false])) W' := by
  refine ⟨v, retvb' ho.symm, ?_, bnext hb hb2⟩
  rw [if_neg (by rw [ho]; simp), List.append_nil]
  exact hO.base hb.size
set_option maxRecDepth 100000 in
set_option maxHeartbeats 4000000 in
theorem gput_any (vb vl : Value) (lb : List UInt8) (l : List Int) (hlb : lb.length ≤ 10000) (hll : l.length ≤ 10000) (w : World) (hB : BS w vb lb) (hL : IR w vl l) :
    Calls Try.prog 22 #[vb, vl] w (PutE lb l w) := by
  have CB := Lib.hid (fun W (h : BS W vb lb) => bclone_any vb lb (by omega) W h)
  obtain ⟨a, cap, rfl, hm, hz, hc⟩ := hL
  clear hm
  obtain ⟨vba, vbc, rfl⟩ := hB.form
  have HB0 := Lib.hid hB
  by_cases hbig : 4096 < l.length
  · have hno := Lib.hid (show okB l = false by unfold okB; rw [decide_eq_false (by omega)]; simp)
    clear hB hc hz
    go_enter Try.func22, Try.ntmps22
    go_wp2_with fail
    refine (CB.out _ HB0.out).mono ?_; rintro e w1 ⟨v1, rfl, hO1, hb1⟩
    go_wp2_with fail
    go_ret2
    exact PR.no hno.out (Below.refl _ _) hO1 hb1
  · have HP0 := Lib.hid (put_any (.slice none 0 0) [] (l.length : Int) (by omega) (by simp) w (BS.nil w))
    have HC := Lib.hid hc
    have HZ := Lib.hid hz
    clear hB hc hz
    go_enter Try.func22, Try.ntmps22
    go_wp2_with fail
    refine (HP0.out).mono ?_; rintro e w1 ⟨v1, rfl, hO1, hb1⟩
    rw [Int.toNat_natCast, List.nil_append] at hO1
    have H0 := Lib.hid (show PR w l 0 v1 w1 from ⟨by simpa [byF] using hO1, hb1, rfl⟩)
    clear hO1 hb1 HP0
    go_wp2_with fail
    go_loopw [6, 7, 20] (fun r s i wr => ∃ (k : Nat) (v6 : Value), i = .int .i64 k ∧ v6 = r ∧ s = .int .i64 (lst 0 (l.take k)) ∧ k ≤ l.length ∧ Hid (PR w l k v6 wr)) (fun _ _ i _ => l.length - (intOf i).toNat)
    case atStart => exact ⟨0, v1, rfl, rfl, rfl, Nat.zero_le _, H0⟩
    case round =>
      obtain ⟨k, v6, rfl, rfl, rfl, hk, HPR⟩ := hrel
      clear H0
      have HBW := Lib.hid (HB0.out.next HPR.out.2.1)
      have hbd := lst_bd (l.take k) 0 HPR.out.2.2 (by omega) (by omega)
      by_cases hlt : k < l.length
      · obtain ⟨b, off, rfl, hcell⟩ := HC.out (fun e => by rw [e] at hlt; simp at hlt)
        have hx := hcell k hlt
        have hx2 : wr.cell? ⟨b, off + k, none⟩ = some (.int .i64 l[k]) := by rw [HPR.out.2.1.cell (World.block_lt_of_cell? _ _ hx)]; exact hx
        have hiz := HZ.out l[k] (List.getElem_mem hlt)
        have HNX := Lib.hid (And.intro (byF_next l k hlt) (And.intro (lst_next l k hlt) (And.intro (okF_next l k hlt) (okF_no l k hlt))))
        have HLE : Hid ((byF 0 (l.take k)).length ≤ 40960) := Lib.hid (by have := byF_len (l.take k) 0; rw [List.length_take] at this; omega)
        clear hcell hx
        generalize lst 0 (l.take k) = m at *
        generalize l[k] = n at *
        obtain ⟨hm0, hm1⟩ := hbd
        obtain ⟨hn0, hn1⟩ := hiz
        by_cases h1 : n < m
        · have HNO := Lib.hid (show okB l = false by unfold okB; rw [HNX.out.2.2.2 (by omega)]; rfl)
          go_wp2_with fail
          refine (CB.out _ HBW.out).mono ?_; rintro e w2 ⟨v2, rfl, hO2, hb2⟩
          go_wp2_with fail
          go_ret2
          exact PR.no HNO.out HPR.out.2.1 hO2 hb2
        · by_cases h2 : 4611686018427387903 < n
          · have HNO := Lib.hid (show okB l = false by unfold okB; rw [HNX.out.2.2.2 (by omega)]; rfl)
            go_wp2_with fail
            refine (CB.out _ HBW.out).mono ?_; rintro e w2 ⟨v2, rfl, hO2, hb2⟩
            go_wp2_with fail
            go_ret2
            exact PR.no HNO.out HPR.out.2.1 hO2 hb2
          · have HP := Lib.hid (put_any (.slice none 0 0) [] (n - m) (by omega) (by simp) wr (BS.nil wr))
            rw [List.nil_append] at HP
            have hpl := put_len (n - m).toNat
            go_wp2_with fail
            refine (HP.out).mono ?_; rintro e w2 ⟨v2, rfl, hO2, hb2⟩
            have H2 := Lib.hid (And.intro hO2.bs (And.intro (own_next HPR.out.1 hb2) (bnext HPR.out.2.1 hb2)))
            clear hO2 hb2 HP
            have hlen : (put l.length ++ byF 0 (l.take k)).length + (put (n - m).toNat).length ≤ 100000 := by
              have h4 := put_len l.length
              have := HLE.out
              rw [List.length_append]; omega
            have HLN := Lib.hid hlen
            clear hlen hpl
            go_wp2_with (at_builtin; refine wpList_append_bs rfl (.tmp 33) (.tmp 37) rfl w.heap.size v6 v2 _ _ rfl rfl H2.out.2.1 H2.out.1 HLN.out H2.out.2.2.size ?_; intro v3 w3 hO3 hg3)
            have HN2 : Hid (PR w l (k + 1) v3 w3) := Lib.hid ⟨by
              rw [HNX.out.1, ← List.append_assoc]; exact hO3, H2.out.2.2.grown hg3 H2.out.2.2.size (fun j hj => (H2.out.2.1.lt j hj).1), by
              rw [HNX.out.2.2.1, HPR.out.2.2, decide_eq_true ⟨by omega, by omega⟩]; rfl⟩
            clear hO3 hg3
            go_wp2_with fail
            go_roundw
            case rel => exact ⟨k + 1, v3, by go_num, rfl, by rw [HNX.out.2.1], by omega, HN2⟩
            case measure => simp [intOf]; omega
      · obtain rfl : k = l.length := by omega
        have HOK : Hid (okB l = true) := Lib.hid (by
          have := HPR.out.2.2
          rw [List.take_length] at this
          unfold okB; rw [this, decide_eq_true (by omega)]; rfl)
        have HRW : Hid (BO wr w.heap.size v6 (gB l)) := Lib.hid (by
          have := HPR.out.1
          rw [List.take_length] at this
          exact this)
        have hgl := gB_len l
        go_wp2_with fail
        refine (CB.out _ HBW.out).mono ?_; rintro e w2 ⟨v2, rfl, hO2, hb2⟩
        have H2 := Lib.hid (And.intro (hO2.base HPR.out.2.1.size) (And.intro (HRW.out.bs.next hb2) (bnext HPR.out.2.1 hb2)))
        clear hO2 hb2
        have HLN := Lib.hid (show lb.length + (gB l).length ≤ 100000 by omega)
        clear hgl
        go_wp2_with (at_builtin; refine wpList_append_bs rfl (.tmp 43) (.tmp 44) rfl w.heap.size v2 v6 _ _ rfl rfl H2.out.1 H2.out.2.1 HLN.out H2.out.2.2.size ?_; intro v3 w3 hO3 hg3)
        have HB3 := Lib.hid (H2.out.2.2.grown hg3 H2.out.2.2.size (fun j hj => (H2.out.1.lt j hj).1))
        go_wp2_with fail
        go_ret2
        exact ⟨v3, retvb' HOK.out.symm, by rw [if_pos HOK.out]; exact hO3, HB3.out⟩
end Go.Proofs.Ytoidloofclalhab
