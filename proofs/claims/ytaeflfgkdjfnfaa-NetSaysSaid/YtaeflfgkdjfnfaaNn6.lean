/- The statement NetSays: the walk of the law. -/
import Derived.Test.YtaeflfgkdjfnfaaNn1
namespace Go.Proofs.Ytaeflfgkdjfnfaa
open Go.RowKit

theorem eqWords (W : World) : (binOp .eql 64 (.agg #[.string { data := #[119, 114, 105, 116, 101] }, .string { data := #[97, 99, 107] }, .string { data := #[97, 115, 107] }, .string { data := #[97, 110, 115, 119, 101, 114] }, .string { data := #[112, 114, 101, 112, 97, 114, 101] }, .string { data := #[114, 101, 112, 111, 114, 116] }, .string { data := #[105, 110, 115, 116, 97, 108, 108] }, .string { data := #[100, 111, 110, 101] }, .string { data := #[102, 105, 110, 105, 115, 104] }, .string { data := #[] }]) (.agg #[.string { data := #[119, 114, 105, 116, 101] }, .string { data := #[97, 99, 107] }, .string { data := #[97, 115, 107] }, .string { data := #[97, 110, 115, 119, 101, 114] }, .string { data := #[112, 114, 101, 112, 97, 114, 101] }, .string { data := #[114, 101, 112, 111, 114, 116] }, .string { data := #[105, 110, 115, 116, 97, 108, 108] }, .string { data := #[100, 111, 110, 101] }, .string { data := #[102, 105, 110, 105, 115, 104] }, .string { data := #[] }])).run Try.prog W = .ok (.bool true) W := by kernel_rfl
set_option maxRecDepth 100000 in
set_option maxHeartbeats 16000000 in
theorem says_walk (alive_net : ∀ w : World, Calls Try.prog 20 #[] w fun e w' => e = .returned (.bool true) ∧ Below w.heap.size w w') (n : Int) (w : World) : Calls Try.prog 4 #[.int .i64 n] w fun e w' => e = .returned (.bool true) ∧ Below w.heap.size w w' := by
  have CWrite := Lib.hid (fun f v W => msgWrite f v W)
  have CAck := Lib.hid (fun f v W => msgAck f v W)
  have CAsk := Lib.hid (fun f v W => msgAsk f v W)
  have CAnswer := Lib.hid (fun f v W => msgAnswer f v W)
  have CPrepare := Lib.hid (fun f v W => msgPrepare f v W)
  have CReport := Lib.hid (fun f v W => msgReport f v W)
  have CInstall := Lib.hid (fun f v W => msgInstall f v W)
  have CDone := Lib.hid (fun f v W => msgDone f v W)
  have CFinish := Lib.hid (fun f v W => msgFinish f v W)
  have CNil := Lib.hid (fun f W => msgNil f W)
  have CAl := Lib.hid alive_net
  clear alive_net
  have hE := eqWords
  go_enter Try.func4, Try.ntmps4
  go_wp2_with fail
  refine (CWrite.out 0 _ _).mono ?_
  rintro _ w0 ⟨rfl, hb⟩
  have H0 := Lib.hid (bnext (Below.refl w.heap.size w) hb)
  clear hb CWrite
  go_wp2_with fail
  refine (CAck.out 0 _ _).mono ?_
  rintro _ w1 ⟨rfl, hb⟩
  have H1 := Lib.hid (bnext H0.out hb)
  clear hb CAck H0
  go_wp2_with fail
  refine (CAsk.out 0 _ _).mono ?_
  rintro _ w2 ⟨rfl, hb⟩
  have H2 := Lib.hid (bnext H1.out hb)
  clear hb CAsk H1
  go_wp2_with fail
  refine (CAnswer.out 0 _ _).mono ?_
  rintro _ w3 ⟨rfl, hb⟩
  have H3 := Lib.hid (bnext H2.out hb)
  clear hb CAnswer H2
  go_wp2_with fail
  refine (CPrepare.out 0 _ _).mono ?_
  rintro _ w4 ⟨rfl, hb⟩
  have H4 := Lib.hid (bnext H3.out hb)
  clear hb CPrepare H3
  go_wp2_with fail
  refine (CReport.out 0 _ _).mono ?_
  rintro _ w5 ⟨rfl, hb⟩
  have H5 := Lib.hid (bnext H4.out hb)
  clear hb CReport H4
  go_wp2_with fail
  refine (CInstall.out 0 _ _).mono ?_
  rintro _ w6 ⟨rfl, hb⟩
  have H6 := Lib.hid (bnext H5.out hb)
  clear hb CInstall H5
  go_wp2_with fail
  refine (CDone.out 0 _ _).mono ?_
  rintro _ w7 ⟨rfl, hb⟩
  have H7 := Lib.hid (bnext H6.out hb)
  clear hb CDone H6
  go_wp2_with fail
  refine (CFinish.out 0 _ _).mono ?_
  rintro _ w8 ⟨rfl, hb⟩
  have H8 := Lib.hid (bnext H7.out hb)
  clear hb CFinish H7
  go_wp2_with fail
  refine (CNil.out _ _).mono ?_
  rintro _ w9 ⟨rfl, hb⟩
  have H9 := Lib.hid (bnext H8.out hb)
  clear hb CNil H8
  go_wp2_with fail
  refine (CAl.out _).mono ?_
  rintro _ wA ⟨rfl, hb⟩
  have HA := Lib.hid (bnext (H9.out.alloc (Below.size H9.out) _) hb)
  clear hb CAl H9 hE
  go_wp2_with fail
  all_goals
    go_ret
    exact ⟨rfl, HA.out⟩
end Go.Proofs.Ytaeflfgkdjfnfaa
