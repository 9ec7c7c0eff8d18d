/-
  THE LAW HuffCodes: its walk.
-/
import Derived.Test.YtdkmnblfmmmfkaaDoorCr
namespace Go.Proofs.YtdkmnblfmmmfkaaDoor
open Go.RowKit Hf

set_option maxRecDepth 100000 in
set_option maxHeartbeats 4000000 in
theorem codes_any (ev : Value) (a : Int) (w : World) (hE : w.cell? ⟨0, 0, none⟩ = some ev) (ha : -9223372036854775808 ≤ a ∧ a ≤ 9223372036854775807) :
    Calls Tryd.prog 3 #[.int .i64 a] w fun e w' => e = .returned (.bool true) ∧ Below w.heap.size w w' := by
  by_cases hin : 0 ≤ a ∧ a < 257
  · obtain ⟨s, rfl⟩ : ∃ s : Nat, a = s := ⟨a.toNat, by omega⟩
    have hs : s < 257 := by omega
    have H1 := Lib.hid (fun W => bits_ok s hs W)
    have H2 := Lib.hid (fun W => code_ok s hs W)
    have H3 := Lib.hid (fun W => bitsr_ok s hs W)
    have H4 := Lib.hid (fun W => coder_ok s hs W)
    have hz1 := sz_lo hs
    generalize sz s = n at hz1 H1 H3
    generalize code s = c at H2 H4
    clear hin ha
    go_enter Tryd.func3, Tryd.ntmps3
    go_wp2_with fail
    refine (first_any ev _ hE).mono ?_
    rintro e w1 ⟨rfl, hb1⟩
    go_wp2_with fail
    refine (H1.out _).mono ?_
    rintro e w2 ⟨rfl, rfl⟩
    go_wp2_with fail
    refine (H2.out _).mono ?_
    rintro e w3 ⟨rfl, hb3⟩
    go_wp2_with fail
    refine (H3.out _).mono ?_
    rintro e w2 ⟨rfl, rfl⟩
    go_wp2_with fail
    refine (H4.out _).mono ?_
    rintro e w2 ⟨rfl, rfl⟩
    have hn0 : ((n : Int) != 0) = true := by rw [bne_iff_ne]; omega
    go_wp2_with fail
    go_ret
    exact ⟨rfl, hb1.trans (hb3.mono hb1.size)⟩
  · have hout : a < 0 ∨ 257 ≤ a := by omega
    have H1 := Lib.hid (fun W => bits_no a ha hout W)
    have H2 := Lib.hid (fun W => code_no a ha hout W)
    have H3 := Lib.hid (fun W => bitsr_no a ha hout W)
    have H4 := Lib.hid (fun W => coder_no a ha hout W)
    clear hin hout
    go_enter Tryd.func3, Tryd.ntmps3
    go_wp2_with fail
    refine (first_any ev _ hE).mono ?_
    rintro e w1 ⟨rfl, hb1⟩
    go_wp2_with fail
    refine (H1.out _).mono ?_
    rintro e w2 ⟨rfl, rfl⟩
    go_wp2_with fail
    refine (H2.out _).mono ?_
    rintro e w2 ⟨rfl, rfl⟩
    go_wp2_with fail
    refine (H3.out _).mono ?_
    rintro e w2 ⟨rfl, rfl⟩
    go_wp2_with fail
    refine (H4.out _).mono ?_
    rintro e w2 ⟨rfl, rfl⟩
    go_wp2_with fail
    go_ret
    exact ⟨rfl, hb1⟩
end Go.Proofs.YtdkmnblfmmmfkaaDoor
