/-
  CONTRACT: the row's first: the chapter's examples.
-/
import Derived.Test.YtgoglfahlfkbiaaDoorX
import Derived.LaidEql
namespace Go.Proofs.YtgoglfahlfkbiaaDoor
open Go.RowKit Tt

def hx (a b : List UInt8) : Hn := ((⟨a.toArray⟩, ⟨b.toArray⟩), false)
def exL : List Hn := [hx [58, 109, 101, 116, 104, 111, 100] [80, 79, 83, 84], hx [58, 112, 97, 116, 104] [47, 97], hx [58, 115, 99, 104, 101, 109, 101] [104, 116, 116, 112], hx [116, 101] [116, 114, 97, 105, 108, 101, 114, 115]]
def exC : Array Value := #[.string ⟨#[58, 109, 101, 116, 104, 111, 100]⟩, .string ⟨#[80, 79, 83, 84]⟩, .bool false, .string ⟨#[58, 112, 97, 116, 104]⟩, .string ⟨#[47, 97]⟩, .bool false, .string ⟨#[58, 115, 99, 104, 101, 109, 101]⟩, .string ⟨#[104, 116, 116, 112]⟩, .bool false, .string ⟨#[116, 101]⟩, .string ⟨#[116, 114, 97, 105, 108, 101, 114, 115]⟩, .bool false]
def exQ : RQ := ⟨⟨#[80, 79, 83, 84]⟩, ⟨#[104, 116, 116, 112]⟩, ⟨#[]⟩, ⟨#[47, 97]⟩⟩
theorem ex_open : openR exL = some (exQ, [hx [116, 101] [116, 114, 97, 105, 108, 101, 114, 115]]) := by kernel_rfl
theorem ex_open2 : openR (exL.take 2) = none := by kernel_rfl
def exA : List Hn := [hx [58, 115, 116, 97, 116, 117, 115] [50, 48, 48]]
theorem ex_ans : openA exA = some (200, []) := by kernel_rfl
def exN : List Hn := [hx [99, 111, 110, 116, 101, 110, 116, 45, 108, 101, 110, 103, 116, 104] [48, 48, 55]]
theorem ex_len : lenR exN = some (7, true) := by kernel_rfl
theorem sm_ex : Sm exL ∧ Sm (exL.take 2) ∧ Sm exA ∧ Sm exN := by
  refine ⟨?_, ?_, ?_, ?_⟩ <;> intro i h <;> revert i <;> decide
theorem ans_ex (w : World) (a : Option Addr) (hs : Ns w a 1 1 exA) (ea : Addr) (hE : w.cell? ⟨0, 0, none⟩ = some (.iface 148 (.pointer (some ea)))) :
    Calls Tryd.prog 13 #[.slice a 1 1] w fun e w' => Below w.heap.size w w' ∧ ∃ a N c, e = .returned (.tuple #[.agg #[.int .i64 200, .slice a N c], .nilIface]) := by
  refine (openA_any a 1 1 exA w hs sm_ex.2.2.1 (by omega) ea hE).mono ?_
  intro e w' h
  unfold OpenAPost at h
  refine ⟨h.1, ?_⟩
  have h2 := h.2
  rw [ex_ans] at h2
  obtain ⟨a', N, c, he, _⟩ := h2
  exact ⟨a', N, c, he⟩
theorem len_ex (w : World) (a : Option Addr) (hs : Ns w a 1 1 exN) (ev : Value) (hE : w.cell? ⟨0, 0, none⟩ = some ev) :
    Calls Tryd.prog 16 #[.slice a 1 1] w fun e w' => e = .returned (.tuple #[.int .i64 7, .bool true, .nilIface]) ∧ Below w.heap.size w w' := by
  refine (length_any a 1 1 exN ev w hs sm_ex.2.2.2 (by omega) hE).mono ?_
  intro e w' h
  unfold LenPost at h
  rw [ex_len] at h
  exact h
theorem infoP : (Tryd.prog.info? 148).map (fun i => i.comparable) = some true := by kernel_rfl
theorem infoT : (Tryd.prog.info? 165).map (fun i => i.size) = some 1 := by kernel_rfl
theorem eql_same (p : Addr) (w : World) : (binOp .eql 29 (.iface 148 (.pointer (some p))) (.iface 148 (.pointer (some p)))).run Tryd.prog w = .ok (.bool true) w := by
  obtain ⟨i, hi, hc⟩ := Option.map_eq_some_iff.1 infoP
  obtain ⟨j, hj, _⟩ := Option.map_eq_some_iff.1 infoT
  exact run_eql_iface_ptr_same w p Tryd.underlying29 Tryd.underlying148 hi hc hj
def errV (ea : Addr) : Value := .iface 148 (.pointer (some ea))
set_option maxRecDepth 100000 in
set_option maxHeartbeats 400000 in
theorem first_any (w : World) (ea : Addr) (hE : w.cell? ⟨0, 0, none⟩ = some (errV ea)) : Calls Tryd.prog 8 #[] w fun e w' => e = .returned (.bool true) ∧ Below w.heap.size w w' := by
  unfold errV at hE
  have hge := cell_lt hE
  simp only at hge
  obtain ⟨m1, m2, m3, m4⟩ := sm_ex
  have hs0 := ns_lit w exC exL rfl (by decide)
  have hb0 : Below w.heap.size w (w.alloc (.cells exC 54)) := (Below.refl _ w).alloc (Nat.le_refl _) _
  have hz0 : (w.alloc (.cells exC 54)).heap.size = w.heap.size + 1 := by simp
  have hE0 := (hb0.cell (p := ⟨0, 0, none⟩) hge).trans hE
  have hx0 : exC = #[.string ⟨#[58, 109, 101, 116, 104, 111, 100]⟩, .string ⟨#[80, 79, 83, 84]⟩, .bool false, .string ⟨#[58, 112, 97, 116, 104]⟩, .string ⟨#[47, 97]⟩, .bool false, .string ⟨#[58, 115, 99, 104, 101, 109, 101]⟩, .string ⟨#[104, 116, 116, 112]⟩, .bool false, .string ⟨#[116, 101]⟩, .string ⟨#[116, 114, 97, 105, 108, 101, 114, 115]⟩, .bool false] := rfl
  generalize hw0 : w.alloc (.cells exC 54) = w0 at hs0 hb0 hz0 hE0
  rw [hx0] at hw0
  clear hx0
  have HW0 := Lib.hid hw0
  have HOP := Lib.hid (open_any (some ⟨w.heap.size, 0, none⟩) 4 4 exL w0 hs0 m1 (by omega) ea hE0)
  have HS0 := Lib.hid hs0
  have HB0 := Lib.hid hb0
  have HE := Lib.hid hE
  clear hw0 hs0 hb0 hE0 hE
  go_enter Tryd.func8, Tryd.ntmps8
  have hqe := eql_same ea
  go_upto_region 2 with fail
  rw [HW0.out]
  go_wp2_with fail
  refine HOP.out.mono ?_
  unfold OpenPost
  rw [ex_open]
  rintro e w1 ⟨hb1, a1, N1, c1, rfl, ho1⟩
  obtain ⟨a1', c1', he1, _⟩ := ho1.ns
  cases he1
  have hB1 : Below w.heap.size w w1 := HB0.out.trans (hb1.mono (by omega))
  have HS1 := Lib.hid (HS0.out.kept hb1)
  have HB1 := Lib.hid hB1
  have hz1 := hB1.size
  clear hb1 hB1 ho1 HOP HS0 HB0 HW0
  go_upto_region 3 with fail
  have hb2 : Below w1.heap.size w1 (w1.alloc (.cells #[.string exQ.m, .string exQ.s, .string exQ.a, .string exQ.p, .slice a1 1 c1] 27)) := (Below.refl _ w1).alloc (Nat.le_refl _) _
  have p3 : (w1.alloc (.cells #[.string exQ.m, .string exQ.s, .string exQ.a, .string exQ.p, .slice a1 1 c1] 27)).cell? ⟨w1.heap.size, 3, none⟩ = some (.string ⟨#[47, 97]⟩) := by simp [exQ]
  have p4 : (w1.alloc (.cells #[.string exQ.m, .string exQ.s, .string exQ.a, .string exQ.p, .slice a1 1 c1] 27)).cell? ⟨w1.heap.size, 4, none⟩ = some (.slice a1 1 c1) := by simp
  have hz2 : (w1.alloc (.cells #[.string exQ.m, .string exQ.s, .string exQ.a, .string exQ.p, .slice a1 1 c1] 27)).heap.size = w1.heap.size + 1 := by simp
  generalize w1.alloc (.cells #[.string exQ.m, .string exQ.s, .string exQ.a, .string exQ.p, .slice a1 1 c1] 27) = w2 at hb2 p3 p4 hz2 ⊢
  have hB2 : Below w.heap.size w w2 := HB1.out.trans (hb2.mono (by omega))
  have HB2 := Lib.hid hB2
  have HOP2 := Lib.hid (open_any (some ⟨w.heap.size, 0, none⟩) 2 4 (exL.take 2) w2 (ns_take (HS1.out.kept hb2) 2 (by decide)) m2 (by omega) ea ((hB2.cell (p := ⟨0, 0, none⟩) hge).trans HE.out))
  clear hb2 hB2 HB1 HS1
  go_wp2_with fail
  refine HOP2.out.mono ?_
  unfold OpenPost
  rw [ex_open2]
  rintro e w3 ⟨hb3, rfl⟩
  have hB3 : Below w.heap.size w w3 := HB2.out.trans (hb3.mono (by omega))
  replace p3 := (hb3.cell (p := ⟨w1.heap.size, 3, none⟩) (by simp only; omega)).trans p3
  replace p4 := (hb3.cell (p := ⟨w1.heap.size, 4, none⟩) (by simp only; omega)).trans p4
  have hz3 := hb3.size
  have HB3 := Lib.hid hB3
  clear hb3 hB3 HB2 HOP2
  go_upto_region 4 with fail
  have hb4 : Below w3.heap.size w3 (w3.alloc (.cells #[.string q0.m, .string q0.s, .string q0.a, .string q0.p, .slice none 0 0] 27)) := (Below.refl _ w3).alloc (Nat.le_refl _) _
  have hz4 : (w3.alloc (.cells #[.string q0.m, .string q0.s, .string q0.a, .string q0.p, .slice none 0 0] 27)).heap.size = w3.heap.size + 1 := by simp
  generalize w3.alloc (.cells #[.string q0.m, .string q0.s, .string q0.a, .string q0.p, .slice none 0 0] 27) = w4 at hb4 hz4 ⊢
  have hB4 : Below w.heap.size w w4 := HB3.out.trans (hb4.mono (by omega))
  replace p3 := (hb4.cell (p := ⟨w1.heap.size, 3, none⟩) (by simp only; omega)).trans p3
  replace p4 := (hb4.cell (p := ⟨w1.heap.size, 4, none⟩) (by simp only; omega)).trans p4
  have hs5 := ns_lit w4 #[.string ⟨#[58, 115, 116, 97, 116, 117, 115]⟩, .string ⟨#[50, 48, 48]⟩, .bool false] exA rfl (by decide)
  have hb5 : Below w4.heap.size w4 (w4.alloc (.cells #[.string ⟨#[58, 115, 116, 97, 116, 117, 115]⟩, .string ⟨#[50, 48, 48]⟩, .bool false] 54)) := (Below.refl _ w4).alloc (Nat.le_refl _) _
  have hz5 : (w4.alloc (.cells #[.string ⟨#[58, 115, 116, 97, 116, 117, 115]⟩, .string ⟨#[50, 48, 48]⟩, .bool false] 54)).heap.size = w4.heap.size + 1 := by simp
  rw [hz4] at hs5
  generalize hw5 : w4.alloc (.cells #[.string ⟨#[58, 115, 116, 97, 116, 117, 115]⟩, .string ⟨#[50, 48, 48]⟩, .bool false] 54) = w5 at hs5 hb5 hz5
  have hB5 : Below w.heap.size w w5 := hB4.trans (hb5.mono (by omega))
  replace p3 := (hb5.cell (p := ⟨w1.heap.size, 3, none⟩) (by simp only; omega)).trans p3
  replace p4 := (hb5.cell (p := ⟨w1.heap.size, 4, none⟩) (by simp only; omega)).trans p4
  have HW5 := Lib.hid hw5
  have HB5 := Lib.hid hB5
  have HOA := Lib.hid (ans_ex w5 (some ⟨w3.heap.size + 1, 0, none⟩) hs5 ea ((hB5.cell (p := ⟨0, 0, none⟩) hge).trans HE.out))
  clear hb4 hB4 HB3 hs5 hb5 hB5 hw5
  have P3 := Lib.hid p3
  have P4 := Lib.hid p4
  clear p3 p4
  go_wp2_with fail
  rw [HW5.out]
  refine HOA.out.mono ?_
  rintro e w6 ⟨hb6, a6, N6, c6, rfl⟩
  have hB6 : Below w.heap.size w w6 := HB5.out.trans (hb6.mono (by omega))
  have p3 := (hb6.cell (p := ⟨w1.heap.size, 3, none⟩) (by simp only; omega)).trans P3.out
  have p4 := (hb6.cell (p := ⟨w1.heap.size, 4, none⟩) (by simp only; omega)).trans P4.out
  have hz6 := hb6.size
  have HB6 := Lib.hid hB6
  clear hb6 hB6 HB5 HOA HW5 P3 P4
  go_upto_region 5 with fail
  have hb7 : Below w6.heap.size w6 (w6.alloc (.cells #[.int .i64 200, .slice a6 N6 c6] 36)) := (Below.refl _ w6).alloc (Nat.le_refl _) _
  have p0 : (w6.alloc (.cells #[.int .i64 200, .slice a6 N6 c6] 36)).cell? ⟨w6.heap.size, 0, none⟩ = some (.int .i64 200) := by simp
  have hz7 : (w6.alloc (.cells #[.int .i64 200, .slice a6 N6 c6] 36)).heap.size = w6.heap.size + 1 := by simp
  generalize w6.alloc (.cells #[.int .i64 200, .slice a6 N6 c6] 36) = w7 at hb7 hz7 p0 ⊢
  have hB7 : Below w.heap.size w w7 := HB6.out.trans (hb7.mono (by omega))
  replace p3 := (hb7.cell (p := ⟨w1.heap.size, 3, none⟩) (by simp only; omega)).trans p3
  replace p4 := (hb7.cell (p := ⟨w1.heap.size, 4, none⟩) (by simp only; omega)).trans p4
  have hs8 := ns_lit w7 #[.string ⟨#[99, 111, 110, 116, 101, 110, 116, 45, 108, 101, 110, 103, 116, 104]⟩, .string ⟨#[48, 48, 55]⟩, .bool false] exN rfl (by decide)
  have hb8 : Below w7.heap.size w7 (w7.alloc (.cells #[.string ⟨#[99, 111, 110, 116, 101, 110, 116, 45, 108, 101, 110, 103, 116, 104]⟩, .string ⟨#[48, 48, 55]⟩, .bool false] 54)) := (Below.refl _ w7).alloc (Nat.le_refl _) _
  have hz8 : (w7.alloc (.cells #[.string ⟨#[99, 111, 110, 116, 101, 110, 116, 45, 108, 101, 110, 103, 116, 104]⟩, .string ⟨#[48, 48, 55]⟩, .bool false] 54)).heap.size = w7.heap.size + 1 := by simp
  rw [hz7] at hs8
  generalize hw8 : w7.alloc (.cells #[.string ⟨#[99, 111, 110, 116, 101, 110, 116, 45, 108, 101, 110, 103, 116, 104]⟩, .string ⟨#[48, 48, 55]⟩, .bool false] 54) = w8 at hs8 hb8 hz8
  have hB8 : Below w.heap.size w w8 := hB7.trans (hb8.mono (by omega))
  replace p3 := (hb8.cell (p := ⟨w1.heap.size, 3, none⟩) (by simp only; omega)).trans p3
  replace p4 := (hb8.cell (p := ⟨w1.heap.size, 4, none⟩) (by simp only; omega)).trans p4
  replace p0 := (hb8.cell (p := ⟨w6.heap.size, 0, none⟩) (by simp only; omega)).trans p0
  have HW8 := Lib.hid hw8
  have HB8 := Lib.hid hB8
  have HLN := Lib.hid (len_ex w8 (some ⟨w6.heap.size + 1, 0, none⟩) hs8 _ ((hB8.cell (p := ⟨0, 0, none⟩) hge).trans HE.out))
  clear hb7 hB7 HB6 hs8 hb8 hB8 hw8
  have P3 := Lib.hid p3
  have P4 := Lib.hid p4
  have P0 := Lib.hid p0
  clear p3 p4 p0
  go_wp2_with fail
  rw [HW8.out]
  refine HLN.out.mono ?_
  rintro e w9 ⟨rfl, hb9⟩
  have hB9 : Below w.heap.size w w9 := HB8.out.trans (hb9.mono (by omega))
  have p3 := (hb9.cell (p := ⟨w1.heap.size, 3, none⟩) (by simp only; omega)).trans P3.out
  have p4 := (hb9.cell (p := ⟨w1.heap.size, 4, none⟩) (by simp only; omega)).trans P4.out
  have p0 := (hb9.cell (p := ⟨w6.heap.size, 0, none⟩) (by simp only; omega)).trans P0.out
  have HB9 := Lib.hid hB9
  have hE9 := (hB9.cell (p := ⟨0, 0, none⟩) hge).trans HE.out
  clear hb9 hB9 HB8 HLN HW8 P3 P4 P0 hz8 hz7 hz6 hz4 hz3 hz2 hz1 hz0
  go_wp2_with fail
  go_ret
  exact ⟨rfl, HB9.out⟩
end Go.Proofs.YtgoglfahlfkbiaaDoor
