/-
  THE LAWS' first.
-/
import Derived.Test.YtlkieeindnpidaaDoorS
namespace Go.Proofs.YtlkieeindnpidaaDoor
open Go.RowKit Tt Hu Hu.Hf

theorem Dc.blocks {w w' : World} {d A limit m : Nat} {M : List Hd} (h : Dc w d A limit m M) (hd : w'.heap[d]? = w.heap[d]?) (hA : w'.heap[A]? = w.heap[A]?) : Dc w' d A limit m M :=
  ⟨(World.cell?_of_block (a := ⟨d, 0, none⟩) hd).trans h.c0, (World.cell?_of_block (a := ⟨d, 1, none⟩) hd).trans h.c1, (World.cell?_of_block (a := ⟨d, 2, none⟩) hd).trans h.c2, fun i => (World.frozen?_of_block (a := ⟨d, i, none⟩) hd).trans (h.z i), h.has.blk hA, h.ne, h.m, h.lim, h.glob⟩
theorem Ec.blocks {w w' : World} {b A : Nat} {s : ES} (h : Ec w b A s) (hb : w'.heap[b]? = w.heap[b]?) (hA : w'.heap[A]? = w.heap[A]?) : Ec w' b A s :=
  ⟨(World.cell?_of_block (a := ⟨b, 0, none⟩) hb).trans h.c0, (World.cell?_of_block (a := ⟨b, 1, none⟩) hb).trans h.c1, (World.cell?_of_block (a := ⟨b, 2, none⟩) hb).trans h.c2, fun i => (World.frozen?_of_block (a := ⟨b, i, none⟩) hb).trans (h.z i), h.has.blk hA, h.ne, h.m, h.least⟩
theorem Ns.blk {w w' : World} {a : Option Addr} {n c : Nat} {l : List Hn} (h : Ns w a n c l) (hb : ∀ p, a = some p → w'.heap[p.block]? = w.heap[p.block]?) : Ns w' a n c l :=
  ⟨h.len, h.le, h.max, h.nil, fun i hi => by
    obtain ⟨b, o, e, h0, h1, h2⟩ := h.row i hi
    have hk := hb _ e
    exact ⟨b, o, e, (World.cell?_of_block (a := ⟨b, o + i * 3, none⟩) hk).trans h0, (World.cell?_of_block (a := ⟨b, o + i * 3 + 1, none⟩) hk).trans h1, (World.cell?_of_block (a := ⟨b, o + i * 3 + 2, none⟩) hk).trans h2⟩⟩
theorem sl_blk {w w' : World} {a : Option Addr} {n c : Nat} {l : List UInt8} (h : Sl w a n c l) (hb : ∀ p, a = some p → w'.heap[p.block]? = w.heap[p.block]?) : Sl w' a n c l :=
  ⟨h.len, h.le, h.max, h.nil, fun i hi => by
    obtain ⟨b, o, e, hc⟩ := h.row i hi
    exact ⟨b, o, e, (World.cell?_of_block (a := ⟨b, o + i, none⟩) (hb ⟨b, o, none⟩ e)).trans hc⟩⟩
/-- Where a row of the call's own lies. -/
theorem own_at {w : World} {B : Nat} {a : Option Addr} {N c : Nat} {l : List UInt8} (h : Hu.Own w B (.slice a N c) l) : ∀ p, a = some p → B ≤ p.block ∧ p.block < w.heap.size := fun p hp => World.ownsRow.lt h p.block (by rw [hp]; rfl)
theorem nown_at {w : World} {B : Nat} {a : Option Addr} {N c : Nat} {l : List Hn} (h : NOwn w B (.slice a N c) l) : ∀ p, a = some p → B ≤ p.block ∧ p.block < w.heap.size := fun p hp => World.ownsRow.lt h p.block (by rw [hp]; rfl)
/-- Three bytes, as they are laid. -/
theorem sl3_laid (w : World) (x y z : UInt8) : Sl (w.alloc (.cells #[.int .u8 (x.toNat : Int), .int .u8 (y.toNat : Int), .int .u8 (z.toNat : Int)] 5)) (some ⟨w.heap.size, 0, none⟩) 3 3 [x, y, z] := by
  refine ⟨rfl, Nat.le_refl _, by unfold maxLen; omega, (fun h => by cases h), fun i hi => ⟨_, _, rfl, ?_⟩⟩
  have h3 : i = 0 ∨ i = 1 ∨ i = 2 := by simp only [List.length_cons, List.length_nil] at hi; omega
  rcases h3 with rfl | rfl | rfl <;> simp
/-- The list of the examples, as it is laid. -/
theorem l0_laid (w : World) : Ns (w.alloc (.cells #[.string ⟨#[58, 109, 101, 116, 104, 111, 100]⟩, .string ⟨#[71, 69, 84]⟩, .bool false, .string ⟨#[58, 112, 97, 116, 104]⟩, .string ⟨#[47]⟩, .bool false, .string ⟨#[97]⟩, .string ⟨#[98]⟩, .bool false] 77)) (some ⟨w.heap.size, 0, none⟩) 3 3 L0 := by
  refine ⟨rfl, Nat.le_refl _, by unfold maxLen; omega, (fun h => by cases h), fun i hi => ⟨_, _, rfl, ?_⟩⟩
  have h3 : i = 0 ∨ i = 1 ∨ i = 2 := by simp only [L0, List.length_cons, List.length_nil] at hi; omega
  rcases h3 with rfl | rfl | rfl <;> simp [L0]

set_option maxRecDepth 100000 in
set_option maxHeartbeats 8000000 in
theorem first_any (E : Nat → Value) (w : World) (hE : Env w E) (hX : Errs E) : Calls Tryd.prog 11 #[] w fun e w' => e = .returned (.bool true) ∧ Below w.heap.size w w' := by
  have HEN := Lib.hid (newEnc_yes 4096 (by omega) w)
  have HE := Lib.hid hE
  have hg := hE.lt
  clear hE
  go_enter Tryd.func11, Tryd.ntmps11
  go_wp2_with fail
  refine HEN.out.mono ?_
  rintro e w1 ⟨b, A, rfl, hEc, hA, hb1⟩
  have hz1 := hb1.size
  have hbl := hEc.lt
  have hne := hEc.ne
  go_wp2_with fail
  refine (newDec_yes 4096 (by omega) w1 (fun g hm => by have := hg g hm; omega)).mono ?_
  rintro e w2 ⟨d, D, rfl, hDc, hD, hb2⟩
  have hz2 := hb2.size
  have hdl := hDc.lt
  have hdn := hDc.ne
  have hb02 := hb1.trans (hb2.mono hz1)
  have hEc2 := hEc.below hb2
  generalize hw3 : w2.alloc (.cells #[.string ⟨#[58, 109, 101, 116, 104, 111, 100]⟩, .string ⟨#[71, 69, 84]⟩, .bool false, .string ⟨#[58, 112, 97, 116, 104]⟩, .string ⟨#[47]⟩, .bool false, .string ⟨#[97]⟩, .string ⟨#[98]⟩, .bool false] 77) = w3
  have hb3 : Below w2.heap.size w2 w3 := by rw [← hw3]; exact (Below.refl _ _).alloc (Nat.le_refl _) _
  have hz3 : w3.heap.size = w2.heap.size + 1 := by rw [← hw3]; simp
  have hNs : Ns w3 (some ⟨w2.heap.size, 0, none⟩) 3 3 L0 := by rw [← hw3]; exact l0_laid w2
  have HE3 := Lib.hid (hEc2.below hb3)
  have HD3 := Lib.hid (hDc.below hb3)
  have HW3 := Lib.hid hw3
  have hb03 := hb02.trans (hb3.mono (by omega))
  have HB3 := Lib.hid hb03
  have HNS := Lib.hid hNs
  generalize hLb : w2.heap.size = Lb at hz3 hNs HNS hdl
  have HLB := Lib.hid hLb
  have HEN1 := Lib.hid (encode_list b A s0 (some ⟨Lb, 0, none⟩) 3 3 L0 w3 HE3.out (fun W hk => HNS.out.blk (fun p hp => by cases hp; exact hk.block Lb (by omega) (by omega) (by omega))) (by decide) L0_small)
  clear hEc hb1 hDc hb2 hb02 hEc2 hw3 hb3 hNs hLb hb03 HEN
  go_wp2_with fail
  rw [HW3.out, HLB.out]
  refine HEN1.out.mono ?_
  rintro e w4 ⟨a4, N4, c4, rfl, hN4, ho4, hE4, hk4⟩
  have hz4 := hk4.size
  have hN1 : Ns w4 (some ⟨Lb, 0, none⟩) 3 3 L0 := HNS.out.blk (fun p hp => by cases hp; exact hk4.block Lb (by omega) (by omega) (by omega))
  have hD4 : Dc w4 d D 4096 4096 [] := HD3.out.blocks (hk4.block d (by omega) (by omega) (by omega)) (hk4.block D (by omega) (by omega) (by omega))
  have hB4 : Below w.heap.size w w4 := HB3.out.trans (hk4.below (by omega) (by omega) (by omega))
  have hS4 := sl_own ho4
  rw [ex1] at hS4
  have hp4 := own_at ho4
  have HN4 := Lib.hid hN1
  have HD4 := Lib.hid hD4
  have HB4 := Lib.hid hB4
  have HS4 := Lib.hid hS4
  have HP4 := Lib.hid hp4
  have hEm : (encode s0 L0).2.asked.getD 0 ≤ 4096 := by decide
  have HEN2 := Lib.hid (encode_list b A (encode s0 L0).2 (some ⟨Lb, 0, none⟩) 3 3 L0 w4 hE4 (fun W hk => HN4.out.blk (fun p hp => by cases hp; exact hk.block Lb (by omega) (by omega) (by omega))) (by decide) L0_small)
  clear HEN1 ho4 hE4 hk4 hN1 hD4 hB4 hS4 hp4 hN4 hEm
  generalize a4 = q4 at *
  go_wp2_with fail
  refine HEN2.out.mono ?_
  rintro e w5 ⟨a5, N5, c5, rfl, hN5, ho5, hE5, hk5⟩
  have hz5 := hk5.size
  have hS5 := sl_own ho5
  rw [ex2] at hS5
  have HS5 := Lib.hid hS5
  have HP5 := Lib.hid (own_at ho5)
  have HS45 : Hid (Sl w5 q4 N4 c4 [130, 132, 64, 1, 97, 1, 98]) := Lib.hid (sl_blk HS4.out (fun p hp => by have := HP4.out p hp; exact hk5.block p.block (by omega) (by omega) (by omega)))
  have HN5 : Hid (Ns w5 (some ⟨Lb, 0, none⟩) 3 3 L0) := Lib.hid (HN4.out.blk (fun p hp => by cases hp; exact hk5.block Lb (by omega) (by omega) (by omega)))
  have HD5 : Hid (Dc w5 d D 4096 4096 []) := Lib.hid (HD4.out.blocks (hk5.block d (by omega) (by omega) (by omega)) (hk5.block D (by omega) (by omega) (by omega)))
  have HB5 : Hid (Below w.heap.size w w5) := Lib.hid (HB4.out.trans (hk5.below (by omega) (by omega) (by omega)))
  clear HEN2 ho5 hE5 hk5 hS5 hN5
  generalize hw6 : w5.alloc (.cells #[.int .u8 31, .int .u8 154, .int .u8 10] 5) = w6
  have hb6 : Below w5.heap.size w5 w6 := by rw [← hw6]; exact (Below.refl _ _).alloc (Nat.le_refl _) _
  have hS6 : Sl w6 (some ⟨w5.heap.size, 0, none⟩) 3 3 [31, 154, 10] := by rw [← hw6]; exact sl3_laid w5 31 154 10
  have HB6 := Lib.hid hb6
  have HW6 := Lib.hid hw6
  have hBw6 : Below w.heap.size w w6 := HB5.out.trans (hb6.mono HB5.out.size)
  have HI := Lib.hid (int_any E 5 _ 3 3 [31, 154, 10] w6 (by omega) (by omega) hS6 (HE.out.kept hBw6))
  rw [ex4] at HI
  clear hw6 hb6 hS6 hBw6
  go_wp2_with fail
  rw [HW6.out]
  refine HI.out.mono ?_
  rintro e w7 ⟨rfl, hb7⟩
  simp only [intV]
  have hb57 : Below w5.heap.size w5 w7 := HB6.out.trans (hb7.mono HB6.out.size)
  have hz7 := hb57.size
  have HB7 : Hid (Below w.heap.size w w7) := Lib.hid (HB5.out.trans (hb57.mono HB5.out.size))
  have HS7 : Hid (Sl w7 q4 N4 c4 [130, 132, 64, 1, 97, 1, 98]) := Lib.hid (HS45.out.kept hb57)
  have HN7 := Lib.hid (HN5.out.kept hb57)
  have HS57 := Lib.hid (HS5.out.kept hb57)
  have HD7 := Lib.hid (HD5.out.below hb57)
  have hn4 := HS7.out.len
  simp only [List.length_cons, List.length_nil] at hn4
  have HDE := Lib.hid (decode_alive E d D 4096 4096 [] q4 N4 c4 _ w7 HD7.out HS7.out (by omega) (fun p hp _ => by have := HP4.out p hp; omega) (HE.out.kept HB7.out) hX)
  obtain ⟨s', ha, hout, hml⟩ := ex3
  rw [show ([130, 132, 64, 1, 97, 1, 98] : List UInt8).length = 7 from rfl, ha] at HDE
  clear ha HI hb7 hb57 hn4 HS45 HN5 HS5 HD5 HB5
  go_wp2_with fail
  refine HDE.out.mono ?_
  rintro e w8 ⟨hk8, v, rfl, ho8, hD8⟩
  rw [hout] at ho8
  obtain ⟨a8, c8, rfl, hn8⟩ := ho8.ns
  have hz8 := hk8.size
  have HN8 : Hid (Ns w8 (some ⟨Lb, 0, none⟩) 3 3 L0) := Lib.hid (HN7.out.blk (fun p hp => by cases hp; exact hk8.block Lb (by omega) (by omega) (by omega)))
  have HS8 : Hid (Sl w8 a5 N5 c5 [130, 132, 190]) := Lib.hid (sl_blk HS57.out (fun p hp => by have := HP5.out p hp; exact hk8.block p.block (by omega) (by omega) (by omega)))
  have HB8 : Hid (Below w.heap.size w w8) := Lib.hid (HB7.out.trans (hk8.below (by omega) (by omega) (by have := HB7.out.size; omega)))
  have HSM := Lib.hid (sames_any a8 L0.length c8 (some ⟨Lb, 0, none⟩) 3 3 L0 w8 hn8 HN8.out)
  have HD8 := Lib.hid hD8
  have HML := Lib.hid hml
  clear HDE hk8 ho8 hD8 hn8 hout hml hX
  go_wp2_with fail
  refine HSM.out.mono ?_
  rintro e w9 ⟨rfl, hb9⟩
  generalize hwA : w9.alloc (.cells #[.int .u8 130, .int .u8 132, .int .u8 190] 5) = wA
  have hbA : Below w9.heap.size w9 wA := by rw [← hwA]; exact (Below.refl _ _).alloc (Nat.le_refl _) _
  have hSA : Sl wA (some ⟨w9.heap.size, 0, none⟩) 3 3 [130, 132, 190] := by rw [← hwA]; exact sl3_laid w9 130 132 190
  have hb8A : Below w8.heap.size w8 wA := hb9.trans (hbA.mono hb9.size)
  have HWA := Lib.hid hwA
  have HSB := Lib.hid (Hu.same_any a5 N5 c5 [130, 132, 190] _ 3 3 [130, 132, 190] wA (HS8.out.kept hb8A) hSA)
  rw [show (([130, 132, 190] : List UInt8) == [130, 132, 190]) = true from by decide] at HSB
  have hlen := decLen_any (HD8.out.below hb8A)
  rw [HML.out] at hlen
  have HLN := Lib.hid hlen
  have HBA : Hid (Below w.heap.size w wA) := Lib.hid (HB8.out.trans (hb8A.mono HB8.out.size))
  clear hwA hbA hSA hb8A hlen HSM hb9
  go_wp2_with fail
  rw [HWA.out]
  refine HSB.out.mono ?_
  rintro e w' ⟨rfl, rfl⟩
  go_wp2_with fail
  refine HLN.out.mono ?_
  rintro e w' ⟨rfl, rfl⟩
  go_wp2_with fail
  go_ret
  exact ⟨rfl, HBA.out⟩
end Go.Proofs.YtlkieeindnpidaaDoor
